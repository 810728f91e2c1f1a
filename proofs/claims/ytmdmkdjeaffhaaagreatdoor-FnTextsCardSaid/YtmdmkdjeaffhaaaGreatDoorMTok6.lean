/- Some texts in one: Tok13, Tok6. -/
import Derived.Test.YtmdmkdjeaffhaaaGreatDoorTok12
import Derived.Test.YtmdmkdjeaffhaaaGreatDoorText9
import Derived.Test.YtmdmkdjeaffhaaaGreatDoorNode7
import Derived.Test.YtmdmkdjeaffhaaaGreatDoorTok5
import Derived.Test.YtmdmkdjeaffhaaaGreatDoorMNumWalk
import Derived.Test.YtmdmkdjeaffhaaaGreatDoorMText7
/- Text of conditions (chapter 16): FormatCond as landed. Conditions: the table that the library's Itoa reads lies in the world; the bounds of what came in. -/
namespace Go.Proofs.YtmdmkdjeaffhaaaGreatDoor
open Go.Lib Go.ChangeShapes Go.WideShapes Go.ChangeAt Go.RowKit
set_option linter.unusedVariables false
set_option linter.unusedSimpArgs false

set_option maxHeartbeats 2000000 in
theorem implZ_formatCond (w : World) (hi : Nat) (x0 : CondD) (v0 : List Value) (h0 : rdL w hi (CondD.c x0) v0) (hh : hi ≤ w.heap.size) (hs : szE (CondD.c x0) ≤ 100000000) (hT : HasTab w) :
    Calls Tryz.prog 8 #[.agg v0.toArray] w fun e w' => e = .returned (.string (textB x0)) ∧ Below w.heap.size w w' := by
  have CI := Lib.hid (fun (U : World) (hU : Below w.heap.size w U) => implZ_isCond U hi x0 v0 (h0.below hU hh) (Nat.le_trans hh hU.size) hs)
  have CT := Lib.hid (fun (hc : condB x0 = true) (U : World) (hU : Below w.heap.size w U) => textT_all w hT 15 x0 U hi v0 (condB_sz hc).1 (condB_sz hc).2 (by decide) (h0.below hU hh) (Nat.le_trans hh hU.size) hU)
  have HT := Lib.hid (show ∀ B, textB x0 = B → if condB x0 = true then B = ⟨(textC x0).toArray⟩ else B = ⟨#[]⟩ from fun B hB => by
    unfold textB at hB
    split
    · rename_i h
      rw [if_pos h] at hB
      exact hB.symm
    · rename_i h
      rw [if_neg h] at hB
      exact hB.symm)
  obtain ⟨B, hB⟩ : ∃ B, textB x0 = B := ⟨_, rfl⟩
  have HB := Lib.hid (HT.out B hB)
  rw [hB]
  clear hB HT
  generalize textC x0 = L at HB CT
  obtain ⟨o, a, b, es⟩ := x0
  obtain ⟨A, c, rfl, f1, f2, h3⟩ := cond_in h0
  clear h0 h3 hs
  generalize es.length = n at CI CT f1
  obtain ⟨V, hV⟩ : ∃ V, V = w.alloc (.cells #[.int .i64 o, .int .i64 a, .int .i64 b, .slice A n c] 27) := ⟨_, rfl⟩
  have hV1 : Below w.heap.size w V := by rw [hV]; exact (Below.refl _ _).alloc (Nat.le_refl _) _
  have cV : V.heap[w.heap.size]? = some (.cells #[.int .i64 o, .int .i64 a, .int .i64 b, .slice A n c] 27) := by rw [hV]; exact blk_new _ _ _
  have HC := Lib.hid (show ∀ u, Below V.heap.size V u → _ from fun u (hu : Below V.heap.size V u) => (cls_4 (blk_keep cV hu (blk_lt cV))).1)
  obtain ⟨x0, x1, x2, x3⟩ := (cls_4 cV).1
  have C1 := Lib.hid (CI.out V hV1)
  generalize condB ⟨o, a, b, es⟩ = ok at C1 CT HB
  have HV1 := Lib.hid hV1
  clear cV CI hV1
  cases ok
  · have HE := Lib.hid (show B = ⟨#[]⟩ from by have := HB.out; rwa [if_neg (by decide)] at this)
    go_enter Tryz.func8, Tryz.ntmps8
    go_upto_region 1 with fail
    rw [← hV]
    clear hV
    go_wp2_with (go_at_call 9; refine C1.out.mono ?_; rintro e u ⟨rfl, hu⟩)
    go_ret
    exact ⟨ret_str HE.out.symm, HV1.out.trans (hu.mono HV1.out.size)⟩
  · have HE := Lib.hid (show B = ⟨L.toArray⟩ from by have := HB.out; rwa [if_pos rfl] at this)
    have C2 := Lib.hid (CT.out rfl)
    go_enter Tryz.func8, Tryz.ntmps8
    go_upto_region 1 with fail
    rw [← hV]
    clear hV
    go_wp2_with (first
      | (go_at_call 9; refine C1.out.mono ?_; rintro e u ⟨rfl, hu⟩; obtain ⟨y0, y1, y2, y3⟩ := HC.out u hu; have hwu := HV1.out.trans (hu.mono HV1.out.size))
      | (go_at_call 19; refine (C2.out u hwu).mono ?_; rintro e u2 ⟨BT, rfl, hBT, hb2⟩))
    go_ret
    exact ⟨ret_str ((bytes_of hBT).trans HE.out.symm), hwu.trans (hb2.mono hwu.size)⟩
end Go.Proofs.YtmdmkdjeaffhaaaGreatDoor
/- Text of conditions (chapter 16): a number read, as landed; what the parser leaves. Condition: the library's tables and errors lie in the world. -/
namespace Go.Proofs.YtmdmkdjeaffhaaaGreatDoor
open Go.Lib Go.ChangeShapes Go.WideShapes Go.ChangeAt Go.RowKit
set_option linter.unusedVariables false

/-- What the library's functions read lies in the world. -/
def Tabs (w : World) : Prop := HasTab w ∧ HasErr w
theorem Tabs.kept {w w' : World} (h : Tabs w) (hb : Below w.heap.size w w') : Tabs w' := ⟨h.1.kept hb, h.2.kept hb⟩
theorem tch_base {w0 w w' : World} {p : Nat} (hb : Below w0.heap.size w0 w) (hp : w0.heap.size ≤ p) (ht : Touch [p] w w') : Below w0.heap.size w0 w' :=
  hb.trans (ht.below (fun k hk => by rw [List.mem_singleton] at hk; omega) hb.size)
theorem tch_blk {w w' : World} {p f : Nat} {o : Obj} (h : w.heap[f]? = some o) (ht : Touch [p] w w') (hf : f ≠ p) : w'.heap[f]? = some o :=
  (ht.block f (blk_lt h) (fun hk => hf (List.mem_singleton.1 hk))).trans h
theorem tch_own {w w' : World} {p lo : Nat} {cs : List Cell} {us : List Value} {fp : List Nat} (h : owE w cs us fp) (ht : Touch [p] w w') (hp : p < lo) (hf : ∀ k ∈ fp, lo ≤ k ∧ k < w.heap.size) : owE w' cs us fp :=
  h.keep fun k hk => ht.block k (hf k hk).2 fun h2 => by have h3 := List.mem_singleton.1 h2; have := (hf k hk).1; omega
/-- What reading a condition leaves. -/
def Parsed (w : World) (p : Nat) (R : Option (CondD × List UInt8)) (e : Ending) (w' : World) : Prop := Touch [p] w w' ∧
  ((∃ x r us fp, R = some (x, r) ∧ e = .returned (.agg us.toArray) ∧ owE w' (CondD.c x) us fp ∧ fp.Nodup ∧ (∀ k ∈ fp, w.heap.size ≤ k ∧ k < w'.heap.size) ∧ Rdr w' p r) ∨ (R = none ∧ PanT e))
theorem Parsed.no {w w' : World} {p : Nat} {R : Option (CondD × List UInt8)} {e : Ending} (h : R = none) (ht : Touch [p] w w') (he : PanT e) : Parsed w p R e w' := ⟨ht, .inr ⟨h, he⟩⟩
theorem Parsed.yes {w w' : World} {p : Nat} {R : Option (CondD × List UInt8)} {x : CondD} {r : List UInt8} {us : List Value} {fp : List Nat} (h : R = some (x, r)) (ht : Touch [p] w w') (ho : owE w' (CondD.c x) us fp) (nd : fp.Nodup) (rg : ∀ k ∈ fp, w.heap.size ≤ k ∧ k < w'.heap.size) (hr : Rdr w' p r) : Parsed w p R (.returned (.agg us.toArray)) w' :=
  ⟨ht, .inl ⟨x, r, us, fp, h, rfl, ho, nd, rg, hr⟩⟩
set_option maxHeartbeats 2000000 in
set_option maxRecDepth 100000 in
theorem number_yes (w0 w : World) (p : Nat) (s r : List UInt8) (n : Int) (hK : Tabs w0) (hb : Below w0.heap.size w0 w) (hp : w0.heap.size ≤ p) (h : Rdr w p s) (hn : numT s = some (n, r)) :
    Calls Tryz.prog 54 #[.func (Fn.func 50) #[] #[.pointer (some ⟨p, 0, none⟩)]] w fun e w' => e = .returned (.int .i64 n) ∧ Rdr w' p r ∧ Touch [p] w w' := by
  have HN := Lib.hid (impl_next w p s h)
  have hq : parsed (tokL s) = true ∧ parsedVal (tokL s) = n ∧ restT s = r := by
    unfold numT at hn
    split at hn
    · rename_i e
      injection hn with hn
      injection hn with h1 h2
      exact ⟨e, h1, h2⟩
    · cases hn
  have HP := Lib.hid (show ∀ (tk : ByteArray) (u : World), tk.data.toList = tokL s ∧ tk.size ≤ 400 → Touch [p] w u → Calls Tryz.prog 65 #[.string tk] u fun e w' => e = .returned (.tuple #[.int .i64 n, .bool true]) ∧ Below u.heap.size u w' from fun tk u htk ht => by
    have hu := tch_base hb hp ht
    have := impl_parse tk (by omega) u (hK.1.kept hu) (hK.2.kept hu)
    rwa [htk.1, hq.1, hq.2.1] at this)
  have HE := Lib.hid hq.2.2
  clear h hn hq hK hb hp
  go_enter Tryz.func54, Tryz.ntmps54
  go_wp2_with fail
  refine HN.out.mono ?_
  rintro e u ⟨tk, rfl, htk, hr, ht⟩
  have HR := Lib.hid hr
  have HT := Lib.hid ht
  have HC := Lib.hid (HP.out tk u htk ht)
  clear hr ht htk HP
  go_wp2_with (go_at_call 65; refine HC.out.mono ?_; rintro e u2 ⟨rfl, hb2⟩)
  go_ret
  exact ⟨rfl, HE.out ▸ HR.out.below hb2, HT.out.trans (Touch.of hb2)⟩
set_option maxHeartbeats 2000000 in
set_option maxRecDepth 100000 in
theorem number_no (w0 w : World) (p : Nat) (s : List UInt8) (hK : Tabs w0) (hb : Below w0.heap.size w0 w) (hp : w0.heap.size ≤ p) (h : Rdr w p s) (hn : numT s = none) :
    Calls Tryz.prog 54 #[.func (Fn.func 50) #[] #[.pointer (some ⟨p, 0, none⟩)]] w fun e w' => (∃ T v, e = .panicked [{ v := .iface T v, recovered := false }]) ∧ Touch [p] w w' := by
  have HN := Lib.hid (impl_next w p s h)
  have hq : parsed (tokL s) = false := by
    unfold numT at hn
    split at hn
    · cases hn
    · rename_i e
      simpa using e
  have HP := Lib.hid (show ∀ (tk : ByteArray) (u : World), tk.data.toList = tokL s ∧ tk.size ≤ 400 → Touch [p] w u → Calls Tryz.prog 65 #[.string tk] u fun e w' => (∃ n, e = .returned (.tuple #[.int .i64 n, .bool false])) ∧ Below u.heap.size u w' from fun tk u htk ht => by
    have hu := tch_base hb hp ht
    refine (impl_parse tk (by omega) u (hK.1.kept hu) (hK.2.kept hu)).mono ?_
    rintro e w' ⟨rfl, h2⟩
    rw [htk.1, hq]
    exact ⟨⟨_, rfl⟩, h2⟩)
  clear h hn hq hK hb hp
  go_enter Tryz.func54, Tryz.ntmps54
  go_wp2_with fail
  refine HN.out.mono ?_
  rintro e u ⟨tk, rfl, htk, hr, ht⟩
  have HT := Lib.hid ht
  have HC := Lib.hid (HP.out tk u htk ht)
  clear hr ht htk HP
  go_wp2_with (go_at_call 65; refine HC.out.mono ?_; rintro e u2 ⟨⟨n, rfl⟩, hb2⟩)
  exact ⟨rfl, ⟨_, _, rfl⟩, HT.out.trans (Touch.of hb2)⟩
end Go.Proofs.YtmdmkdjeaffhaaaGreatDoor
