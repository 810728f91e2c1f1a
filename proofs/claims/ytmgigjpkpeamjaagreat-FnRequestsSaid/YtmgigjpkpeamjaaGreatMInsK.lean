/- Some texts in one: StoresG, InsK. -/
import Derived.Test.YtmgigjpkpeamjaaGreatStoresC
import Derived.Test.YtmgigjpkpeamjaaGreatRowC
import Derived.Test.YtmgigjpkpeamjaaGreatMBlk
import Derived.Shelf.Spec.SlicesInsert
import Derived.Lib.AppendZerosOnto
import Derived.Laws.CopyRow
/- Stores of facts (chapter 7): contracts of the landed functions: the place of a fact in a store (a closure handed to sort.Search). No condition but the length of what came in. -/
namespace Go.Proofs.YtmgigjpkpeamjaaGreat
open Go.ChangeShapes Go.WideShapes Go.ChangeAt Go.RowKit
set_option linter.unusedVariables false

/-- What the closure has captured: the store, the fact, and the order. -/
structure Sought (w : World) (n : Nat) (u : Value) (f : FactD) : Prop where
  l : w.cell? ⟨n, 0, none⟩ = some u
  x0 : w.cell? ⟨n + 1, 0, none⟩ = some (.int .i64 f.Kind)
  x1 : w.cell? ⟨n + 1, 1, none⟩ = some (.int .i64 f.Subject)
  x2 : w.cell? ⟨n + 1, 2, none⟩ = some (.int .i64 f.Value)
  x3 : w.cell? ⟨n + 1, 3, none⟩ = some (.int .i64 f.Issuer)
  x4 : w.cell? ⟨n + 1, 4, none⟩ = some (.int .i64 f.At)
  x5 : w.cell? ⟨n + 1, 5, none⟩ = some (.int .i64 f.Until)
  b : w.cell? ⟨n + 2, 0, none⟩ = some (.func (.func 23) #[] #[])
  lt : n + 2 < w.heap.size
theorem Sought.below {w w' : World} {n : Nat} {u : Value} {f : FactD} {B : Nat} (h : Sought w n u f) (hb : Below B w w') (hB : n + 2 < B) : Sought w' n u f :=
  ⟨(hb.cell (by show n < B; omega)).trans h.l, (hb.cell (by show n + 1 < B; omega)).trans h.x0, (hb.cell (by show n + 1 < B; omega)).trans h.x1, (hb.cell (by show n + 1 < B; omega)).trans h.x2, (hb.cell (by show n + 1 < B; omega)).trans h.x3, (hb.cell (by show n + 1 < B; omega)).trans h.x4, (hb.cell (by show n + 1 < B; omega)).trans h.x5, (hb.cell (by show n + 2 < B; omega)).trans h.b, Nat.lt_of_lt_of_le h.lt hb.size⟩
set_option maxHeartbeats 4000000 in
theorem impl_notBefore (w : World) (hi c n i : Nat) (a : Option Addr) (xs : List FactD) (f : FactD) (h : RowFact w hi (.slice a xs.length c) xs) (hS : Sought w n (.slice a xs.length c) f) (hlt : i < xs.length) :
    Calls Tryz.prog 48 #[.int .i64 (i : Int), .pointer (some ⟨n + 2, 0, none⟩), .pointer (some ⟨n, 0, none⟩), .pointer (some ⟨n + 1, 0, none⟩)] w fun e w' => e = .returned (.bool (!beforeB xs[i] f)) ∧ Below w.heap.size w w' := by
  obtain ⟨h1, h2⟩ := h.fits
  unfold maxLen at h2
  obtain ⟨x, hx'⟩ : ∃ x, xs[i] = x := ⟨_, rfl⟩
  have hx : xs[i]? = some x := by rw [List.getElem?_eq_getElem hlt, hx']
  obtain ⟨r, hr⟩ : ∃ r, beforeB x f = r := ⟨_, rfl⟩
  rw [hx', hr]
  have HE := Lib.hid (fun W => show Calls Tryz.prog 23 #[x.val, f.val] W fun e w' => e = .returned (.bool r) ∧ Below W.heap.size W w' from hr ▸ impl_before x f W)
  clear hr hx'
  obtain ⟨p0, p1, p2, p3, p4, p5⟩ := x
  obtain ⟨q0, q1, q2, q3, q4, q5⟩ := f
  rw [FactD.val_mk, FactD.val_mk] at HE
  obtain ⟨b, off, rfl, g1, g2, HC⟩ := h.at hx
  have HS2 := Lib.hid (fun (w' : World) (hb' : Below w.heap.size w w') => (⟨⟨hS.below hb' hS.lt, HC _ _ g2 hb'⟩, hb'⟩ : (Sought w' n (.slice (some ⟨b, off, none⟩) xs.length c) ⟨q0, q1, q2, q3, q4, q5⟩ ∧ w'.cell? ⟨b, off + i * 6, none⟩ = some (.int .i64 p0) ∧ w'.cell? ⟨b, off + i * 6 + 1, none⟩ = some (.int .i64 p1) ∧ w'.cell? ⟨b, off + i * 6 + 2, none⟩ = some (.int .i64 p2) ∧ w'.cell? ⟨b, off + i * 6 + 3, none⟩ = some (.int .i64 p3) ∧ w'.cell? ⟨b, off + i * 6 + 4, none⟩ = some (.int .i64 p4) ∧ w'.cell? ⟨b, off + i * 6 + 5, none⟩ = some (.int .i64 p5)) ∧ Below w.heap.size w w'))
  have hbD := (Below.refl w.heap.size w).drew
  clear h hx HC hS
  go_enter Tryz.func48, Tryz.ntmps48
  go_wp2_with fail
  go_region_held3 (fun w' => (w'.cell? ⟨n, 0, none⟩ = some (.slice (some ⟨b, off, none⟩) xs.length c) ∧ w'.cell? ⟨n + 2, 0, none⟩ = some (.func (.func 23) #[] #[]) ∧ w'.cell? ⟨n + 1, 0, none⟩ = some (.int .i64 q0) ∧ w'.cell? ⟨n + 1, 1, none⟩ = some (.int .i64 q1) ∧ w'.cell? ⟨n + 1, 2, none⟩ = some (.int .i64 q2) ∧ w'.cell? ⟨n + 1, 3, none⟩ = some (.int .i64 q3) ∧ w'.cell? ⟨n + 1, 4, none⟩ = some (.int .i64 q4) ∧ w'.cell? ⟨n + 1, 5, none⟩ = some (.int .i64 q5)) ∧ (w'.cell? ⟨b, off + i * 6, none⟩ = some (.int .i64 p0) ∧ w'.cell? ⟨b, off + i * 6 + 1, none⟩ = some (.int .i64 p1) ∧ w'.cell? ⟨b, off + i * 6 + 2, none⟩ = some (.int .i64 p2) ∧ w'.cell? ⟨b, off + i * 6 + 3, none⟩ = some (.int .i64 p3) ∧ w'.cell? ⟨b, off + i * 6 + 4, none⟩ = some (.int .i64 p4) ∧ w'.cell? ⟨b, off + i * 6 + 5, none⟩ = some (.int .i64 p5)) ∧ Below w.heap.size w w')
    (first | (obtain ⟨⟨⟨y0, y1, y2, y3, y4, y5, y6, y7, _⟩, y8⟩, y9⟩ := HS2.out _ hbD; exact ⟨⟨y0, y7, y1, y2, y3, y4, y5, y6⟩, y8, y9⟩) | (obtain ⟨⟨⟨y0, y1, y2, y3, y4, y5, y6, y7, _⟩, y8⟩, y9⟩ := HS2.out _ (hbD.trans (Below.mono (by assumption) hbD.size)); exact ⟨⟨y0, y7, y1, y2, y3, y4, y5, y6⟩, y8, y9⟩))
    (first | (go_at_call 23; (with_reducible refine (HE.out _).mono ?_); rintro e1 w1 ⟨rfl, b1⟩))
  go_wp2
  go_ret
  exact ⟨rfl, hbD.trans (b1.mono hbD.size)⟩
set_option maxHeartbeats 4000000 in
theorem impl_search (w : World) (m n : Nat) (p : Nat → Bool) (hsz : n ≤ 1048576)
    (hf : ∀ (W : World), Below w.heap.size w W → ∀ i : Nat, i < n → Calls Tryz.prog 48 (#[.int .i64 (i : Int)] ++ #[.pointer (some ⟨m + 2, 0, none⟩), .pointer (some ⟨m, 0, none⟩), .pointer (some ⟨m + 1, 0, none⟩)]) W fun e w' => e = .returned (.bool (p i)) ∧ Below W.heap.size W w')
    (hmono : ∀ a b, a ≤ b → b < n → p a = true → p b = true) :
    Calls Tryz.prog 47 #[.int .i64 (n : Int), .func (.func 48) #[] #[.pointer (some ⟨m + 2, 0, none⟩), .pointer (some ⟨m, 0, none⟩), .pointer (some ⟨m + 1, 0, none⟩)]] w fun e w' => ∃ k : Nat, k ≤ n ∧ e = .returned (.int .i64 (k : Int)) ∧ ((∀ t, t < k → p t = false) ∧ (∀ t, k ≤ t → t < n → p t = true)) ∧ Below w.heap.size w w' := by
  have HF := Lib.hid hf
  have M := Lib.hid hmono
  clear hf hmono
  go_enter Tryz.func47, Tryz.ntmps47
  go_wp2
  go_loopw [5, 6] (fun s5 s6 wr => ∃ lo hi : Nat, s5 = .int .i64 (lo : Int) ∧ s6 = .int .i64 (hi : Int) ∧ lo ≤ hi ∧ hi ≤ n ∧ Hid ((∀ t, t < lo → p t = false) ∧ (∀ t, hi ≤ t → t < n → p t = true)) ∧ Below w.heap.size w wr) (fun s5 s6 _ => (intOf s6).toNat - (intOf s5).toNat)
  case atStart => exact ⟨0, n, rfl, rfl, Nat.zero_le _, Nat.le_refl _, Lib.hid ⟨fun t ht => absurd ht (Nat.not_lt_zero _), fun t h1 h2 => by omega⟩, Below.refl _ _⟩
  case round =>
    obtain ⟨lo, hi, rfl, rfl, hlh, hin, I, hb⟩ := hrel
    by_cases hlt : lo < hi
    · have hc := HF.out _ hb ((lo + hi) / 2) (by omega)
      rw [show (((lo + hi) / 2 : Nat) : Int) = ((lo : Int) + (hi : Int)) / 2 by omega] at hc
      cases hp : p ((lo + hi) / 2)
      · rw [hp] at hc
        have HP := Lib.hid hp
        clear hp
        have HC := Lib.hid hc
        clear hc
        go_wp2_with fail
        refine HC.out.mono ?_
        rintro e u ⟨rfl, b1⟩
        have d1 := hb.trans (b1.mono hb.size)
        go_wp2
        refine ⟨⟨(lo + hi) / 2 + 1, hi, by go_num, rfl, by omega, hin, Lib.hid ⟨fun t ht => ?_, I.out.2⟩, d1⟩, by simp only [intOf]; omega⟩
        cases h : p t with
        | false => rfl
        | true =>
          have := M.out t ((lo + hi) / 2) (by omega) (by omega) h
          rw [HP.out] at this
          cases this
      · rw [hp] at hc
        have HP := Lib.hid hp
        clear hp
        have HC := Lib.hid hc
        clear hc
        go_wp2_with fail
        refine HC.out.mono ?_
        rintro e u ⟨rfl, b1⟩
        have d1 := hb.trans (b1.mono hb.size)
        go_wp2
        refine ⟨⟨lo, (lo + hi) / 2, rfl, by go_num, by omega, by omega, Lib.hid ⟨I.out.1, fun t ht htn => M.out ((lo + hi) / 2) t ht htn HP.out⟩, d1⟩, by simp only [intOf]; omega⟩
    · obtain rfl : hi = lo := by omega
      go_wp2
      go_ret
      exact ⟨hi, hin, rfl, I.out, hb⟩
set_option maxHeartbeats 4000000 in
theorem impl_placeOf (w : World) (hi c : Nat) (a : Option Addr) (xs : List FactD) (f : FactD) (h : RowFact w hi (.slice a xs.length c) xs) (hh : hi ≤ w.heap.size) (hn : xs.length ≤ 1048576) (hasc : Asc xs) :
    Calls Tryz.prog 22 #[.slice a xs.length c, f.val, .func (.func 23) #[] #[]] w fun e w' => ∃ k : Nat, k ≤ xs.length ∧ e = .returned (.int .i64 (k : Int)) ∧ ((∀ t (ht : t < xs.length), t < k → beforeB xs[t] f = true) ∧ (∀ t (ht : t < xs.length), k ≤ t → beforeB xs[t] f = false)) ∧ Below w.heap.size w w' := by
  obtain ⟨W, hW, hB, hC⟩ : ∃ W, W = ((w.alloc (.cells #[.slice a xs.length c] 25)).alloc (.cells #[.int .i64 f.Kind, .int .i64 f.Subject, .int .i64 f.Value, .int .i64 f.Issuer, .int .i64 f.At, .int .i64 f.Until] 34)).alloc (.cells #[.func (.func 23) #[] #[]] 43) ∧ Below w.heap.size w W ∧ Sought W w.heap.size (.slice a xs.length c) f :=
    ⟨_, rfl, by go_grown, ⟨by go_simp, by go_simp, by go_simp, by go_simp, by go_simp, by go_simp, by go_simp, by go_simp, by simp⟩⟩
  have hS := impl_search W w.heap.size xs.length (fun t => match xs[t]? with | some x => !beforeB x f | none => false) hn (fun V hV t ht => by
    have h8 := impl_notBefore V hi c w.heap.size t a xs f (h.below (hB.trans (hV.mono hB.size)) hh) (hC.below hV hC.lt) ht
    simp only [List.getElem?_eq_getElem ht]
    exact h8) (fun s t hst ht hs => by
      simp only [List.getElem?_eq_getElem ht, List.getElem?_eq_getElem (show s < xs.length by omega), Bool.not_eq_true'] at hs ⊢
      rcases Nat.lt_or_eq_of_le hst with hlt | rfl
      · cases hb : beforeB xs[t] f
        · rfl
        · rw [beforeB_trans (List.pairwise_iff_getElem.1 hasc s t (by omega) ht hlt) hb] at hs
          cases hs
      · exact hs)
  have HS := Lib.hid hS
  clear hS hasc h
  obtain ⟨q0, q1, q2, q3, q4, q5⟩ := f
  rw [FactD.val_mk]
  dsimp only at hW
  go_enter Tryz.func22, Tryz.ntmps22
  go_upto_region 1 with fail
  rw [← hW]
  clear hW
  have hl := hC.l
  go_wp2_with fail
  refine HS.out.mono ?_
  rintro e u ⟨k, hk, rfl, ⟨g1, g2⟩, b1⟩
  have d1 := hB.trans (b1.mono hB.size)
  have G1 := Lib.hid g1
  have G2 := Lib.hid g2
  clear g1 g2
  go_wp2
  go_ret
  refine ⟨k, hk, rfl, ⟨fun t ht h3 => ?_, fun t ht h3 => ?_⟩, d1⟩
  · have := G1.out t h3
    simpa [List.getElem?_eq_getElem ht] using this
  · have := G2.out t h3 ht
    simpa [List.getElem?_eq_getElem ht] using this
end Go.Proofs.YtmgigjpkpeamjaaGreat
/- An element set into a slice of one's own: the library's slices.Insert, as cells (any struct without slices). No condition. -/
namespace Go.Proofs.YtmgigjpkpeamjaaGreat
open Go.ChangeShapes Go.WideShapes Go.ChangeAt Go.RowKit Go.Lib
set_option linter.unusedVariables false

/-- 'copy' into a row of cells, elements of s cells each: all is read before anything is written. -/
theorem run_copy_rowK {P : Program} (w : World) (dT sT ty elem : TypeId) (s g o dLen dCap : Nat) (a : Addr) (sLen sCap n : Nat) (cur : Array Value) (t : TypeId) (cs : List Value)
    (hu : P.underlying dT = some (.slice elem)) (hs : (P.info? elem).map (·.size) = some s)
    (hg : w.heap[g]? = some (.cells cur t (0, 0))) (hn : n = Nat.min sLen dLen) (hl : cs.length = n * s)
    (hsrc : ∀ j v, cs[j]? = some v → w.cell? (a.add j) = some v) (hfit : o + cs.length ≤ cur.size) (h1 : ∀ v ∈ cs, v.oneCell' = true) :
    ∃ W, (Builtin.copy_ #[dT, sT] ty #[.slice (some ⟨g, o, none⟩) dLen dCap, .slice (some a) sLen sCap]).run P w = .ok (goInt n) W ∧
      W.heap[g]? = some (.cells (cur.toList.take o ++ cs ++ cur.toList.drop (o + cs.length)).toArray t (0, 0)) ∧ w.grownBy W (some g) ∧ W.heap.size = w.heap.size := by
  have hld := run_loadCells_list (P := P) w a cs hsrc
  have hst := run_storeCells_at P g o t cs 0 cur w hg (by simpa using hfit) h1
  refine ⟨_, ?_, setRow_heap w g cur _ t _ hg, ?_, ?_⟩
  · cases hq : P.info? elem with
    | none => simp [hq] at hs
    | some i =>
      have hi : i.size = s := by simpa [hq] using hs
      simp [Builtin.copy_, run_underlying hu, Builtin.lenOf, Builtin.firstCells, sizeOf, typeInfo, hq, hi, ← hn, ← hl, hld, hst]
  · exact ⟨rfl, rfl, rfl, by rw [setRow_size]; exact Nat.le_refl _, fun k _ hk => setRow_other w g k _ fun e => hk (by rw [e])⟩
  · rw [setRow_size]
/-- The cells of a row into which one element is set, by two copies: in place, and into a new row. -/
theorem ins_cells (L C F : List Value) (a b s : Nat) (hC : L.take b = C) (ha : a ≤ b) (hb : b + s ≤ L.length) (hF : F.length = s) :
    let L1 := L.take (a + s) ++ C.drop a ++ L.drop (a + s + (C.drop a).length)
    (L1.take a ++ F ++ L1.drop (a + F.length)).take (b + s) = C.take a ++ F ++ C.drop a := by
  intro L1
  have hCl : C.length = b := by rw [← hC, List.length_take]; omega
  have hd : (C.drop a).length = b - a := by rw [List.length_drop, hCl]
  have h1 : L1.take a = C.take a := by
    show (L.take (a + s) ++ C.drop a ++ _).take a = _
    rw [List.append_assoc, List.take_append_of_le_length (by rw [List.length_take]; omega), List.take_take, ← hC, List.take_take]
    congr 1
    omega
  have h2 : L1.drop (a + F.length) = C.drop a ++ L.drop (a + s + (C.drop a).length) := by
    show (L.take (a + s) ++ C.drop a ++ _).drop _ = _
    rw [hF, List.append_assoc, List.drop_append_of_le_length (by rw [List.length_take]; omega), List.drop_of_length_le (by rw [List.length_take]; omega), List.nil_append]
  rw [h1, h2, ← List.append_assoc, List.take_left' (by rw [List.length_append, List.length_append, List.length_take, hd, hF, hCl]; omega)]
theorem new_cells (L C F : List Value) (a b s : Nat) (hC : C.length = b) (hL : L.take a = C.take a) (ha : a ≤ b) (hb : b + s ≤ L.length) (hF : F.length = s) :
    let L1 := L.take a ++ F ++ L.drop (a + F.length)
    (L1.take (a + s) ++ C.drop a ++ L1.drop (a + s + (C.drop a).length)).take (b + s) = C.take a ++ F ++ C.drop a := by
  intro L1
  have hd : (C.drop a).length = b - a := by rw [List.length_drop, hC]
  have h1 : L1.take (a + s) = C.take a ++ F := by
    show (L.take a ++ F ++ _).take _ = _
    rw [List.take_left' (by rw [List.length_append, List.length_take, hF]; omega), hL]
  rw [h1, List.take_left' (by rw [List.length_append, List.length_append, List.length_take, hd, hF, hC]; omega)]
theorem zeroCells_size (z : Array Value) (s n : Nat) (h : z.size = s) : (Builtin.zeroCells z n).size = n * s := by
  simp [Builtin.zeroCells, h]
theorem flat_take {X : Type} {f : X → List Value} {s : Nat} (hf : ∀ x, (f x).length = s) (xs : List X) (k : Nat) (hk : k ≤ xs.length) : (xs.flatMap f).take (k * s) = (xs.take k).flatMap f ∧ (xs.flatMap f).drop (k * s) = (xs.drop k).flatMap f := by
  have h : xs.flatMap f = (xs.take k).flatMap f ++ (xs.drop k).flatMap f := by rw [← List.flatMap_append, List.take_append_drop]
  have hl : ((xs.take k).flatMap f).length = k * s := by rw [flat_len hf, List.length_take]; congr 1; omega
  exact ⟨by rw [h, List.take_left' hl], by rw [h, List.drop_left' hl]⟩
end Go.Proofs.YtmgigjpkpeamjaaGreat
