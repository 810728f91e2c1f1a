/- Contracts of the program's chapter 3: the key stream (a closure), Encrypt and Decrypt. -/
import Derived.Test.YtlbdagmmlfcbpaaCryI
import Derived.Laws.OwnMore
import Derived.Deep.DeepCutAuto
namespace Go.Proofs.Ytlbdagmmlfcbpaa
open Go.ChangeShapes Go.WideShapes Go.ChangeAt Go.RowKit
set_option linter.unusedVariables false

/-- One byte of a text, turned by the key stream of the sign sg. -/
def strF (sg s : Int) (i : Nat) (x : Int) : Int := (x + (sg * keyed s [(i : Int)]) % 256) % 256
theorem strF_enc (s : Int) (l : List Int) : crypt (strF 1 s) l l.length = encL s l := by
  unfold encL
  congr 1
  funext i x
  unfold strF encF
  rw [Int.one_mul]
theorem strF_dec (s : Int) (l : List Int) : crypt (strF (-1) s) l l.length = decL s l := by
  unfold decL
  congr 1
  funext i x
  unfold strF decF
  omega
theorem impl_keyStream (w : World) (s sg : Int) :
    Calls Try.prog 35 #[.int .i64 s, .int .i64 sg] w fun e w' => e = .returned (.func (Fn.func 42) #[] #[.pointer (some ⟨w.heap.size + 1, 0, none⟩), .pointer (some ⟨w.heap.size, 0, none⟩)]) ∧
      w'.heap.size = w.heap.size + 2 ∧ w'.cell? ⟨w.heap.size, 0, none⟩ = some (.int .i64 s) ∧ w'.cell? ⟨w.heap.size + 1, 0, none⟩ = some (.int .i64 sg) ∧ Below w.heap.size w w' := by
  obtain ⟨wa, hwa⟩ : ∃ wa, w.alloc (.cells #[.int .i64 s] 3) = wa := ⟨_, rfl⟩
  have sa : wa.heap.size = w.heap.size + 1 := by rw [← hwa]; simp
  have ca : wa.cell? ⟨w.heap.size, 0, none⟩ = some (.int .i64 s) := by rw [← hwa, World.cell?_alloc_new]; rfl
  have ba := (Below.refl w.heap.size w).alloc (Nat.le_refl _) (.cells #[.int .i64 s] 3)
  rw [hwa] at ba
  have sb : (wa.alloc (.cells #[.int .i64 sg] 3)).heap.size = w.heap.size + 2 := by simp; omega
  have cb : (wa.alloc (.cells #[.int .i64 sg] 3)).cell? ⟨w.heap.size + 1, 0, none⟩ = some (.int .i64 sg) := by rw [← sa, World.cell?_alloc_new]; rfl
  have bb := (Below.refl wa.heap.size wa).alloc (Nat.le_refl _) (.cells #[.int .i64 sg] 3)
  have cc := (bb.cell (p := ⟨w.heap.size, 0, none⟩) (by show w.heap.size < _; omega)).trans ca
  have bB := ba.trans (bb.mono (by omega))
  obtain ⟨wb, hwb⟩ : ∃ wb, wa.alloc (.cells #[.int .i64 sg] 3) = wb := ⟨_, rfl⟩
  rw [hwb] at sb cb cc bB
  have hE : (w.alloc (.cells #[.int .i64 s] 3)).alloc (.cells #[.int .i64 sg] 3) = wb := by rw [hwa, hwb]
  have H := Lib.hid (And.intro sb (And.intro cc (And.intro cb bB)))
  clear hwa hwb sa ca ba sb cb bb cc bB
  go_enter Try.func35, Try.ntmps35
  go_wp2
  go_ret
  exact ⟨rfl, H.out⟩
set_option maxHeartbeats 2000000 in
set_option maxRecDepth 100000 in
theorem impl_streamAt (w : World) (B i : Nat) (s sg : Int) (hs : (Lit.int .i64 s).wf = true) (hsg : sg = 1 ∨ sg = -1) (hi : i ≤ 1099511627776) (hB : B + 1 < w.heap.size)
    (hk : w.cell? ⟨B, 0, none⟩ = some (.int .i64 s)) (hg : w.cell? ⟨B + 1, 0, none⟩ = some (.int .i64 sg)) :
    Calls Try.prog 42 #[.int .i64 (i : Int), .pointer (some ⟨B + 1, 0, none⟩), .pointer (some ⟨B, 0, none⟩)] w fun e w' => ∃ r, Hid ((sg * keyed s [(i : Int)]) % 256 = r) ∧ 0 ≤ r ∧ r ≤ 255 ∧ e = .returned (.int .u8 r) ∧ Below w.heap.size w w' := by
  obtain ⟨q, hq⟩ : ∃ q, keyed s [(i : Int)] = q := ⟨_, rfl⟩
  have hqb := keyed_bd s [(i : Int)]
  rw [hq] at hqb
  obtain ⟨hq0, hq1⟩ := hqb
  obtain ⟨m, hm⟩ : ∃ m, sg * q = m := ⟨_, rfl⟩
  have hmb : -2147483647 < m ∧ m < 2147483647 := by rw [← hm]; rcases hsg with rfl | rfl <;> omega
  obtain ⟨r, hr⟩ : ∃ r, m % 256 = r := ⟨_, rfl⟩
  have hrb : 0 ≤ r ∧ r ≤ 255 := by omega
  have HR := Lib.hid (show (sg * keyed s [(i : Int)]) % 256 = r by rw [hq, hm, hr])
  have CK := Lib.hid (fun (W : World) (hi : Nat) (v : Value) (h : Row .i64 W hi v [(i : Int)]) (hh : hi ≤ W.heap.size) => (show Calls Try.prog 19 #[.int .i64 s, v] W fun e w' => e = .returned (.int .i64 q) ∧ Below W.heap.size W w' by rw [← hq]; exact impl_keyed W hi s v [(i : Int)] hs h hh (by simp)))
  have W1 : IntKind.i64.wrap (sg * q) = m := by rw [hm, IntKind.wrap_i64]; omega
  have W2 : IntKind.u8.wrap m = r := by rw [IntKind.wrap_u8]; omega
  obtain ⟨hr0, hr1⟩ := hrb
  have HS := Lib.hid (fun (w' : World) (hb' : Below w.heap.size w w') => (⟨(hb'.cell (p := ⟨B, 0, none⟩) (by show B < _; omega)).trans hk, (hb'.cell (p := ⟨B + 1, 0, none⟩) (by show B + 1 < _; omega)).trans hg, hb'⟩ : w'.cell? ⟨B, 0, none⟩ = some (.int .i64 s) ∧ w'.cell? ⟨B + 1, 0, none⟩ = some (.int .i64 sg) ∧ Below w.heap.size w w'))
  clear hq hm hr hmb hsg hq0 hq1
  have hR1 := (row_one .i64 3 w.drew (i : Int) (wf_i64 (by omega) (by omega)))
  have hbD := (Below.refl w.heap.size w).drew
  have hbA := hbD.alloc hbD.size (.cells #[.int .i64 (i : Int)] 3)
  go_enter Try.func42, Try.ntmps42
  go_upto_region 1 with fail
  go_region_held3 (fun w' => w'.cell? ⟨B, 0, none⟩ = some (.int .i64 s) ∧ w'.cell? ⟨B + 1, 0, none⟩ = some (.int .i64 sg) ∧ Below w.heap.size w w') (first | exact HS.out _ hbD | exact HS.out _ hbA | exact HS.out _ hb7)
    (first
      | (go_at_call 19; refine (CK.out _ _ _ hR1 (by simp)).mono ?_; rintro e7 w7 ⟨rfl, hbk⟩; have hb7 := hbA.trans (hbk.mono hbA.size)))
  go_wp2
  go_ret
  exact ⟨r, HR, hr0, hr1, rfl, hb7⟩
set_option maxHeartbeats 2000000 in
set_option maxRecDepth 100000 in
theorem impl_addStream (w : World) (hi B : Nat) (s sg : Int) (v : Value) (l : List Int) (hs : (Lit.int .i64 s).wf = true) (hsg : sg = 1 ∨ sg = -1) (hB : B + 1 < w.heap.size)
    (hck : w.cell? ⟨B, 0, none⟩ = some (.int .i64 s)) (hcg : w.cell? ⟨B + 1, 0, none⟩ = some (.int .i64 sg)) (h : Row .u8 w hi v l) (hh : hi ≤ w.heap.size) (hn : l.length ≤ 137438953472) :
    Calls Try.prog 34 #[v, .func (Fn.func 42) #[] #[.pointer (some ⟨B + 1, 0, none⟩), .pointer (some ⟨B, 0, none⟩)]] w fun e w' => ∃ u, e = .returned u ∧ Own 5 .u8 w' w.heap.size w'.heap.size u (crypt (strF sg s) l l.length) ∧ Below w.heap.size w w' := by
  obtain ⟨i0, hi0, hz0, hz1, hz2⟩ := info_parts infoByteS
  have hwf := Lib.hid h.wf
  obtain ⟨⟨A, c, rfl, r1, r2, _, r3⟩, _⟩ := h
  unfold maxLen at r2
  have R3 := Lib.hid r3
  clear r3
  obtain ⟨w2, hmk, hown0, hg0⟩ := run_make_full (P := Try.prog) (w := w) w.heap.size 22 5 i0 (.int .u8 0) 1 Try.underlying22 hi0 hz0 hz1 .i64 .i64 l.length (by rw [hz2]; omega) (by unfold maxLen; omega) (Nat.le_refl _)
  have hz : (madeCells (Value.int .u8 0).cells (l.length * 1)).toList = (List.replicate l.length (0 : Int)).map (Value.int .u8) := by
    rw [Nat.mul_one, List.map_replicate]
    exact toList_madeCells_one _ _
  have hO : Own 5 .u8 w2 w.heap.size w2.heap.size (.slice (some ⟨w.heap.size, 0, none⟩) l.length l.length) (crypt (strF sg s) l 0 ++ List.replicate l.length 0) := by
    refine ⟨?_, fun k hk => (hown0.lt k hk).2, fun x hx => ?_⟩
    · rw [show crypt (strF sg s) l 0 = [] from rfl, List.nil_append, List.length_replicate, ← hz]
      exact hown0
    · rw [show crypt (strF sg s) l 0 = [] from rfl, List.nil_append] at hx
      obtain ⟨_, rfl⟩ := List.mem_replicate.1 hx
      decide
  have hB2 : Below w.heap.size w w2 := (Below.refl _ _).grown hg0 (Nat.le_refl _) (by simp)
  have HS := Lib.hid (fun (w' : World) (hb' : Below w.heap.size w w') => (⟨(hb'.cell (p := ⟨B, 0, none⟩) (by show B < _; omega)).trans hck, (hb'.cell (p := ⟨B + 1, 0, none⟩) (by show B + 1 < _; omega)).trans hcg⟩ : w'.cell? ⟨B, 0, none⟩ = some (.int .i64 s) ∧ w'.cell? ⟨B + 1, 0, none⟩ = some (.int .i64 sg)))
  have HSG := Lib.hid hsg
  clear hown0 hg0 hz hck hcg hsg
  go_enter Try.func34, Try.ntmps34
  go_wp2
  clear hmk
  go_loopw [13] (fun i wr => ∃ k : Nat, k ≤ l.length ∧ i = .int .i64 (k : Int) ∧ Own 5 .u8 wr w.heap.size w2.heap.size (.slice (some ⟨w.heap.size, 0, none⟩) l.length l.length) (crypt (strF sg s) l k ++ List.replicate (l.length - k) 0) ∧ Below w.heap.size w wr ∧ w2.heap.size ≤ wr.heap.size) (fun i _ => l.length - (intOf i).toNat)
  case atStart => exact ⟨0, Nat.zero_le _, rfl, hO, hB2, Nat.le_refl _⟩
  case round =>
    obtain ⟨k, hk, rfl, hown, hb, hsz⟩ := hrel
    by_cases hlt : k < l.length
    · obtain ⟨b, off, rfl, p1, p2, p3⟩ := R3.out (by omega)
      have hx := (hb.cell (p := ⟨b, off + k, none⟩) (by show b < _; omega)).trans (p3 k hlt)
      have HT := Lib.hid (crypt_succ (strF sg s) l k)
      rw [show l.getD k 0 = l[k] by simp [List.getD, hlt]] at hx HT
      obtain ⟨x0, x1⟩ := bounds_u8 (hwf.out _ (List.getElem_mem hlt))
      generalize l[k] = x at hx HT x0 x1
      clear p3
      obtain ⟨hk2, hg2⟩ := HS.out wr hb
      have hkw : (Lit.int .i64 (k : Int)).wf = true := wf_i64 (by omega) (by omega)
      go_wp2_with fail
      refine (impl_streamAt wr B k s sg hs HSG.out (by omega) (by have := hb.size; omega) hk2 hg2).mono ?_
      rintro e7 w7 ⟨r, HR, hr0, hr1, rfl, hb7⟩
      obtain ⟨e, he⟩ : ∃ e, (x + r) % 256 = e := ⟨_, rfl⟩
      have W2 : IntKind.u8.wrap (x + r) = e := by rw [IntKind.wrap_u8]; omega
      have HE := Lib.hid (show strF sg s k x = e by unfold strF; rw [HR.out, he])
      have hwe : (Lit.int .u8 e).wf = true := wf_u8 (by omega) (by omega)
      have hown7 := hown.below hb7 hsz
      have hst := hown7.set k e hwe
      have hlk : (crypt (strF sg s) l k).length = k := crypt_len ..
      have hset : (crypt (strF sg s) l k ++ List.replicate (l.length - k) 0).set k e = crypt (strF sg s) l (k + 1) ++ List.replicate (l.length - (k + 1)) 0 := by
        rw [HT.out, HE.out, List.set_append_right _ _ (by omega), hlk, Nat.sub_self, show l.length - k = (l.length - (k + 1)) + 1 by omega, List.replicate_succ, List.append_assoc]
        rfl
      rw [hset] at hst
      have hrow := hown7.row
      have hLL : (crypt (strF sg s) l k ++ List.replicate (l.length - k) 0).length = l.length := by rw [List.length_append, hlk, List.length_replicate]; omega
      rw [hLL] at hrow
      have hcell : w7.cell? ⟨w.heap.size, k, none⟩ = some (.int .u8 0) := by
        refine (hrow.cellAt k (by omega)).trans ?_
        rw [List.getElem?_map, List.getElem?_append_right (by omega), hlk, Nat.sub_self, List.getElem?_replicate, if_pos (by omega)]
        rfl
      have hf := hrow.frozenAt k
      have hbs := (hb.trans (hb7.mono hb.size)).setCell (p := ⟨w.heap.size, k, none⟩) (by show w.heap.size ≤ w.heap.size; exact Nat.le_refl _) (.int .u8 e)
      have hsz7 : w2.heap.size ≤ (w7.setCell ⟨w.heap.size, k, none⟩ (.int .u8 e)).heap.size := by have := hb7.size; simp [World.setCell]; omega
      have HST := Lib.hid hst
      have HBS := Lib.hid hbs
      have hk0 : (0 : Int) ≤ (k : Int) := by omega
      have hk1 : (k : Int) < (l.length : Int) := by omega
      clear hst hbs hset hown7 he hrow hLL
      go_wp2
      go_roundw
      case rel => exact ⟨k + 1, by omega, by go_num, HST.out, HBS.out, hsz7⟩
      case measure => simp only [intOf]; omega
    · go_wp2
      go_ret
      obtain rfl : k = l.length := by omega
      rw [Nat.sub_self, List.replicate_zero, List.append_nil] at hown
      exact ⟨_, rfl, hown.wide (Nat.le_refl _) hsz, hb⟩
theorem impl_encrypt (w : World) (hi : Nat) (s : Int) (v : Value) (l : List Int) (hs : (Lit.int .i64 s).wf = true) (h : Row .u8 w hi v l) (hh : hi ≤ w.heap.size) (hn : l.length ≤ 137438953472) :
    Calls Try.prog 13 #[.int .i64 s, v] w fun e w' => ∃ u, e = .returned u ∧ Own 5 .u8 w' w.heap.size w'.heap.size u (encL s l) ∧ Below w.heap.size w w' := by
  go_enter Try.func13, Try.ntmps13
  go_wp2_with fail
  refine (impl_keyStream w s 1).mono ?_
  rintro e w1 ⟨rfl, hsz, c0, c1, hb1⟩
  go_wp2_with fail
  refine (impl_addStream w1 w.heap.size w.heap.size s 1 v l hs (.inl rfl) (by omega) c0 c1 ((h.below hb1 hh).more hh) (by omega) hn).mono ?_
  rintro e w2 ⟨u, rfl, hO, hb2⟩
  rw [strF_enc] at hO
  go_wp2
  go_ret
  exact ⟨u, rfl, hO.wide (by omega) (Nat.le_refl _), hb1.trans (hb2.mono (by omega))⟩
theorem impl_decrypt (w : World) (hi : Nat) (s : Int) (v : Value) (l : List Int) (hs : (Lit.int .i64 s).wf = true) (h : Row .u8 w hi v l) (hh : hi ≤ w.heap.size) (hn : l.length ≤ 137438953472) :
    Calls Try.prog 12 #[.int .i64 s, v] w fun e w' => ∃ u, e = .returned u ∧ Own 5 .u8 w' w.heap.size w'.heap.size u (decL s l) ∧ Below w.heap.size w w' := by
  go_enter Try.func12, Try.ntmps12
  go_wp2_with fail
  refine (impl_keyStream w s (-1)).mono ?_
  rintro e w1 ⟨rfl, hsz, c0, c1, hb1⟩
  go_wp2_with fail
  refine (impl_addStream w1 w.heap.size w.heap.size s (-1) v l hs (.inr rfl) (by omega) c0 c1 ((h.below hb1 hh).more hh) (by omega) hn).mono ?_
  rintro e w2 ⟨u, rfl, hO, hb2⟩
  rw [strF_dec] at hO
  go_wp2
  go_ret
  exact ⟨u, rfl, hO.wide (by omega) (Nat.le_refl _), hb1.trans (hb2.mono (by omega))⟩
end Go.Proofs.Ytlbdagmmlfcbpaa
