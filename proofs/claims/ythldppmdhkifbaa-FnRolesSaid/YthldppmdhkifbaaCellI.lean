/- Slices of integers as cells: what reads so, what is owned so; the laws' own helpers over them. No condition but the bounds of what came in. -/
import Derived.Test.YthldppmdhkifbaaCell2
import Derived.Test.YthldppmdhkifbaaIntSl
import Derived.Test.YthldppmdhkifbaaInts
namespace Go.Proofs.Ythldppmdhkifbaa
open Go.ChangeShapes Go.WideShapes Go.ChangeAt Go.RowKit
set_option linter.unusedVariables false

def numC (x : Int) : List Cell := [.num x]
theorem numC_len (x : Int) : (numC x).length = 1 := rfl
theorem flat_num (xs : List Int) : xs.flatMap numC = xs.map Cell.num := by
  induction xs with
  | nil => rfl
  | cons x xs ih => rw [List.flatMap_cons, ih]; rfl
theorem sz_nums : ∀ xs : List Int, szE (xs.flatMap numC) = 0
  | [] => by rw [List.flatMap_nil, szE_nil]
  | x :: xs => by rw [List.flatMap_cons, szE_append, sz_nums xs]; show szE [.num x] + 0 = 0; rw [szE_cons, szE_nil, szC_num]; rfl
theorem ct_nums : ∀ xs : List Int, ctE (xs.flatMap numC) = xs.length
  | [] => by rw [List.flatMap_nil, ctE_nil]; rfl
  | x :: xs => by rw [List.flatMap_cons, ctE_append, ct_nums xs]; show ctE [.num x] + _ = _; rw [ctE_cons, ctE_nil, ctC_num, List.length_cons]; omega
theorem mk_nums : ∀ (xs : List Int) (k : Int), mkE (xs.flatMap numC) k = (marksIntS k xs.length).map Cell.num
  | [], k => by rw [List.flatMap_nil, mkE_nil]; rfl
  | x :: xs, k => by
    rw [List.flatMap_cons, mkE_append, mk_nums xs]
    show mkE [.num x] k ++ _ = _
    rw [mkE_cons, mkE_nil, mkC_num]
    show Cell.num k :: List.map Cell.num (marksIntS (k + ctE [.num x]) xs.length) = _
    rw [ctE_cons, ctE_nil, ctC_num]
    apply List.ext_getElem
    · simp [marksIntS_length]
    · intro i h1 h2
      cases i with
      | zero => simp [marksIntS_at]
      | succ i =>
        simp only [List.getElem_cons_succ, List.getElem_map, marksIntS_at, Cell.num.injEq]
        omega
theorem rd_row {w : World} {hi : Nat} {v : Value} {xs : List Int} (h : rdC w hi (.row xs.length (xs.map Cell.num)) v) : Row .i64 w hi v xs := by
  unfold rdC at h
  obtain ⟨a, c, rfl, h1, h2, h3, h4, h5⟩ := h
  refine ⟨⟨a, c, rfl, h1, h2, h3, fun hp => ?_⟩, fun x hx => ?_⟩
  · obtain ⟨b, off, rfl, g1, g2, g3⟩ := h5 hp
    refine ⟨b, off, rfl, g1, g2, fun i hi => ?_⟩
    obtain ⟨u, h6, h7⟩ := rdE_at g3 (show (xs.map Cell.num)[i]? = some (.num xs[i]) by rw [List.getElem?_map, List.getElem?_eq_getElem hi]; rfl)
    rw [h6, (rdC_num.1 h7).1]
    simp [List.getD, hi]
  · obtain ⟨i, hi, rfl⟩ := List.getElem_of_mem hx
    obtain ⟨b, off, rfl, g1, g2, g3⟩ := h5 (by omega)
    obtain ⟨u, h6, h7⟩ := rdE_at g3 (show (xs.map Cell.num)[i]? = some (.num xs[i]) by rw [List.getElem?_map, List.getElem?_eq_getElem hi]; rfl)
    exact (rdC_num.1 h7).2
theorem row_rd {w : World} {hi : Nat} {v : Value} {xs : List Int} (h : Row .i64 w hi v xs) : rdC w hi (.row xs.length (xs.map Cell.num)) v := by
  obtain ⟨⟨a, c, rfl, h1, h2, h3, h4⟩, h5⟩ := h
  unfold rdC
  refine ⟨a, c, rfl, h1, h2, h3, fun e => by rw [List.length_eq_zero_iff.mp e]; rfl, fun hp => ?_⟩
  obtain ⟨b, off, rfl, g1, g2, g3⟩ := h4 hp
  refine ⟨b, off, rfl, g1, g2, rdE_of fun j c hj => ?_⟩
  rw [List.getElem?_map] at hj
  cases hx : xs[j]? with
  | none => rw [hx] at hj; cases hj
  | some x =>
    rw [hx] at hj
    obtain rfl := Option.some.inj hj
    obtain ⟨hl, e⟩ := List.getElem?_eq_some_iff.1 hx
    refine ⟨_, g3 j hl, rdC_num.2 ⟨?_, h5 x (List.mem_of_getElem? hx)⟩⟩
    simp [List.getD, hx]
theorem ints_row {w : World} {hi : Nat} {v : Value} {xs : List Int} : rdC w hi (rowF numC xs) v ↔ Row .i64 w hi v xs := by
  show rdC w hi (.row xs.length (xs.flatMap numC)) v ↔ _
  rw [flat_num]
  exact ⟨rd_row, row_rd⟩
theorem owE_nums {w : World} : ∀ {xs : List Int}, (∀ x ∈ xs, (Lit.int .i64 x).wf = true) → owE w (xs.map Cell.num) (xs.map (Value.int .i64)) []
  | [], _ => owE_nil.2 ⟨rfl, rfl⟩
  | x :: xs, h => owE_cons.2 ⟨_, _, [], [], rfl, rfl, owC_num.2 ⟨rfl, h x List.mem_cons_self, rfl⟩, owE_nums fun y hy => h y (List.mem_cons_of_mem _ hy)⟩
/-- A slice of integers of the call's own, as cells. -/
theorem own_ints {E : TypeId} {w : World} {lo hi : Nat} {v : Value} {xs : List Int} (h : Own E .i64 w lo hi v xs) : ∃ fp, owC w (rowF numC xs) v fp ∧ fp.Nodup ∧ ∀ k ∈ fp, lo ≤ k ∧ k < hi := by
  have hl := h.lt
  show ∃ fp, owC w (.row xs.length (xs.flatMap numC)) v fp ∧ _
  rw [flat_num]
  rcases h.row.2 with ⟨rfl, h0⟩ | ⟨g, cap, cur, rfl, g1, g2, g3, g4, g5, g6⟩
  · have hx : xs = [] := List.length_eq_zero_iff.mp h0
    subst hx
    refine ⟨[], ?_, List.nodup_nil, fun k hk => by cases hk⟩
    unfold owC
    exact .inl ⟨rfl, rfl, rfl, rfl⟩
  · refine ⟨[g], ?_, by simp, fun k hk => ?_⟩
    · unfold owC
      refine .inr ⟨g, cap, cur, E, [], rfl, g3, g4, g2, rfl, fun e => by rw [List.length_eq_zero_iff.mp e]; rfl, ?_⟩
      rw [List.length_map, ← Nat.mul_one xs.length, g6]
      exact owE_nums h.wf
    · obtain rfl := List.mem_singleton.1 hk
      have h9 := hl k rfl
      exact ⟨h9.1, h9.2.1⟩
theorem nums_thin (xs : List Int) : ctE (xs.flatMap numC) ≤ 64 * szC (rowF numC xs) := by
  rw [szC_row, ct_nums, sz_nums]
  omega
theorem eqZ_IntS (xs : List Int) (w : World) (hi hi' : Nat) (u v : Value) (h : rdC w hi (rowF numC xs) u) (h' : rdC w hi' (rowF numC xs) v) (hh : hi ≤ w.heap.size) (hh' : hi' ≤ w.heap.size) :
    Calls Try.prog 24 #[u, v] w fun e w' => e = .returned (.bool true) ∧ Below w.heap.size w w' :=
  (eq_IntS w hi hi' u v xs xs (ints_row.1 h) (ints_row.1 h')).mono fun e w' he => ⟨by rw [he.1, decide_eq_true rfl], by obtain ⟨m, rfl⟩ := he.2; exact bDrew (Below.refl _ _) m⟩
theorem heldZ_IntS (xs : List Int) (w : World) (hi : Nat) (v : Value) (k : Int) (h : rdC w hi (.row xs.length (mkE (xs.flatMap numC) k)) v) (hh : hi ≤ w.heap.size) (h0 : 0 ≤ k) (h1 : k + ctE (xs.flatMap numC) ≤ 1099511627776) :
    Calls Try.prog 27 #[v, .int .i64 k] w fun e w' => e = .returned (.int .i64 (k + ctE (xs.flatMap numC))) ∧ Below w.heap.size w w' := by
  rw [mk_nums] at h
  rw [ct_nums] at h1 ⊢
  have h2 : rdC w hi (.row (marksIntS k xs.length).length ((marksIntS k xs.length).map Cell.num)) v := by rw [marksIntS_length]; exact h
  exact (held_IntS w hi v k xs.length (rd_row h2) (by omega) h0 (by omega)).mono fun e w' he => ⟨he.1, by rw [he.2]; exact Below.refl _ _⟩
set_option maxHeartbeats 4000000 in
set_option maxRecDepth 100000 in
theorem markZ_IntS (xs : List Int) (w : World) (v : Value) (fp : List Nat) (k0 : Int) (h : owC w (rowF numC xs) v fp) (nd : fp.Nodup) (h0 : 0 ≤ k0) (h1 : k0 + ctE (xs.flatMap numC) ≤ 1099511627776) :
    Calls Try.prog 26 #[v, .int .i64 k0] w fun e w' => e = .returned (.int .i64 (k0 + ctE (xs.flatMap numC))) ∧ owC w' (.row xs.length (mkE (xs.flatMap numC) k0)) v fp ∧ Touch fp w w' := by
  rw [ct_nums] at h1 ⊢
  by_cases hx : xs = []
  · subst hx
    obtain ⟨a, c, rfl, f1, f2⟩ := h.form
    have h2 : owC w (.row ([] : List Int).length (mkE (([] : List Int).flatMap numC) k0)) (.slice a ([] : List Int).length c) fp := by rw [List.flatMap_nil, mkE_nil]; exact h
    have H2 := Lib.hid h2
    clear h h2
    go_enter Try.func26, Try.ntmps26
    go_wp2
    refine wp_loop_rounds 1 ?_
    rw [rounds_succ]
    go_wp2
    go_ret
    exact ⟨ret_int (by simp), H2.out, Touch.refl _ _⟩
  · obtain ⟨x0, xt, hxe⟩ := List.exists_cons_of_ne_nil hx
    have hfl : xs.flatMap numC = [] ++ .num x0 :: xt.flatMap numC := by rw [hxe]; rfl
    obtain ⟨g, cap, rfl, f1, f2⟩ := owC.block (n := xs.length) (pre := []) (c := .num x0) (rest := xt.flatMap numC) (by rw [← hfl]; exact h)
    clear hfl
    unfold maxLen at f2
    have H := Lib.hid h
    clear h hxe hx
    go_enter Try.func26, Try.ntmps26
    go_wp2
    go_loopw [1, 5] (fun l i wr => ∃ (j : Nat), j ≤ xs.length ∧ i = .int .i64 (j : Int) ∧ l = .int .i64 (k0 + (j : Int)) ∧ Hid (owC wr (.row xs.length (mkE ((xs.take j).flatMap numC) k0 ++ (xs.drop j).flatMap numC)) (.slice (some ⟨g, 0, none⟩) xs.length cap) fp) ∧ Touch fp w wr) (fun _ i _ => xs.length - (intOf i).toNat)
    case atStart => exact ⟨0, Nat.zero_le _, rfl, by simp, Lib.hid (by rw [List.take_zero, List.flatMap_nil, mkE_nil]; exact H.out), Touch.refl _ _⟩
    case round =>
      obtain ⟨j, hj, rfl, rfl, HO, ht⟩ := hrel
      by_cases hlt : j < xs.length
      · obtain ⟨x, hx⟩ : ∃ x, xs[j]? = some x := ⟨_, List.getElem?_eq_getElem hlt⟩
        have hO := HO.out
        rw [drop_flat numC hx] at hO
        have hpl : (mkE ((xs.take j).flatMap numC) k0).length = j := by rw [mkE_length, flatG_len numC_len, List.length_take, Nat.min_eq_left (by omega), Nat.mul_one]
        obtain ⟨⟨y0, z0⟩, hg, ST⟩ := owC.setNum (rest := (xs.drop (j + 1)).flatMap numC) hO nd
        rw [hpl] at y0 z0 ST
        have HN := Lib.hid (show owC (wr.setCell ⟨g, j, none⟩ (.int .i64 (k0 + (j : Int)))) (.row xs.length (mkE ((xs.take (j + 1)).flatMap numC) k0 ++ (xs.drop (j + 1)).flatMap numC)) (.slice (some ⟨g, 0, none⟩) xs.length cap) fp by
          have h5 := ST (k0 + (j : Int)) (wf_i64 (by omega) (by omega))
          rw [take_flat_succ numC hx, mkE_append]
          have h6 : ctE ((xs.take j).flatMap numC) = (j : Int) := by rw [ct_nums, List.length_take, Nat.min_eq_left (by omega)]
          rw [h6]
          show owC _ (.row _ ((_ ++ mkE [.num x] (k0 + (j : Int))) ++ _)) _ _
          rw [mkE_cons, mkE_nil, mkC_num, List.append_assoc]
          exact h5)
        have ht2 := ht.trans (Touch.set hg wr j (.int .i64 (k0 + (j : Int))))
        clear hO ST hx HO ht
        go_wp2
        refine ⟨⟨j + 1, by omega, by go_num, by first | rfl | (congr 1; push_cast; omega) | (congr 1; omega), HN, ht2⟩, by simp only [intOf]; omega⟩
      · go_wp2
        go_ret
        obtain rfl : j = xs.length := by omega
        have h7 := HO.out
        rw [List.take_of_length_le (Nat.le_refl _), List.drop_of_length_le (Nat.le_refl _), List.flatMap_nil, List.append_nil] at h7
        exact ⟨rfl, h7, ht⟩
end Go.Proofs.Ythldppmdhkifbaa
