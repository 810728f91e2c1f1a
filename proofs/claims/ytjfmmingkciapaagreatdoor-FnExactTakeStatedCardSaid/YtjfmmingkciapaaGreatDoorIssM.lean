/- Issuers (chapter 8): the laws' own marks over a copy of a slice of issuers: every block of the copy may be written, nothing else is. No condition but the bounds of what came in. -/
import Derived.Test.YtjfmmingkciapaaGreatDoorIssZ
namespace Go.Proofs.YtjfmmingkciapaaGreatDoor
open Go.ChangeShapes Go.WideShapes Go.ChangeAt Go.RowKit
set_option linter.unusedVariables false

theorem flatten_set {α : Type} {n r : Nat} {v : α} (hr : r < n) : ∀ {css : List (List α)} {j : Nat} {c : List α}, (∀ c ∈ css, c.length = n) → css[j]? = some c → css.flatten.set (j * n + r) v = (css.set j (c.set r v)).flatten
  | [], j, c, _, h => by simp at h
  | d :: css, 0, c, hl, h => by
    obtain rfl : d = c := by simpa using h
    have h1 := hl d (List.mem_cons_self ..)
    rw [Nat.zero_mul, Nat.zero_add, List.flatten_cons, List.set_append_left _ _ (by omega)]
    rfl
  | d :: css, j + 1, c, hl, h => by
    have h1 := hl d (List.mem_cons_self ..)
    have h2 : css[j]? = some c := by simpa using h
    rw [List.flatten_cons, List.set_append_right _ _ (by rw [h1, Nat.add_mul]; omega), h1, show (j + 1) * n + r - n = j * n + r by rw [Nat.add_mul]; omega, flatten_set hr (fun e he => hl e (List.mem_cons_of_mem _ he)) h2]
    rfl
theorem set_same {α : Type} : ∀ {xs : List α} {j : Nat} {x : α}, xs[j]? = some x → xs.set j x = xs
  | [], _, _, h => by simp at h
  | y :: ys, 0, x, h => by
    obtain rfl : y = x := by simpa using h
    rfl
  | y :: ys, j + 1, x, h => by
    rw [List.set_cons_succ, set_same (xs := ys) (by simpa using h)]
theorem zip_set : ∀ {xs : List IssuerD} {kvs : List Value} {j : Nat} {kv : Value} (y : IssuerD), kvs[j]? = some kv → (List.zipWith issC xs kvs).set j (issC y kv) = List.zipWith issC (xs.set j y) kvs
  | [], _, _, _, _, _ => rfl
  | x :: xs, [], _, _, _, h => by simp at h
  | x :: xs, k :: kvs, 0, kv, y, h => by
    obtain rfl : k = kv := by simpa using h
    rfl
  | x :: xs, k :: kvs, j + 1, kv, y, h => by
    rw [List.zipWith_cons_cons, List.set_cons_succ, List.set_cons_succ, List.zipWith_cons_cons, zip_set y (by simpa using h)]
theorem zip_all (xs : List IssuerD) (kvs : List Value) : ∀ c ∈ List.zipWith issC xs kvs, c.length = 3 := by
  intro c hc
  obtain ⟨i, hi, rfl⟩ := List.getElem_of_mem hc
  rw [List.getElem_zipWith]
  rfl
theorem done_full {xs : List IssuerD} {kvs : List Value} (hl : kvs.length = xs.length) : doneC xs kvs = (List.zipWith issC xs kvs).flatten := by
  unfold doneC
  rw [hl, Nat.sub_self, List.replicate_zero, List.flatten_nil, List.append_nil]
theorem zip_at {xs : List IssuerD} {kvs : List Value} {j : Nat} {x : IssuerD} {kv : Value} (hx : xs[j]? = some x) (hk : kvs[j]? = some kv) : (List.zipWith issC xs kvs)[j]? = some (issC x kv) := by
  rw [List.getElem?_zipWith, hx, hk]
/-- Of a list with one place set: each element is the new one or an old one. -/
theorem set_cases {α : Type} {xs : List α} {i j : Nat} {y z : α} (h : (xs.set j y)[i]? = some z) : (i = j ∧ z = y) ∨ (i ≠ j ∧ xs[i]? = some z) := by
  by_cases e : j = i
  · subst e
    left
    rw [List.getElem?_set_self'] at h
    cases hx : xs[j]? with
    | none => rw [hx] at h; cases h
    | some q =>
      rw [hx] at h
      exact ⟨rfl, (Option.some.inj h).symm⟩
  · right
    rw [List.getElem?_set_ne e] at h
    exact ⟨Ne.symm e, h⟩
/-- Turned in some blocks alone. -/
def Within (lo hi : Nat) (w w' : World) : Prop := Below lo w w' ∧ (∀ k, hi ≤ k → w'.heap[k]? = w.heap[k]?) ∧ w'.heap.size = w.heap.size
theorem Within.refl (lo hi : Nat) (w : World) : Within lo hi w w := ⟨Below.refl _ _, fun _ _ => rfl, rfl⟩
theorem Within.trans {lo hi : Nat} {a b c : World} (h : Within lo hi a b) (k : Within lo hi b c) : Within lo hi a c := ⟨h.1.trans k.1, fun j hj => (k.2.1 j hj).trans (h.2.1 j hj), k.2.2.trans h.2.2⟩
theorem Within.setLo {lo hi : Nat} (w : World) (hlo : lo + 1 ≤ hi) (i : Nat) (u : Value) : Within lo hi w (w.setCell ⟨lo, i, none⟩ u) :=
  ⟨(Below.refl _ _).setCell (p := ⟨lo, i, none⟩) (Nat.le_refl _) u, fun k hk => Below.heap_setCell _ _ _ _ (by show k ≠ lo; omega), by simp [World.setCell]⟩
theorem Within.wrote {lo hi : Nat} {w w' : World} {v : Value} {ks : List Int} (ho : Own 3 .i64 w (lo + 1) hi v ks) (hw : Wrote w w' v) (hlo : lo + 1 ≤ hi) (hs : hi ≤ w.heap.size) : Within lo hi w w' := by
  refine ⟨hw.below ho (by omega) (by omega), fun k hk => ?_, hw.2⟩
  rcases Nat.lt_or_ge k w.heap.size with h1 | h1
  · exact hw.1.block k h1 fun e => by have := (ho.lt k e.symm).2.1; omega
  · rw [Array.getElem?_eq_none h1, Array.getElem?_eq_none (by rw [hw.2]; exact h1)]
section
variable {w w' : World} {lo hi n cap j : Nat} {u kv : Value} {xs : List IssuerD} {kvs : List Value} {x : IssuerD}
theorem OwnIss.setId (h : OwnIss w lo hi (.slice (some ⟨lo, 0, none⟩) n cap) xs kvs) (hnn : n = xs.length) (hl : kvs.length = xs.length) (hx : xs[j]? = some x) (v : Int) : OwnIss (w.setCell ⟨lo, j * 3, none⟩ (.int .i64 v)) lo hi (.slice (some ⟨lo, 0, none⟩) n cap) (xs.set j ⟨v, x.Kinds, x.Secret⟩) kvs := by
  subst hnn
  obtain ⟨kv, hkv⟩ : ∃ kv, kvs[j]? = some kv := ⟨_, List.getElem?_eq_getElem (by have := (List.getElem?_eq_some_iff.1 hx).1; omega)⟩
  refine ⟨?_, fun i kv' x' h1 h2 => ?_, h.apart⟩
  · have h1 := OwnC.setMany [.int .i64 v] (j * 3 + 0) h.row
    rw [List.length_set]
    have e : setMany (doneC xs kvs) (j * 3 + 0) [.int .i64 v] = doneC (xs.set j ⟨v, x.Kinds, x.Secret⟩) kvs := by
      rw [done_full hl, done_full (by rw [List.length_set]; exact hl), ← zip_set _ hkv]
      exact flatten_set (by decide) (zip_all xs kvs) (zip_at hx hkv)
    rw [e] at h1
    exact h1
  · rcases set_cases h2 with ⟨rfl, rfl⟩ | ⟨_, h3⟩
    · exact (h.kinds i kv' x h1 hx).setLow (by dsimp only; omega) _
    · exact (h.kinds i kv' x' h1 h3).setLow (by dsimp only; omega) _
theorem OwnIss.setSecret (h : OwnIss w lo hi (.slice (some ⟨lo, 0, none⟩) n cap) xs kvs) (hnn : n = xs.length) (hl : kvs.length = xs.length) (hx : xs[j]? = some x) (v : Int) : OwnIss (w.setCell ⟨lo, j * 3 + 2, none⟩ (.int .i64 v)) lo hi (.slice (some ⟨lo, 0, none⟩) n cap) (xs.set j ⟨x.Id, x.Kinds, v⟩) kvs := by
  subst hnn
  obtain ⟨kv, hkv⟩ : ∃ kv, kvs[j]? = some kv := ⟨_, List.getElem?_eq_getElem (by have := (List.getElem?_eq_some_iff.1 hx).1; omega)⟩
  refine ⟨?_, fun i kv' x' h1 h2 => ?_, h.apart⟩
  · have h1 := OwnC.setMany [.int .i64 v] (j * 3 + 2) h.row
    rw [List.length_set]
    have e : setMany (doneC xs kvs) (j * 3 + 2) [.int .i64 v] = doneC (xs.set j ⟨x.Id, x.Kinds, v⟩) kvs := by
      rw [done_full hl, done_full (by rw [List.length_set]; exact hl), ← zip_set _ hkv]
      exact flatten_set (by decide) (zip_all xs kvs) (zip_at hx hkv)
    rw [e] at h1
    exact h1
  · rcases set_cases h2 with ⟨rfl, rfl⟩ | ⟨_, h3⟩
    · exact (h.kinds i kv' x h1 hx).setLow (by dsimp only; omega) _
    · exact (h.kinds i kv' x' h1 h3).setLow (by dsimp only; omega) _
theorem OwnIss.marked {zs : List Int} (h : OwnIss w lo hi (.slice (some ⟨lo, 0, none⟩) n cap) xs kvs) (hnn : n = xs.length) (hl : kvs.length = xs.length) (hx : xs[j]? = some x) (hkv : kvs[j]? = some kv) (ho : Own 3 .i64 w' (lo + 1) hi kv zs) (hw : Wrote w w' kv) :
    OwnIss w' lo hi (.slice (some ⟨lo, 0, none⟩) n cap) (xs.set j ⟨x.Id, zs, x.Secret⟩) kvs := by
  subst hnn
  have hk := h.kinds j kv x hkv hx
  refine ⟨?_, fun i kv' x' h1 h2 => ?_, h.apart⟩
  · rw [List.length_set]
    have e : doneC (xs.set j ⟨x.Id, zs, x.Secret⟩) kvs = doneC xs kvs := by
      rw [done_full hl, done_full (by rw [List.length_set]; exact hl), ← zip_set _ hkv]
      exact congrArg List.flatten (show (List.zipWith issC xs kvs).set j (issC x kv) = _ from set_same (zip_at hx hkv))
    rw [e]
    exact h.row.keep fun k h1 h2 hs => hw.1.block k hs fun e => by have := (hk.lt k e.symm).1; omega
  · rcases set_cases h2 with ⟨rfl, rfl⟩ | ⟨hne, h3⟩
    · rw [hkv] at h1
      obtain rfl := Option.some.inj h1
      exact ho
    · have h4 := h.kinds i kv' x' h1 h3
      refine ⟨ownsRow_keep h4.row fun k hk2 hs => hw.1.block k hs fun e => ?_, h4.hi, h4.wf⟩
      have hp := List.pairwise_iff_getElem.1 h.apart
      obtain ⟨hi1, e1⟩ := List.getElem?_eq_some_iff.1 h1
      obtain ⟨hj1, e2⟩ := List.getElem?_eq_some_iff.1 hkv
      rcases Nat.lt_or_gt_of_ne hne with hlt | hlt
      · have := hp i j hi1 hj1 hlt k k (by rw [e1]; exact hk2) (by rw [e2]; exact e.symm)
        omega
      · have := hp j i hj1 hi1 hlt k k (by rw [e2]; exact e.symm) (by rw [e1]; exact hk2)
        omega
theorem OwnIss.cells (h : OwnIss w lo hi (.slice (some ⟨lo, 0, none⟩) n cap) xs kvs) (hnn : n = xs.length) (hl : kvs.length = xs.length) (hx : xs[j]? = some x) (hkv : kvs[j]? = some kv) :
    (w.cell? ⟨lo, j * 3, none⟩ = some (.int .i64 x.Id) ∧ w.cell? ⟨lo, j * 3 + 1, none⟩ = some kv ∧ w.cell? ⟨lo, j * 3 + 2, none⟩ = some (.int .i64 x.Secret)) ∧ (w.frozen? ⟨lo, j * 3, none⟩ = false ∧ w.frozen? ⟨lo, j * 3 + 1, none⟩ = false ∧ w.frozen? ⟨lo, j * 3 + 2, none⟩ = false) := by
  subst hnn
  have hr := h.row.row
  have hj := (List.getElem?_eq_some_iff.1 hx).1
  have ha : ∀ r, r < 3 → (doneC xs kvs)[j * 3 + r]? = (issC x kv)[r]? := fun r hr => by
    rw [done_full hl]
    exact flatten_at (zip_all xs kvs) (zip_at hx hkv) hr
  exact ⟨⟨(hr.cellAt (j * 3 + 0) (by omega)).trans (ha 0 (by decide)), (hr.cellAt (j * 3 + 1) (by omega)).trans (ha 1 (by decide)), (hr.cellAt (j * 3 + 2) (by omega)).trans (ha 2 (by decide))⟩, ⟨hr.frozenAt (j * 3 + 0), hr.frozenAt (j * 3 + 1), hr.frozenAt (j * 3 + 2)⟩⟩
end
set_option maxHeartbeats 8000000 in
set_option maxRecDepth 100000 in
theorem mark_IssuerS (w : World) (lo hi : Nat) (u : Value) (xs : List IssuerD) (kvs : List Value) (k : Int) (h : OwnIss w lo hi u xs kvs) (hl : kvs.length = xs.length) (hlo : lo + 1 ≤ hi) (hs : hi ≤ w.heap.size) (hn : xs.length ≤ 1048576) (hks : ∀ x ∈ xs, x.Kinds.length ≤ 1048576) (hk0 : 0 ≤ k) (hk1 : k ≤ 1000) :
    Calls Tryz.prog 27 #[u, .int .i64 k] w fun e w' => ∃ q : Int, e = .returned (.int .i64 q) ∧ 0 ≤ q ∧ q ≤ 1000 + 1048576 * 1048578 ∧ Within lo hi w w' := by
  rcases h.row.row.2 with ⟨rfl, hz⟩ | ⟨g, cap, cur, rfl, g1, _, g3, g4, _⟩
  · have hx : xs = [] := List.length_eq_zero_iff.mp hz
    subst hx
    go_enter Tryz.func27, Tryz.ntmps27
    go_wp2
    refine wp_loop_rounds 1 ?_
    rw [rounds_succ]
    go_wp2
    go_ret
    exact ⟨k, rfl, hk0, by omega, Within.refl _ _ _⟩
  · obtain rfl : g = lo := by have := h.row.hi g rfl; omega
    unfold maxLen at g4
    have HOWN := Lib.hid h
    have HKS := Lib.hid hks
    have HL := Lib.hid hl
    clear h hks hl
    go_enter Tryz.func27, Tryz.ntmps27
    go_wp2
    go_loopw [1, 5] (fun q i wr => ∃ (j : Nat) (qv : Int), j ≤ xs.length ∧ i = .int .i64 (j : Int) ∧ q = .int .i64 qv ∧ 0 ≤ qv ∧ qv ≤ 1000 + (j : Int) * 1048578 ∧ (∃ ys : List IssuerD, Hid (ys.length = xs.length ∧ (∀ y ∈ ys, y.Kinds.length ≤ 1048576) ∧ OwnIss wr g hi (.slice (some ⟨g, 0, none⟩) xs.length cap) ys kvs)) ∧ Within g hi w wr) (fun _ i _ => xs.length - (intOf i).toNat)
    case atStart => exact ⟨0, k, Nat.zero_le _, rfl, rfl, hk0, by omega, ⟨xs, rfl, HKS.out, HOWN.out⟩, Within.refl _ _ _⟩
    case round =>
      obtain ⟨j, qv, hj, rfl, rfl, q0, q1, ⟨ys, HYS⟩, hw⟩ := hrel
      by_cases hlt : j < xs.length
      · obtain ⟨y1, y2, y3⟩ := HYS.out
        have HYL := Lib.hid y1
        have HYK := Lib.hid y2
        have HYO := Lib.hid y3
        have HKL := Lib.hid (HL.out.trans y1.symm)
        obtain ⟨y, hy⟩ : ∃ y, ys[j]? = some y := ⟨_, List.getElem?_eq_getElem (by omega)⟩
        obtain ⟨kv, hkv⟩ : ∃ kv, kvs[j]? = some kv := ⟨_, List.getElem?_eq_getElem (by have := HL.out; omega)⟩
        have hyk := y2 y (List.mem_of_getElem? hy)
        have hOk := y3.kinds j kv y hkv hy
        obtain ⟨A', n', rfl, -⟩ := hOk.read.form
        obtain ⟨⟨c0, c1, c2⟩, f0, f1, f2⟩ := y3.cells y1.symm HKL.out hy hkv
        have hS1 := y3.setId y1.symm HKL.out hy qv
        have hw1 : Within g hi w (wr.setCell ⟨g, j * 3, none⟩ (.int .i64 qv)) := hw.trans (Within.setLo _ hlo _ _)
        have hy1 : (ys.set j ⟨qv, y.Kinds, y.Secret⟩)[j]? = some ⟨qv, y.Kinds, y.Secret⟩ := by rw [List.getElem?_set_self (by omega)]
        have hOk1 := hS1.kinds j _ _ hkv hy1
        have hM := mark_IntS (wr.setCell ⟨g, j * 3, none⟩ (.int .i64 qv)) (g + 1) hi _ y.Kinds (qv + 1) hOk1 (by omega) (by omega) (by omega)
        have HM := Lib.hid hM
        have HS1 := Lib.hid hS1
        have HW1 := Lib.hid hw1
        have HOK1 := Lib.hid hOk1
        have HY1 := Lib.hid hy1
        have HKV := Lib.hid hkv
        clear y1 y2 y3 hOk hS1 hw1 hM hOk1 hy1 hkv hw hy
        have W1 : IntKind.i64.wrap (qv + 1) = qv + 1 := by rw [IntKind.wrap_i64]; omega
        go_wp2_with fail
        refine HM.out.mono ?_
        rintro e w2 ⟨rfl, hown2, hwr2⟩
        have hS2 := HS1.out.marked (by rw [List.length_set]; exact HYL.out.symm) (by rw [List.length_set]; exact HKL.out) HY1.out HKV.out hown2 hwr2
        have hw2 := HW1.out.trans (Within.wrote HOK1.out hwr2 hlo (by rw [HW1.out.2.2]; exact hs))
        rw [List.set_set] at hS2
        have hy2 : (ys.set j ⟨qv, marksIntS (qv + 1) y.Kinds.length, y.Secret⟩)[j]? = some ⟨qv, marksIntS (qv + 1) y.Kinds.length, y.Secret⟩ := by rw [List.getElem?_set_self (by have := HYL.out; omega)]
        have hl2 : kvs.length = (ys.set j ⟨qv, marksIntS (qv + 1) y.Kinds.length, y.Secret⟩).length := by rw [List.length_set]; exact HKL.out
        have hn2 : xs.length = (ys.set j ⟨qv, marksIntS (qv + 1) y.Kinds.length, y.Secret⟩).length := by rw [List.length_set]; exact HYL.out.symm
        obtain ⟨⟨d0, d1, d2⟩, e0, e1, e2⟩ := hS2.cells hn2 hl2 hy2 HKV.out
        have hS3 := hS2.setSecret hn2 hl2 hy2 (qv + 1 + (y.Kinds.length : Int))
        have hw3 := hw2.trans (Within.setLo w2 hlo (j * 3 + 2) (.int .i64 (qv + 1 + (y.Kinds.length : Int))))
        rw [List.set_set] at hS3
        have HS3 := Lib.hid hS3
        have HW3 := Lib.hid hw3
        have W2 : IntKind.i64.wrap (qv + 1 + (y.Kinds.length : Int) + 1) = qv + 1 + (y.Kinds.length : Int) + 1 := by rw [IntKind.wrap_i64]; omega
        clear hS2 hS3 hw2 hw3 hown2 hwr2 hy2 hl2 hn2
        go_wp2
        refine ⟨⟨j + 1, qv + 1 + (y.Kinds.length : Int) + 1, by omega, by go_num, rfl, by omega, by omega, ⟨_, Lib.hid ⟨by rw [List.length_set]; exact HYL.out, fun z hz => ?_, HS3.out⟩⟩, HW3.out⟩, by simp only [intOf]; omega⟩
        rcases List.mem_or_eq_of_mem_set hz with hz | rfl
        · exact HYK.out z hz
        · show (marksIntS _ _).length ≤ _
          rw [marksIntS_length]
          exact hyk
      · go_wp2
        go_ret
        exact ⟨qv, rfl, q0, by omega, hw⟩
end Go.Proofs.YtjfmmingkciapaaGreatDoor
