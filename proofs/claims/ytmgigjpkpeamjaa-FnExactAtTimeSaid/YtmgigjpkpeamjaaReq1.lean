/- Requests (chapter 17): contracts of the model. No condition but the bounds of what came in. -/
import Derived.Test.YtmgigjpkpeamjaaMReqM
import Derived.Test.YtmgigjpkpeamjaaMTimes
import Derived.Test.YtmgigjpkpeamjaaRole3
import Derived.Test.YtmgigjpkpeamjaaMVals
import Derived.Test.YtmgigjpkpeamjaaCellS
import Derived.Test.YtmgigjpkpeamjaaMCellI
import Derived.Test.YtmgigjpkpeamjaaFactsI
import Derived.Deep.RegionHeld3
import Derived.Laws.StructEq
import Derived.Outline
namespace Go.Proofs.Ytmgigjpkpeamjaa
open Go.ChangeShapes Go.WideShapes Go.ChangeAt Go.RowKit
set_option linter.unusedVariables false

set_option maxHeartbeats 4000000 in
theorem spec_isRequest (q : RequestD) (w : World) : Calls Try.prog 7 #[q.val] w fun e w' => e = .returned (.bool (reqB q)) ∧ Below w.heap.size w w' := by
  obtain ⟨p, d, g, a, o, n⟩ := q
  rw [RequestD.val_mk]
  have H1 := Lib.hid (fun W => spec_hasKind p 1 W)
  have H2 := Lib.hid (fun W => spec_hasKind d 2 W)
  have H3 := Lib.hid (fun W => spec_hasKind g 3 W)
  have H4 := Lib.hid (fun W => spec_hasKind o 4 W)
  have H5 := Lib.hid (fun W => spec_l1In a 0 5 W)
  have H6 := Lib.hid (fun W => spec_isTime n W)
  show Calls _ _ _ _ fun e w' => e = .returned (.bool (hasOf p 1 && (hasOf d 2 && (hasOf g 3 && (hasOf o 4 && (decide (0 ≤ a ∧ a ≤ 5) && decide (isT n))))))) ∧ _
  generalize hasOf p 1 = b1 at H1 ⊢
  generalize hasOf d 2 = b2 at H2 ⊢
  generalize hasOf g 3 = b3 at H3 ⊢
  generalize hasOf o 4 = b4 at H4 ⊢
  generalize decide (0 ≤ a ∧ a ≤ 5) = b5 at H5 ⊢
  generalize decide (isT n) = b6 at H6 ⊢
  go_enter Try.func7, Try.ntmps7
  go_wp2_with (first
    | (go_at_call 26; (with_reducible first | refine (H1.out _).mono ?_ | refine (H2.out _).mono ?_ | refine (H3.out _).mono ?_ | refine (H4.out _).mono ?_); rintro e w' ⟨rfl, rfl⟩)
    | (go_at_call 27; (with_reducible refine (H5.out _).mono ?_); rintro e w' ⟨rfl, rfl⟩)
    | (go_at_call 28; (with_reducible refine (H6.out _).mono ?_); rintro e w' ⟨rfl, rfl⟩))
  all_goals
    go_ret
    refine ⟨ret_b ?_, by go_grown⟩
    simp_all
set_option maxHeartbeats 2000000 in
theorem spec_atTimeC (p d g a o n t : Int) (w : World) : Calls Try.prog 12 #[.agg #[.int .i64 p, .int .i64 d, .int .i64 g, .int .i64 a, .int .i64 o, .int .i64 n], .int .i64 t] w fun e w' => e = .returned (.agg #[.int .i64 p, .int .i64 d, .int .i64 g, .int .i64 a, .int .i64 o, .int .i64 t]) ∧ Below w.heap.size w w' := by
  go_enter Try.func12, Try.ntmps12
  go_wp2
  refine bodyPost_ret (v := .agg #[.int .i64 p, .int .i64 d, .int .i64 g, .int .i64 a, .int .i64 o, .int .i64 t]) (by simp [results, Try.results12, go_sem]) rfl ⟨rfl, ?_⟩
  go_grown
theorem spec_atTime (q : RequestD) (t : Int) (w : World) : Calls Try.prog 12 #[q.val, .int .i64 t] w fun e w' => e = .returned (atQ q t).val ∧ Below w.heap.size w w' := by
  obtain ⟨p, d, g, a, o, n⟩ := q
  exact spec_atTimeC p d g a o n t w
set_option maxHeartbeats 4000000 in
theorem spec_sameNo (p d g a o n p' d' g' a' o' n' : Int) (w : World) (hd : (p == p') = false ∨ p = p' ∧ ((d == d') = false ∨ d = d' ∧ ((g == g') = false ∨ g = g' ∧ ((a == a') = false ∨ a = a' ∧ ((o == o') = false))))) :
    Calls Try.prog 10 #[.agg #[.int .i64 p, .int .i64 d, .int .i64 g, .int .i64 a, .int .i64 o, .int .i64 n], .agg #[.int .i64 p', .int .i64 d', .int .i64 g', .int .i64 a', .int .i64 o', .int .i64 n']] w fun e w' => e = .returned (.bool false) ∧ Below w.heap.size w w' := by
  rcases hd with e1 | ⟨rfl, e1 | ⟨rfl, e1 | ⟨rfl, e1 | ⟨rfl, e1⟩⟩⟩⟩
  · go_enter Try.func10, Try.ntmps10
    go_upto_region 1 with fail
    obtain ⟨W, hW, hB, hz, HS⟩ := two_boxes w p d g a o n p' d' g' a' o' n' 25
    rw [← hW]
    clear hW
    have hbD := (Below.refl (w.heap.size + 2) W).drew
    have HB := Lib.hid hB
    have hz2 : w.heap.size + 2 ≤ W.drew.heap.size := by show _ ≤ W.heap.size; omega
    clear hB hz
    go_region_held3 (fun w' => (w'.cell? ⟨w.heap.size, 0, none⟩ = some (.int .i64 p) ∧ w'.cell? ⟨w.heap.size, 1, none⟩ = some (.int .i64 d) ∧ w'.cell? ⟨w.heap.size, 2, none⟩ = some (.int .i64 g) ∧ w'.cell? ⟨w.heap.size, 3, none⟩ = some (.int .i64 a) ∧ w'.cell? ⟨w.heap.size, 4, none⟩ = some (.int .i64 o) ∧ w'.cell? ⟨w.heap.size, 5, none⟩ = some (.int .i64 n)) ∧ (w'.cell? ⟨w.heap.size + 1, 0, none⟩ = some (.int .i64 p') ∧ w'.cell? ⟨w.heap.size + 1, 1, none⟩ = some (.int .i64 d') ∧ w'.cell? ⟨w.heap.size + 1, 2, none⟩ = some (.int .i64 g') ∧ w'.cell? ⟨w.heap.size + 1, 3, none⟩ = some (.int .i64 a') ∧ w'.cell? ⟨w.heap.size + 1, 4, none⟩ = some (.int .i64 o') ∧ w'.cell? ⟨w.heap.size + 1, 5, none⟩ = some (.int .i64 n')) ∧ Below (w.heap.size + 2) W w')
      (first | exact HS.out _ hbD | exact HS.out _ hb1 | exact HS.out _ hb2)
      (first
        | (go_at_call 12; (with_reducible refine (spec_atTimeC p d g a o n 0 _).mono ?_); rintro e1 w1 ⟨rfl, hbk1⟩; have hb1 := hbD.trans (hbk1.mono hz2); have hz3 := Nat.le_trans hz2 hbk1.size)
        | (go_at_call 12; (with_reducible refine (spec_atTimeC p' d' g' a' o' n' 0 _).mono ?_); rintro e2 w2 ⟨rfl, hbk2⟩; have hb2 := hb1.trans (hbk2.mono hz3)))
    go_wp2
    go_ret
    exact ⟨rfl, HB.out.trans (hb2.mono (by omega))⟩
  · go_enter Try.func10, Try.ntmps10
    go_upto_region 1 with fail
    obtain ⟨W, hW, hB, hz, HS⟩ := two_boxes w p d g a o n p d' g' a' o' n' 25
    rw [← hW]
    clear hW
    have hbD := (Below.refl (w.heap.size + 2) W).drew
    have HB := Lib.hid hB
    have hz2 : w.heap.size + 2 ≤ W.drew.heap.size := by show _ ≤ W.heap.size; omega
    clear hB hz
    go_region_held3 (fun w' => (w'.cell? ⟨w.heap.size, 0, none⟩ = some (.int .i64 p) ∧ w'.cell? ⟨w.heap.size, 1, none⟩ = some (.int .i64 d) ∧ w'.cell? ⟨w.heap.size, 2, none⟩ = some (.int .i64 g) ∧ w'.cell? ⟨w.heap.size, 3, none⟩ = some (.int .i64 a) ∧ w'.cell? ⟨w.heap.size, 4, none⟩ = some (.int .i64 o) ∧ w'.cell? ⟨w.heap.size, 5, none⟩ = some (.int .i64 n)) ∧ (w'.cell? ⟨w.heap.size + 1, 0, none⟩ = some (.int .i64 p) ∧ w'.cell? ⟨w.heap.size + 1, 1, none⟩ = some (.int .i64 d') ∧ w'.cell? ⟨w.heap.size + 1, 2, none⟩ = some (.int .i64 g') ∧ w'.cell? ⟨w.heap.size + 1, 3, none⟩ = some (.int .i64 a') ∧ w'.cell? ⟨w.heap.size + 1, 4, none⟩ = some (.int .i64 o') ∧ w'.cell? ⟨w.heap.size + 1, 5, none⟩ = some (.int .i64 n')) ∧ Below (w.heap.size + 2) W w')
      (first | exact HS.out _ hbD | exact HS.out _ hb1 | exact HS.out _ hb2)
      (first
        | (go_at_call 12; (with_reducible refine (spec_atTimeC p d g a o n 0 _).mono ?_); rintro e1 w1 ⟨rfl, hbk1⟩; have hb1 := hbD.trans (hbk1.mono hz2); have hz3 := Nat.le_trans hz2 hbk1.size)
        | (go_at_call 12; (with_reducible refine (spec_atTimeC p d' g' a' o' n' 0 _).mono ?_); rintro e2 w2 ⟨rfl, hbk2⟩; have hb2 := hb1.trans (hbk2.mono hz3)))
    go_wp2
    go_ret
    exact ⟨rfl, HB.out.trans (hb2.mono (by omega))⟩
  · go_enter Try.func10, Try.ntmps10
    go_upto_region 1 with fail
    obtain ⟨W, hW, hB, hz, HS⟩ := two_boxes w p d g a o n p d g' a' o' n' 25
    rw [← hW]
    clear hW
    have hbD := (Below.refl (w.heap.size + 2) W).drew
    have HB := Lib.hid hB
    have hz2 : w.heap.size + 2 ≤ W.drew.heap.size := by show _ ≤ W.heap.size; omega
    clear hB hz
    go_region_held3 (fun w' => (w'.cell? ⟨w.heap.size, 0, none⟩ = some (.int .i64 p) ∧ w'.cell? ⟨w.heap.size, 1, none⟩ = some (.int .i64 d) ∧ w'.cell? ⟨w.heap.size, 2, none⟩ = some (.int .i64 g) ∧ w'.cell? ⟨w.heap.size, 3, none⟩ = some (.int .i64 a) ∧ w'.cell? ⟨w.heap.size, 4, none⟩ = some (.int .i64 o) ∧ w'.cell? ⟨w.heap.size, 5, none⟩ = some (.int .i64 n)) ∧ (w'.cell? ⟨w.heap.size + 1, 0, none⟩ = some (.int .i64 p) ∧ w'.cell? ⟨w.heap.size + 1, 1, none⟩ = some (.int .i64 d) ∧ w'.cell? ⟨w.heap.size + 1, 2, none⟩ = some (.int .i64 g') ∧ w'.cell? ⟨w.heap.size + 1, 3, none⟩ = some (.int .i64 a') ∧ w'.cell? ⟨w.heap.size + 1, 4, none⟩ = some (.int .i64 o') ∧ w'.cell? ⟨w.heap.size + 1, 5, none⟩ = some (.int .i64 n')) ∧ Below (w.heap.size + 2) W w')
      (first | exact HS.out _ hbD | exact HS.out _ hb1 | exact HS.out _ hb2)
      (first
        | (go_at_call 12; (with_reducible refine (spec_atTimeC p d g a o n 0 _).mono ?_); rintro e1 w1 ⟨rfl, hbk1⟩; have hb1 := hbD.trans (hbk1.mono hz2); have hz3 := Nat.le_trans hz2 hbk1.size)
        | (go_at_call 12; (with_reducible refine (spec_atTimeC p d g' a' o' n' 0 _).mono ?_); rintro e2 w2 ⟨rfl, hbk2⟩; have hb2 := hb1.trans (hbk2.mono hz3)))
    go_wp2
    go_ret
    exact ⟨rfl, HB.out.trans (hb2.mono (by omega))⟩
  · go_enter Try.func10, Try.ntmps10
    go_upto_region 1 with fail
    obtain ⟨W, hW, hB, hz, HS⟩ := two_boxes w p d g a o n p d g a' o' n' 25
    rw [← hW]
    clear hW
    have hbD := (Below.refl (w.heap.size + 2) W).drew
    have HB := Lib.hid hB
    have hz2 : w.heap.size + 2 ≤ W.drew.heap.size := by show _ ≤ W.heap.size; omega
    clear hB hz
    go_region_held3 (fun w' => (w'.cell? ⟨w.heap.size, 0, none⟩ = some (.int .i64 p) ∧ w'.cell? ⟨w.heap.size, 1, none⟩ = some (.int .i64 d) ∧ w'.cell? ⟨w.heap.size, 2, none⟩ = some (.int .i64 g) ∧ w'.cell? ⟨w.heap.size, 3, none⟩ = some (.int .i64 a) ∧ w'.cell? ⟨w.heap.size, 4, none⟩ = some (.int .i64 o) ∧ w'.cell? ⟨w.heap.size, 5, none⟩ = some (.int .i64 n)) ∧ (w'.cell? ⟨w.heap.size + 1, 0, none⟩ = some (.int .i64 p) ∧ w'.cell? ⟨w.heap.size + 1, 1, none⟩ = some (.int .i64 d) ∧ w'.cell? ⟨w.heap.size + 1, 2, none⟩ = some (.int .i64 g) ∧ w'.cell? ⟨w.heap.size + 1, 3, none⟩ = some (.int .i64 a') ∧ w'.cell? ⟨w.heap.size + 1, 4, none⟩ = some (.int .i64 o') ∧ w'.cell? ⟨w.heap.size + 1, 5, none⟩ = some (.int .i64 n')) ∧ Below (w.heap.size + 2) W w')
      (first | exact HS.out _ hbD | exact HS.out _ hb1 | exact HS.out _ hb2)
      (first
        | (go_at_call 12; (with_reducible refine (spec_atTimeC p d g a o n 0 _).mono ?_); rintro e1 w1 ⟨rfl, hbk1⟩; have hb1 := hbD.trans (hbk1.mono hz2); have hz3 := Nat.le_trans hz2 hbk1.size)
        | (go_at_call 12; (with_reducible refine (spec_atTimeC p d g a' o' n' 0 _).mono ?_); rintro e2 w2 ⟨rfl, hbk2⟩; have hb2 := hb1.trans (hbk2.mono hz3)))
    go_wp2
    go_ret
    exact ⟨rfl, HB.out.trans (hb2.mono (by omega))⟩
  · go_enter Try.func10, Try.ntmps10
    go_upto_region 1 with fail
    obtain ⟨W, hW, hB, hz, HS⟩ := two_boxes w p d g a o n p d g a o' n' 25
    rw [← hW]
    clear hW
    have hbD := (Below.refl (w.heap.size + 2) W).drew
    have HB := Lib.hid hB
    have hz2 : w.heap.size + 2 ≤ W.drew.heap.size := by show _ ≤ W.heap.size; omega
    clear hB hz
    go_region_held3 (fun w' => (w'.cell? ⟨w.heap.size, 0, none⟩ = some (.int .i64 p) ∧ w'.cell? ⟨w.heap.size, 1, none⟩ = some (.int .i64 d) ∧ w'.cell? ⟨w.heap.size, 2, none⟩ = some (.int .i64 g) ∧ w'.cell? ⟨w.heap.size, 3, none⟩ = some (.int .i64 a) ∧ w'.cell? ⟨w.heap.size, 4, none⟩ = some (.int .i64 o) ∧ w'.cell? ⟨w.heap.size, 5, none⟩ = some (.int .i64 n)) ∧ (w'.cell? ⟨w.heap.size + 1, 0, none⟩ = some (.int .i64 p) ∧ w'.cell? ⟨w.heap.size + 1, 1, none⟩ = some (.int .i64 d) ∧ w'.cell? ⟨w.heap.size + 1, 2, none⟩ = some (.int .i64 g) ∧ w'.cell? ⟨w.heap.size + 1, 3, none⟩ = some (.int .i64 a) ∧ w'.cell? ⟨w.heap.size + 1, 4, none⟩ = some (.int .i64 o') ∧ w'.cell? ⟨w.heap.size + 1, 5, none⟩ = some (.int .i64 n')) ∧ Below (w.heap.size + 2) W w')
      (first | exact HS.out _ hbD | exact HS.out _ hb1 | exact HS.out _ hb2)
      (first
        | (go_at_call 12; (with_reducible refine (spec_atTimeC p d g a o n 0 _).mono ?_); rintro e1 w1 ⟨rfl, hbk1⟩; have hb1 := hbD.trans (hbk1.mono hz2); have hz3 := Nat.le_trans hz2 hbk1.size)
        | (go_at_call 12; (with_reducible refine (spec_atTimeC p d g a o' n' 0 _).mono ?_); rintro e2 w2 ⟨rfl, hbk2⟩; have hb2 := hb1.trans (hbk2.mono hz3)))
    go_wp2
    go_ret
    exact ⟨rfl, HB.out.trans (hb2.mono (by omega))⟩
set_option maxHeartbeats 4000000 in
theorem spec_sameYes (p d g a o n n' : Int) (w : World) :
    Calls Try.prog 10 #[.agg #[.int .i64 p, .int .i64 d, .int .i64 g, .int .i64 a, .int .i64 o, .int .i64 n], .agg #[.int .i64 p, .int .i64 d, .int .i64 g, .int .i64 a, .int .i64 o, .int .i64 n']] w fun e w' => e = .returned (.bool true) ∧ Below w.heap.size w w' := by
  go_enter Try.func10, Try.ntmps10
  go_upto_region 1 with fail
  obtain ⟨W, hW, hB, hz, HS⟩ := two_boxes w p d g a o n p d g a o n' 25
  rw [← hW]
  clear hW
  have hbD := (Below.refl (w.heap.size + 2) W).drew
  have HB := Lib.hid hB
  have hz2 : w.heap.size + 2 ≤ W.drew.heap.size := by show _ ≤ W.heap.size; omega
  clear hB hz
  go_region_held3 (fun w' => (w'.cell? ⟨w.heap.size, 0, none⟩ = some (.int .i64 p) ∧ w'.cell? ⟨w.heap.size, 1, none⟩ = some (.int .i64 d) ∧ w'.cell? ⟨w.heap.size, 2, none⟩ = some (.int .i64 g) ∧ w'.cell? ⟨w.heap.size, 3, none⟩ = some (.int .i64 a) ∧ w'.cell? ⟨w.heap.size, 4, none⟩ = some (.int .i64 o) ∧ w'.cell? ⟨w.heap.size, 5, none⟩ = some (.int .i64 n)) ∧ (w'.cell? ⟨w.heap.size + 1, 0, none⟩ = some (.int .i64 p) ∧ w'.cell? ⟨w.heap.size + 1, 1, none⟩ = some (.int .i64 d) ∧ w'.cell? ⟨w.heap.size + 1, 2, none⟩ = some (.int .i64 g) ∧ w'.cell? ⟨w.heap.size + 1, 3, none⟩ = some (.int .i64 a) ∧ w'.cell? ⟨w.heap.size + 1, 4, none⟩ = some (.int .i64 o) ∧ w'.cell? ⟨w.heap.size + 1, 5, none⟩ = some (.int .i64 n')) ∧ Below (w.heap.size + 2) W w')
    (first | exact HS.out _ hbD | exact HS.out _ hb1 | exact HS.out _ hb2)
    (first
      | (go_at_call 12; (with_reducible refine (spec_atTimeC p d g a o n 0 _).mono ?_); rintro e1 w1 ⟨rfl, hbk1⟩; have hb1 := hbD.trans (hbk1.mono hz2); have hz3 := Nat.le_trans hz2 hbk1.size)
      | (go_at_call 12; (with_reducible refine (spec_atTimeC p d g a o n' 0 _).mono ?_); rintro e2 w2 ⟨rfl, hbk2⟩; have hb2 := hb1.trans (hbk2.mono hz3)))
  go_wp2
  go_ret
  exact ⟨rfl, HB.out.trans (hb2.mono (by omega))⟩
theorem spec_sameQuestion (x y : RequestD) (w : World) : Calls Try.prog 10 #[x.val, y.val] w fun e w' => e = .returned (.bool (sameQ x y)) ∧ Below w.heap.size w w' := by
  obtain ⟨p, d, g, a, o, n⟩ := x
  obtain ⟨p', d', g', a', o', n'⟩ := y
  rw [RequestD.val_mk, RequestD.val_mk]
  cases h : sameQ ⟨p, d, g, a, o, n⟩ ⟨p', d', g', a', o', n'⟩
  · exact spec_sameNo p d g a o n p' d' g' a' o' n' w (sameQ_no h)
  · obtain ⟨rfl, rfl, rfl, rfl, rfl⟩ := sameQ_yes h
    exact spec_sameYes p d g a o n n' w
theorem leafQ_1 (ls : List IncludesD) (xs : List FactD) (a b : Int) (q : RequestD) : leafQ ls xs 1 a b q = true := rfl
theorem leafQ_2 (ls : List IncludesD) (xs : List FactD) (a b : Int) (q : RequestD) : leafQ ls xs 2 a b q = hasI (Role.ofL (Role.prs ls) (valsF xs 1 q.Person q.Now b)) a := rfl
theorem leafQ_3 (ls : List IncludesD) (xs : List FactD) (a b : Int) (q : RequestD) : leafQ ls xs 3 a b q = decide (0 ≤ findF xs 2 q.Person q.Device q.Now b) := rfl
theorem leafQ_4 (ls : List IncludesD) (xs : List FactD) (a b : Int) (q : RequestD) : leafQ ls xs 4 a b q = decide (a ≤ bestF xs 3 q.Device q.Now b) := rfl
theorem leafQ_5 (ls : List IncludesD) (xs : List FactD) (a b : Int) (q : RequestD) : leafQ ls xs 5 a b q = decide (a ≤ bestF xs 4 q.Program q.Now b) := rfl
theorem leafQ_6 (ls : List IncludesD) (xs : List FactD) (a b : Int) (q : RequestD) : leafQ ls xs 6 a b q = decide (q.Now ≤ a) := rfl
theorem leafQ_no {o : Int} (h : ¬ (o = 1 ∨ o = 2 ∨ o = 3 ∨ o = 4 ∨ o = 5 ∨ o = 6)) (ls : List IncludesD) (xs : List FactD) (a b : Int) (q : RequestD) : leafQ ls xs o a b q = false := by
  unfold leafQ
  rw [if_neg (by omega), if_neg (by omega), if_neg (by omega), if_neg (by omega), if_neg (by omega), if_neg (by omega)]
/-- A boxed condition and a boxed request: what their blocks hold behind whatever turns nothing below. -/
theorem two_req (w : World) (o A B p d g k ob n : Int) (va : Value) (T T' : TypeId) :
    ∃ W : World, W = (w.alloc (.cells #[.int .i64 o, .int .i64 A, .int .i64 B, va] T)).alloc (.cells #[.int .i64 p, .int .i64 d, .int .i64 g, .int .i64 k, .int .i64 ob, .int .i64 n] T') ∧
      Below w.heap.size w W ∧ W.heap.size = w.heap.size + 2 ∧
      Hid (∀ w' : World, Below (w.heap.size + 2) W w' → (w'.cell? ⟨w.heap.size, 1, none⟩ = some (.int .i64 A) ∧ w'.cell? ⟨w.heap.size, 2, none⟩ = some (.int .i64 B)) ∧ (w'.cell? ⟨w.heap.size + 1, 1, none⟩ = some (.int .i64 d) ∧ w'.cell? ⟨w.heap.size + 1, 2, none⟩ = some (.int .i64 g) ∧ w'.cell? ⟨w.heap.size + 1, 5, none⟩ = some (.int .i64 n)) ∧ Below (w.heap.size + 2) W w') := by
  refine ⟨_, rfl, by go_grown, by simp, ?_⟩
  intro w' hb
  have hA : ∀ o : Nat, w'.cell? ⟨w.heap.size, o, none⟩ = _ := fun o => hb.cell (p := ⟨w.heap.size, o, none⟩) (by show w.heap.size < _; omega)
  have hB : ∀ o : Nat, w'.cell? ⟨w.heap.size + 1, o, none⟩ = _ := fun o => hb.cell (p := ⟨w.heap.size + 1, o, none⟩) (by show w.heap.size + 1 < _; omega)
  refine ⟨⟨(hA 1).trans ?_, (hA 2).trans ?_⟩, ⟨(hB 1).trans ?_, (hB 2).trans ?_, (hB 5).trans ?_⟩, hb⟩
  all_goals go_simp
set_option maxHeartbeats 4000000 in
theorem spec_leafHolds (w : World) (hi hi2 c c2 cn cc : Nat) (a a2 ca : Option Addr) (ls : List IncludesD) (xs : List FactD) (o A B : Int) (q : RequestD) (h : RowIncludes w hi (.slice a ls.length c) ls) (hh : hi ≤ w.heap.size) (h' : RowFact w hi2 (.slice a2 xs.length c2) xs) (hh' : hi2 ≤ w.heap.size) :
    Calls Try.prog 18 #[.slice a ls.length c, .slice a2 xs.length c2, .agg #[.int .i64 o, .int .i64 A, .int .i64 B, .slice ca cn cc], q.val] w fun e w' => e = .returned (.bool (leafQ ls xs o A B q)) ∧ Below w.heap.size w w' := by
  obtain ⟨p, d, g, k, ob, n⟩ := q
  rw [RequestD.val_mk]
  by_cases ho : o = 1 ∨ o = 2 ∨ o = 3 ∨ o = 4 ∨ o = 5 ∨ o = 6
  · rcases ho with rfl | rfl | rfl | rfl | rfl | rfl
    · rw [leafQ_1]
      clear h h'
      go_enter Try.func18, Try.ntmps18
      go_wp2
      go_ret
      exact ⟨rfl, by go_grown⟩
    · rw [leafQ_2]
      have HC := Lib.hid (fun W (hW : Below w.heap.size w W) => spec_hasRole W hi hi2 c c2 a a2 ls xs p A n B (h.below hW hh) (Nat.le_trans hh hW.size) (h'.below hW hh') (Nat.le_trans hh' hW.size))
      have D0 : Below w.heap.size w ((w.alloc (.cells #[.int .i64 2, .int .i64 A, .int .i64 B, .slice ca cn cc] 47)).alloc (.cells #[.int .i64 p, .int .i64 d, .int .i64 g, .int .i64 k, .int .i64 ob, .int .i64 n] 25)) := by go_grown
      clear h h'
      show Calls _ _ _ _ fun e w' => e = .returned (.bool (hasI (Role.ofL (Role.prs ls) (valsF xs 1 p n B)) A)) ∧ _
      generalize hasI (Role.ofL (Role.prs ls) (valsF xs 1 p n B)) A = r at HC ⊢
      go_enter Try.func18, Try.ntmps18
      go_wp2_with fail
      refine (HC.out _ D0).mono ?_
      rintro e w1 ⟨rfl, b1⟩
      go_wp2
      go_ret
      exact ⟨rfl, D0.trans (b1.mono D0.size)⟩
    · rw [leafQ_3]
      have HC := Lib.hid (fun W (hW : Below w.heap.size w W) => spec_findFact W hi2 c2 a2 xs 2 p d n B (h'.below hW hh'))
      have D0 : Below w.heap.size w ((w.alloc (.cells #[.int .i64 3, .int .i64 A, .int .i64 B, .slice ca cn cc] 47)).alloc (.cells #[.int .i64 p, .int .i64 d, .int .i64 g, .int .i64 k, .int .i64 ob, .int .i64 n] 25)) := by go_grown
      clear h h'
      show Calls _ _ _ _ fun e w' => e = .returned (.bool (decide (0 ≤ findF xs 2 p d n B))) ∧ _
      generalize findF xs 2 p d n B = r at HC ⊢
      go_enter Try.func18, Try.ntmps18
      go_wp2_with fail
      refine (HC.out _ D0).mono ?_
      rintro e w1 ⟨rfl, b1⟩
      go_wp2
      go_ret
      exact ⟨ret_b (by simp), D0.trans (b1.mono D0.size)⟩
    · rw [leafQ_4]
      have HC := Lib.hid (fun W (hW : Below w.heap.size w W) => spec_bestValue W hi2 c2 a2 xs 3 d n B (h'.below hW hh'))
      clear h h'
      show Calls _ _ _ _ fun e w' => e = .returned (.bool (decide (A ≤ bestF xs 3 d n B))) ∧ _
      generalize bestF xs 3 d n B = r at HC ⊢
      obtain ⟨W, hW, D0, hz, HS⟩ := two_req w 4 A B p d g k ob n (.slice ca cn cc) 47 25
      go_enter Try.func18, Try.ntmps18
      go_upto_region 9 with fail
      rw [← hW]
      clear hW
      have hbD := (Below.refl (w.heap.size + 2) W).drew
      have DD := D0.drew
      have HB := Lib.hid D0
      have hz2 : w.heap.size + 2 ≤ W.drew.heap.size := by show _ ≤ W.heap.size; omega
      clear D0 hz
      go_region_held3 (fun w' => (w'.cell? ⟨w.heap.size, 1, none⟩ = some (.int .i64 A) ∧ w'.cell? ⟨w.heap.size, 2, none⟩ = some (.int .i64 B)) ∧ (w'.cell? ⟨w.heap.size + 1, 1, none⟩ = some (.int .i64 d) ∧ w'.cell? ⟨w.heap.size + 1, 2, none⟩ = some (.int .i64 g) ∧ w'.cell? ⟨w.heap.size + 1, 5, none⟩ = some (.int .i64 n)) ∧ Below (w.heap.size + 2) W w')
        (first | exact HS.out _ hbD | exact HS.out _ hb1)
        (first | (go_at_call 36; (with_reducible refine (HC.out _ DD).mono ?_); rintro e1 w1 ⟨rfl, hbk1⟩; have hb1 := hbD.trans (hbk1.mono hz2)))
      go_wp2
      go_ret
      exact ⟨ret_b (by simp), HB.out.trans (hb1.mono (by omega))⟩
    · rw [leafQ_5]
      have HC := Lib.hid (fun W (hW : Below w.heap.size w W) => spec_bestValue W hi2 c2 a2 xs 4 g n B (h'.below hW hh'))
      clear h h'
      show Calls _ _ _ _ fun e w' => e = .returned (.bool (decide (A ≤ bestF xs 4 g n B))) ∧ _
      generalize bestF xs 4 g n B = r at HC ⊢
      obtain ⟨W, hW, D0, hz, HS⟩ := two_req w 5 A B p d g k ob n (.slice ca cn cc) 47 25
      go_enter Try.func18, Try.ntmps18
      go_upto_region 11 with fail
      rw [← hW]
      clear hW
      have hbD := (Below.refl (w.heap.size + 2) W).drew
      have DD := D0.drew
      have HB := Lib.hid D0
      have hz2 : w.heap.size + 2 ≤ W.drew.heap.size := by show _ ≤ W.heap.size; omega
      clear D0 hz
      go_region_held3 (fun w' => (w'.cell? ⟨w.heap.size, 1, none⟩ = some (.int .i64 A) ∧ w'.cell? ⟨w.heap.size, 2, none⟩ = some (.int .i64 B)) ∧ (w'.cell? ⟨w.heap.size + 1, 1, none⟩ = some (.int .i64 d) ∧ w'.cell? ⟨w.heap.size + 1, 2, none⟩ = some (.int .i64 g) ∧ w'.cell? ⟨w.heap.size + 1, 5, none⟩ = some (.int .i64 n)) ∧ Below (w.heap.size + 2) W w')
        (first | exact HS.out _ hbD | exact HS.out _ hb1)
        (first | (go_at_call 36; (with_reducible refine (HC.out _ DD).mono ?_); rintro e1 w1 ⟨rfl, hbk1⟩; have hb1 := hbD.trans (hbk1.mono hz2)))
      go_wp2
      go_ret
      exact ⟨ret_b (by simp), HB.out.trans (hb1.mono (by omega))⟩
    · rw [leafQ_6]
      clear h h'
      go_enter Try.func18, Try.ntmps18
      go_wp2
      go_ret
      exact ⟨ret_b (by simp), by go_grown⟩
  · rw [leafQ_no ho]
    clear h h'
    have e1 : (o == 1) = false := beq_eq_false_iff_ne.2 (by omega)
    have e2 : (o == 2) = false := beq_eq_false_iff_ne.2 (by omega)
    have e3 : (o == 3) = false := beq_eq_false_iff_ne.2 (by omega)
    have e4 : (o == 4) = false := beq_eq_false_iff_ne.2 (by omega)
    have e5 : (o == 5) = false := beq_eq_false_iff_ne.2 (by omega)
    have e6 : (o == 6) = false := beq_eq_false_iff_ne.2 (by omega)
    clear ho
    go_enter Try.func18, Try.ntmps18
    go_wp2
    go_ret
    exact ⟨rfl, by go_grown⟩
end Go.Proofs.Ytmgigjpkpeamjaa
