/- Requests (chapter 17): contracts of the landed functions (73da360): LeafHolds, its method expressions. No condition but the bounds of what came in. -/
import Derived.Test.YtmgigjpkpeamjaaGreatMNamesI
import Derived.Test.YtmgigjpkpeamjaaGreatMRoleI
import Derived.Test.YtmgigjpkpeamjaaGreatMRoleH
import Derived.Test.YtmgigjpkpeamjaaGreatStoresF
import Derived.Test.YtmgigjpkpeamjaaGreatMValsI
import Derived.Test.YtmgigjpkpeamjaaGreatStoreM
import Derived.Test.YtmgigjpkpeamjaaGreatMBlk
import Derived.Deep.RegionHeld3
import Derived.Outline
namespace Go.Proofs.YtmgigjpkpeamjaaGreat
open Go.ChangeShapes Go.WideShapes Go.ChangeAt Go.RowKit
set_option linter.unusedVariables false


/-- Three boxes: a request, a condition, and what requests are judged by. -/
theorem three_boxes (w : World) (p d g k ob n o A B : Int) (va l s : Value) (T T' T2 : TypeId) :
    ∃ W : World, W = ((w.alloc (.cells #[.int .i64 p, .int .i64 d, .int .i64 g, .int .i64 k, .int .i64 ob, .int .i64 n] T)).alloc (.cells #[.int .i64 o, .int .i64 A, .int .i64 B, va] T')).alloc (.cells #[l, s] T2) ∧
      Below w.heap.size w W ∧ W.heap.size = w.heap.size + 3 ∧
      Hid (∀ w' : World, Below (w.heap.size + 3) W w' → (w'.cell? ⟨w.heap.size, 0, none⟩ = some (.int .i64 p) ∧ w'.cell? ⟨w.heap.size, 1, none⟩ = some (.int .i64 d) ∧ w'.cell? ⟨w.heap.size, 2, none⟩ = some (.int .i64 g) ∧ w'.cell? ⟨w.heap.size, 5, none⟩ = some (.int .i64 n)) ∧ (w'.cell? ⟨w.heap.size + 1, 1, none⟩ = some (.int .i64 A) ∧ w'.cell? ⟨w.heap.size + 1, 2, none⟩ = some (.int .i64 B)) ∧ (w'.cell? ⟨w.heap.size + 2, 0, none⟩ = some l ∧ w'.cell? ⟨w.heap.size + 2, 1, none⟩ = some s) ∧ Below (w.heap.size + 3) W w') := by
  refine ⟨_, rfl, by go_grown, by simp, ?_⟩
  intro w' hb
  have hA : ∀ o : Nat, w'.cell? ⟨w.heap.size, o, none⟩ = _ := fun o => hb.cell (p := ⟨w.heap.size, o, none⟩) (by show w.heap.size < _; omega)
  have hB : ∀ o : Nat, w'.cell? ⟨w.heap.size + 1, o, none⟩ = _ := fun o => hb.cell (p := ⟨w.heap.size + 1, o, none⟩) (by show w.heap.size + 1 < _; omega)
  have hC : ∀ o : Nat, w'.cell? ⟨w.heap.size + 2, o, none⟩ = _ := fun o => hb.cell (p := ⟨w.heap.size + 2, o, none⟩) (by show w.heap.size + 2 < _; omega)
  refine ⟨⟨(hA 0).trans ?_, (hA 1).trans ?_, (hA 2).trans ?_, (hA 5).trans ?_⟩, ⟨(hB 1).trans ?_, (hB 2).trans ?_⟩, ⟨(hC 0).trans ?_, (hC 1).trans ?_⟩, hb⟩
  all_goals go_simp
theorem find_neg (xs : List FactD) (k s v now age : Int) : findF xs k s v now age = -1 ∨ 0 ≤ findF xs k s v now age := by
  rcases firstI_cases (wantF k s v now age) xs 0 with ⟨h1, -⟩ | ⟨i, hi, h1, -⟩
  · exact .inl h1
  · refine .inr ?_
    unfold findF
    have : firstI (wantF k s v now age) xs 0 = ((0 + i : Nat) : Int) := h1
    omega

set_option maxHeartbeats 2000000 in
theorem leaf_isAny (w : World) (hi hi2 c c2 cn cc : Nat) (a a2 ca : Option Addr) (ls : List IncludesD) (xs : List FactD) (o A B p d g k ob n : Int) (h : RowIncludes w hi (.slice a ls.length c) ls) (hh : hi ≤ w.heap.size) (h' : RowFact w hi2 (.slice a2 xs.length c2) xs) (hh' : hi2 ≤ w.heap.size) (hn : xs.length ≤ 1048576) :
    Calls Tryz.prog 53 #[.agg #[.int .i64 p, .int .i64 d, .int .i64 g, .int .i64 k, .int .i64 ob, .int .i64 n], .agg #[.int .i64 o, .int .i64 A, .int .i64 B, .slice ca cn cc], .agg #[.slice a ls.length c, .slice a2 xs.length c2]] w fun e w' => e = .returned (.bool (true)) ∧ Below w.heap.size w w' := by
  clear h h'
  go_enter Tryz.func53, Tryz.ntmps53
  go_wp2
  go_ret
  exact ⟨rfl, by go_grown⟩
set_option maxHeartbeats 2000000 in
theorem leaf_hasRole (w : World) (hi hi2 c c2 cn cc : Nat) (a a2 ca : Option Addr) (ls : List IncludesD) (xs : List FactD) (o A B p d g k ob n : Int) (h : RowIncludes w hi (.slice a ls.length c) ls) (hh : hi ≤ w.heap.size) (h' : RowFact w hi2 (.slice a2 xs.length c2) xs) (hh' : hi2 ≤ w.heap.size) (hn : xs.length ≤ 1048576) :
    Calls Tryz.prog 54 #[.agg #[.int .i64 p, .int .i64 d, .int .i64 g, .int .i64 k, .int .i64 ob, .int .i64 n], .agg #[.int .i64 o, .int .i64 A, .int .i64 B, .slice ca cn cc], .agg #[.slice a ls.length c, .slice a2 xs.length c2]] w fun e w' => e = .returned (.bool (hasI (Role.ofL (Role.prs ls) (valsF xs 1 p n B)) A)) ∧ Below w.heap.size w w' := by
  have HC := Lib.hid (fun W (hW : Below w.heap.size w W) => impl_hasRole W hi hi2 c c2 a a2 ls xs p A n B (h.below hW hh) (Nat.le_trans hh hW.size) (h'.below hW hh') (Nat.le_trans hh' hW.size) hn)
  clear h h'
  generalize hasI (Role.ofL (Role.prs ls) (valsF xs 1 p n B)) A = r at HC ⊢
  obtain ⟨W, hW, hB, hz, HS⟩ := three_boxes w p d g k ob n o A B (.slice ca cn cc) (.slice a ls.length c) (.slice a2 xs.length c2) 30 28 66
  go_enter Tryz.func54, Tryz.ntmps54
  go_upto_region 1 with fail
  rw [← hW]
  clear hW
  obtain ⟨⟨c0, c1, c2, c5⟩, ⟨d1, d2⟩, ⟨k0, k1⟩, -⟩ := HS.out W (Below.refl _ _)
  go_wp2_with fail
  refine (HC.out _ hB).mono ?_
  rintro e w1 ⟨rfl, b1⟩
  have B1 := Lib.hid (hB.trans (b1.mono hB.size))
  clear b1
  go_wp2
  go_ret
  exact ⟨rfl, B1.out⟩
set_option maxHeartbeats 2000000 in
theorem leaf_ownsDevice (w : World) (hi hi2 c c2 cn cc : Nat) (a a2 ca : Option Addr) (ls : List IncludesD) (xs : List FactD) (o A B p d g k ob n : Int) (h : RowIncludes w hi (.slice a ls.length c) ls) (hh : hi ≤ w.heap.size) (h' : RowFact w hi2 (.slice a2 xs.length c2) xs) (hh' : hi2 ≤ w.heap.size) (hn : xs.length ≤ 1048576) :
    Calls Tryz.prog 55 #[.agg #[.int .i64 p, .int .i64 d, .int .i64 g, .int .i64 k, .int .i64 ob, .int .i64 n], .agg #[.int .i64 o, .int .i64 A, .int .i64 B, .slice ca cn cc], .agg #[.slice a ls.length c, .slice a2 xs.length c2]] w fun e w' => e = .returned (.bool (decide (0 ≤ findF xs 2 p d n B))) ∧ Below w.heap.size w w' := by
  have HC := Lib.hid (fun W (hW : Below w.heap.size w W) => impl_findFact W hi2 c2 a2 xs 2 p d n B (h'.below hW hh') (Nat.le_trans hh' hW.size) hn)
  clear h h'
  have HF := Lib.hid (find_neg xs 2 p d n B)
  generalize findF xs 2 p d n B = r at HC HF ⊢
  obtain ⟨W, hW, hB, hz, HS⟩ := three_boxes w p d g k ob n o A B (.slice ca cn cc) (.slice a ls.length c) (.slice a2 xs.length c2) 30 28 66
  go_enter Tryz.func55, Tryz.ntmps55
  go_upto_region 1 with fail
  rw [← hW]
  clear hW
  obtain ⟨⟨c0, c1, c2, c5⟩, ⟨d1, d2⟩, ⟨k0, k1⟩, -⟩ := HS.out W (Below.refl _ _)
  go_wp2_with fail
  refine (HC.out _ hB).mono ?_
  rintro e w1 ⟨rfl, b1⟩
  have B1 := Lib.hid (hB.trans (b1.mono hB.size))
  clear b1
  go_wp2
  go_ret
  exact ⟨ret_b (by have := HF.out; rw [Bool.eq_iff_iff]; simp; omega), B1.out⟩
set_option maxHeartbeats 2000000 in
theorem leaf_hasHealth (w : World) (hi hi2 c c2 cn cc : Nat) (a a2 ca : Option Addr) (ls : List IncludesD) (xs : List FactD) (o A B p d g k ob n : Int) (h : RowIncludes w hi (.slice a ls.length c) ls) (hh : hi ≤ w.heap.size) (h' : RowFact w hi2 (.slice a2 xs.length c2) xs) (hh' : hi2 ≤ w.heap.size) (hn : xs.length ≤ 1048576) :
    Calls Tryz.prog 56 #[.agg #[.int .i64 p, .int .i64 d, .int .i64 g, .int .i64 k, .int .i64 ob, .int .i64 n], .agg #[.int .i64 o, .int .i64 A, .int .i64 B, .slice ca cn cc], .agg #[.slice a ls.length c, .slice a2 xs.length c2]] w fun e w' => e = .returned (.bool (decide (A ≤ bestF xs 3 d n B))) ∧ Below w.heap.size w w' := by
  have HC := Lib.hid (fun W (hW : Below w.heap.size w W) => impl_bestValue W hi2 c2 a2 xs 3 d n B (h'.below hW hh') (Nat.le_trans hh' hW.size) hn)
  clear h h'
  generalize bestF xs 3 d n B = r at HC ⊢
  obtain ⟨W, hW, hB, hz, HS⟩ := three_boxes w p d g k ob n o A B (.slice ca cn cc) (.slice a ls.length c) (.slice a2 xs.length c2) 30 28 66
  go_enter Tryz.func56, Tryz.ntmps56
  go_upto_region 1 with fail
  rw [← hW]
  clear hW
  have hbD := (Below.refl (w.heap.size + 3) W).drew
  have DD := hB.drew
  have HB := Lib.hid hB
  have hz2 : w.heap.size + 3 ≤ W.drew.heap.size := by show _ ≤ W.heap.size; omega
  clear hB hz
  go_region_held3 (fun w' => (w'.cell? ⟨w.heap.size, 0, none⟩ = some (.int .i64 p) ∧ w'.cell? ⟨w.heap.size, 1, none⟩ = some (.int .i64 d) ∧ w'.cell? ⟨w.heap.size, 2, none⟩ = some (.int .i64 g) ∧ w'.cell? ⟨w.heap.size, 5, none⟩ = some (.int .i64 n)) ∧ (w'.cell? ⟨w.heap.size + 1, 1, none⟩ = some (.int .i64 A) ∧ w'.cell? ⟨w.heap.size + 1, 2, none⟩ = some (.int .i64 B)) ∧ (w'.cell? ⟨w.heap.size + 2, 0, none⟩ = some (.slice a ls.length c) ∧ w'.cell? ⟨w.heap.size + 2, 1, none⟩ = some (.slice a2 xs.length c2)) ∧ Below (w.heap.size + 3) W w')
    (first | exact HS.out _ hbD | exact HS.out _ hb1)
    (first | (go_at_call 71; (with_reducible refine (HC.out _ DD).mono ?_); rintro e1 w1 ⟨rfl, hbk1⟩; have hb1 := hbD.trans (hbk1.mono hz2)))
  go_wp2
  go_ret
  exact ⟨ret_b (by simp), HB.out.trans (hb1.mono (by omega))⟩
set_option maxHeartbeats 2000000 in
theorem leaf_hasBuild (w : World) (hi hi2 c c2 cn cc : Nat) (a a2 ca : Option Addr) (ls : List IncludesD) (xs : List FactD) (o A B p d g k ob n : Int) (h : RowIncludes w hi (.slice a ls.length c) ls) (hh : hi ≤ w.heap.size) (h' : RowFact w hi2 (.slice a2 xs.length c2) xs) (hh' : hi2 ≤ w.heap.size) (hn : xs.length ≤ 1048576) :
    Calls Tryz.prog 57 #[.agg #[.int .i64 p, .int .i64 d, .int .i64 g, .int .i64 k, .int .i64 ob, .int .i64 n], .agg #[.int .i64 o, .int .i64 A, .int .i64 B, .slice ca cn cc], .agg #[.slice a ls.length c, .slice a2 xs.length c2]] w fun e w' => e = .returned (.bool (decide (A ≤ bestF xs 4 g n B))) ∧ Below w.heap.size w w' := by
  have HC := Lib.hid (fun W (hW : Below w.heap.size w W) => impl_bestValue W hi2 c2 a2 xs 4 g n B (h'.below hW hh') (Nat.le_trans hh' hW.size) hn)
  clear h h'
  generalize bestF xs 4 g n B = r at HC ⊢
  obtain ⟨W, hW, hB, hz, HS⟩ := three_boxes w p d g k ob n o A B (.slice ca cn cc) (.slice a ls.length c) (.slice a2 xs.length c2) 30 28 66
  go_enter Tryz.func57, Tryz.ntmps57
  go_upto_region 1 with fail
  rw [← hW]
  clear hW
  have hbD := (Below.refl (w.heap.size + 3) W).drew
  have DD := hB.drew
  have HB := Lib.hid hB
  have hz2 : w.heap.size + 3 ≤ W.drew.heap.size := by show _ ≤ W.heap.size; omega
  clear hB hz
  go_region_held3 (fun w' => (w'.cell? ⟨w.heap.size, 0, none⟩ = some (.int .i64 p) ∧ w'.cell? ⟨w.heap.size, 1, none⟩ = some (.int .i64 d) ∧ w'.cell? ⟨w.heap.size, 2, none⟩ = some (.int .i64 g) ∧ w'.cell? ⟨w.heap.size, 5, none⟩ = some (.int .i64 n)) ∧ (w'.cell? ⟨w.heap.size + 1, 1, none⟩ = some (.int .i64 A) ∧ w'.cell? ⟨w.heap.size + 1, 2, none⟩ = some (.int .i64 B)) ∧ (w'.cell? ⟨w.heap.size + 2, 0, none⟩ = some (.slice a ls.length c) ∧ w'.cell? ⟨w.heap.size + 2, 1, none⟩ = some (.slice a2 xs.length c2)) ∧ Below (w.heap.size + 3) W w')
    (first | exact HS.out _ hbD | exact HS.out _ hb1)
    (first | (go_at_call 71; (with_reducible refine (HC.out _ DD).mono ?_); rintro e1 w1 ⟨rfl, hbk1⟩; have hb1 := hbD.trans (hbk1.mono hz2)))
  go_wp2
  go_ret
  exact ⟨ret_b (by simp), HB.out.trans (hb1.mono (by omega))⟩
set_option maxHeartbeats 2000000 in
theorem leaf_isBefore (w : World) (hi hi2 c c2 cn cc : Nat) (a a2 ca : Option Addr) (ls : List IncludesD) (xs : List FactD) (o A B p d g k ob n : Int) (h : RowIncludes w hi (.slice a ls.length c) ls) (hh : hi ≤ w.heap.size) (h' : RowFact w hi2 (.slice a2 xs.length c2) xs) (hh' : hi2 ≤ w.heap.size) (hn : xs.length ≤ 1048576) :
    Calls Tryz.prog 58 #[.agg #[.int .i64 p, .int .i64 d, .int .i64 g, .int .i64 k, .int .i64 ob, .int .i64 n], .agg #[.int .i64 o, .int .i64 A, .int .i64 B, .slice ca cn cc], .agg #[.slice a ls.length c, .slice a2 xs.length c2]] w fun e w' => e = .returned (.bool (decide (n ≤ A))) ∧ Below w.heap.size w w' := by
  clear h h'
  go_enter Tryz.func58, Tryz.ntmps58
  go_wp2
  go_ret
  exact ⟨ret_b (by simp), by go_grown⟩
theorem leafOf_1 (w : World) : Calls Tryz.prog 29 #[.int .i64 1] w fun e w' => e = .returned (.func (Fn.func 53) #[] #[]) ∧ w' = w := by
  go_enter Tryz.func29, Tryz.ntmps29
  go_wp2
  go_ret
  exact ⟨rfl, rfl⟩
theorem leafOf_2 (w : World) : Calls Tryz.prog 29 #[.int .i64 2] w fun e w' => e = .returned (.func (Fn.func 54) #[] #[]) ∧ w' = w := by
  go_enter Tryz.func29, Tryz.ntmps29
  go_wp2
  go_ret
  exact ⟨rfl, rfl⟩
theorem leafOf_3 (w : World) : Calls Tryz.prog 29 #[.int .i64 3] w fun e w' => e = .returned (.func (Fn.func 55) #[] #[]) ∧ w' = w := by
  go_enter Tryz.func29, Tryz.ntmps29
  go_wp2
  go_ret
  exact ⟨rfl, rfl⟩
theorem leafOf_4 (w : World) : Calls Tryz.prog 29 #[.int .i64 4] w fun e w' => e = .returned (.func (Fn.func 56) #[] #[]) ∧ w' = w := by
  go_enter Tryz.func29, Tryz.ntmps29
  go_wp2
  go_ret
  exact ⟨rfl, rfl⟩
theorem leafOf_5 (w : World) : Calls Tryz.prog 29 #[.int .i64 5] w fun e w' => e = .returned (.func (Fn.func 57) #[] #[]) ∧ w' = w := by
  go_enter Tryz.func29, Tryz.ntmps29
  go_wp2
  go_ret
  exact ⟨rfl, rfl⟩
theorem leafOf_6 (w : World) : Calls Tryz.prog 29 #[.int .i64 6] w fun e w' => e = .returned (.func (Fn.func 58) #[] #[]) ∧ w' = w := by
  go_enter Tryz.func29, Tryz.ntmps29
  go_wp2
  go_ret
  exact ⟨rfl, rfl⟩
theorem leafOf_no (o : Int) (ho : ¬ (o = 1 ∨ o = 2 ∨ o = 3 ∨ o = 4 ∨ o = 5 ∨ o = 6)) (w : World) : Calls Tryz.prog 29 #[.int .i64 o] w fun e w' => e = .returned .nilFunc ∧ w' = w := by
  have e1 : (o == 1) = false := beq_eq_false_iff_ne.2 (by omega)
  have e2 : (o == 2) = false := beq_eq_false_iff_ne.2 (by omega)
  have e3 : (o == 3) = false := beq_eq_false_iff_ne.2 (by omega)
  have e4 : (o == 4) = false := beq_eq_false_iff_ne.2 (by omega)
  have e5 : (o == 5) = false := beq_eq_false_iff_ne.2 (by omega)
  have e6 : (o == 6) = false := beq_eq_false_iff_ne.2 (by omega)
  clear ho
  go_enter Tryz.func29, Tryz.ntmps29
  go_wp2
  go_ret
  exact ⟨rfl, rfl⟩
/-- Whether a function's value is there. -/
theorem equal_func_nil {P : Go.Program} (w : World) (d : Nat) (t : TypeId) {ps rs : Array TypeId} {vd : Bool} (F : Fn) (xs ys : Array Value) (h : P.underlying t = some (.func ps rs vd)) : (Op.equalIn (d + 1) t (.func F xs ys) .nilFunc).run P w = .ok false w := by
  simp [Op.equalIn, run_underlying h]
theorem equal_nil_nil {P : Go.Program} (w : World) (d : Nat) (t : TypeId) {ps rs : Array TypeId} {vd : Bool} (h : P.underlying t = some (.func ps rs vd)) : (Op.equalIn (d + 1) t .nilFunc .nilFunc).run P w = .ok true w := by
  simp [Op.equalIn, run_underlying h]
theorem neq_func_nil {P : Go.Program} (w : World) (t : TypeId) {ps rs : Array TypeId} {vd : Bool} (F : Fn) (xs ys : Array Value) (h : P.underlying t = some (.func ps rs vd)) : (binOp .neq t (.func F xs ys) .nilFunc).run P w = .ok (.bool true) w := by
  simp only [binOp]
  simp [Op.equal, Op.maxDepth, equal_func_nil w 9999 t F xs ys h]
theorem neq_nil_nil {P : Go.Program} (w : World) (t : TypeId) {ps rs : Array TypeId} {vd : Bool} (h : P.underlying t = some (.func ps rs vd)) : (binOp .neq t .nilFunc .nilFunc).run P w = .ok (.bool false) w := by
  simp only [binOp]
  simp [Op.equal, Op.maxDepth, equal_nil_nil w 9999 t h]
set_option maxHeartbeats 4000000 in
set_option maxRecDepth 100000 in
theorem impl_leafHolds (w : World) (hi hi2 c c2 cn cc : Nat) (a a2 ca : Option Addr) (ls : List IncludesD) (xs : List FactD) (o A B : Int) (q : RequestD) (h : RowIncludes w hi (.slice a ls.length c) ls) (hh : hi ≤ w.heap.size) (h' : RowFact w hi2 (.slice a2 xs.length c2) xs) (hh' : hi2 ≤ w.heap.size) (hn : xs.length ≤ 1048576) :
    Calls Tryz.prog 11 #[.slice a ls.length c, .slice a2 xs.length c2, .agg #[.int .i64 o, .int .i64 A, .int .i64 B, .slice ca cn cc], q.val] w fun e w' => e = .returned (.bool (leafQ ls xs o A B q)) ∧ Below w.heap.size w w' := by
  obtain ⟨p, d, g, k, ob, n⟩ := q
  rw [RequestD.val_mk]
  have hq := fun W xs ys F => neq_func_nil (P := Tryz.prog) W 63 F xs ys Tryz.underlying63
  have hq0 := fun W => neq_nil_nil (P := Tryz.prog) W 63 Tryz.underlying63
  have hD0 : Below w.heap.size w ((w.alloc (.cells #[.int .i64 o, .int .i64 A, .int .i64 B, .slice ca cn cc] 28)).alloc (.cells #[.int .i64 p, .int .i64 d, .int .i64 g, .int .i64 k, .int .i64 ob, .int .i64 n] 30)) := by go_grown
  by_cases ho : o = 1 ∨ o = 2 ∨ o = 3 ∨ o = 4 ∨ o = 5 ∨ o = 6
  · rcases ho with rfl | rfl | rfl | rfl | rfl | rfl
    · rw [leafQ_1]
      have HC := Lib.hid (fun W (hW : Below w.heap.size w W) => leaf_isAny W hi hi2 c c2 cn cc a a2 ca ls xs 1 A B p d g k ob n (h.below hW hh) (Nat.le_trans hh hW.size) (h'.below hW hh') (Nat.le_trans hh' hW.size) hn)
      clear h h'
      go_enter Tryz.func11, Tryz.ntmps11
      go_wp2_with fail
      refine (leafOf_1 _).mono ?_
      rintro e w1 ⟨rfl, rfl⟩
      go_wp2_with fail
      refine (HC.out _ hD0).mono ?_
      rintro e w2 ⟨rfl, b2⟩
      have B2 := Lib.hid (hD0.trans (b2.mono hD0.size))
      clear b2
      go_wp2
      go_ret
      exact ⟨rfl, B2.out⟩
    · rw [leafQ_2]
      have HC := Lib.hid (fun W (hW : Below w.heap.size w W) => leaf_hasRole W hi hi2 c c2 cn cc a a2 ca ls xs 2 A B p d g k ob n (h.below hW hh) (Nat.le_trans hh hW.size) (h'.below hW hh') (Nat.le_trans hh' hW.size) hn)
      clear h h'
      show Calls _ _ _ _ fun e w' => e = .returned (.bool (hasI (Role.ofL (Role.prs ls) (valsF xs 1 p n B)) A)) ∧ _
      generalize (hasI (Role.ofL (Role.prs ls) (valsF xs 1 p n B)) A) = r at HC ⊢
      go_enter Tryz.func11, Tryz.ntmps11
      go_wp2_with fail
      refine (leafOf_2 _).mono ?_
      rintro e w1 ⟨rfl, rfl⟩
      go_wp2_with fail
      refine (HC.out _ hD0).mono ?_
      rintro e w2 ⟨rfl, b2⟩
      have B2 := Lib.hid (hD0.trans (b2.mono hD0.size))
      clear b2
      go_wp2
      go_ret
      exact ⟨rfl, B2.out⟩
    · rw [leafQ_3]
      have HC := Lib.hid (fun W (hW : Below w.heap.size w W) => leaf_ownsDevice W hi hi2 c c2 cn cc a a2 ca ls xs 3 A B p d g k ob n (h.below hW hh) (Nat.le_trans hh hW.size) (h'.below hW hh') (Nat.le_trans hh' hW.size) hn)
      clear h h'
      show Calls _ _ _ _ fun e w' => e = .returned (.bool (decide (0 ≤ findF xs 2 p d n B))) ∧ _
      generalize (decide (0 ≤ findF xs 2 p d n B)) = r at HC ⊢
      go_enter Tryz.func11, Tryz.ntmps11
      go_wp2_with fail
      refine (leafOf_3 _).mono ?_
      rintro e w1 ⟨rfl, rfl⟩
      go_wp2_with fail
      refine (HC.out _ hD0).mono ?_
      rintro e w2 ⟨rfl, b2⟩
      have B2 := Lib.hid (hD0.trans (b2.mono hD0.size))
      clear b2
      go_wp2
      go_ret
      exact ⟨rfl, B2.out⟩
    · rw [leafQ_4]
      have HC := Lib.hid (fun W (hW : Below w.heap.size w W) => leaf_hasHealth W hi hi2 c c2 cn cc a a2 ca ls xs 4 A B p d g k ob n (h.below hW hh) (Nat.le_trans hh hW.size) (h'.below hW hh') (Nat.le_trans hh' hW.size) hn)
      clear h h'
      show Calls _ _ _ _ fun e w' => e = .returned (.bool (decide (A ≤ bestF xs 3 d n B))) ∧ _
      generalize (decide (A ≤ bestF xs 3 d n B)) = r at HC ⊢
      go_enter Tryz.func11, Tryz.ntmps11
      go_wp2_with fail
      refine (leafOf_4 _).mono ?_
      rintro e w1 ⟨rfl, rfl⟩
      go_wp2_with fail
      refine (HC.out _ hD0).mono ?_
      rintro e w2 ⟨rfl, b2⟩
      have B2 := Lib.hid (hD0.trans (b2.mono hD0.size))
      clear b2
      go_wp2
      go_ret
      exact ⟨rfl, B2.out⟩
    · rw [leafQ_5]
      have HC := Lib.hid (fun W (hW : Below w.heap.size w W) => leaf_hasBuild W hi hi2 c c2 cn cc a a2 ca ls xs 5 A B p d g k ob n (h.below hW hh) (Nat.le_trans hh hW.size) (h'.below hW hh') (Nat.le_trans hh' hW.size) hn)
      clear h h'
      show Calls _ _ _ _ fun e w' => e = .returned (.bool (decide (A ≤ bestF xs 4 g n B))) ∧ _
      generalize (decide (A ≤ bestF xs 4 g n B)) = r at HC ⊢
      go_enter Tryz.func11, Tryz.ntmps11
      go_wp2_with fail
      refine (leafOf_5 _).mono ?_
      rintro e w1 ⟨rfl, rfl⟩
      go_wp2_with fail
      refine (HC.out _ hD0).mono ?_
      rintro e w2 ⟨rfl, b2⟩
      have B2 := Lib.hid (hD0.trans (b2.mono hD0.size))
      clear b2
      go_wp2
      go_ret
      exact ⟨rfl, B2.out⟩
    · rw [leafQ_6]
      have HC := Lib.hid (fun W (hW : Below w.heap.size w W) => leaf_isBefore W hi hi2 c c2 cn cc a a2 ca ls xs 6 A B p d g k ob n (h.below hW hh) (Nat.le_trans hh hW.size) (h'.below hW hh') (Nat.le_trans hh' hW.size) hn)
      clear h h'
      show Calls _ _ _ _ fun e w' => e = .returned (.bool (decide (n ≤ A))) ∧ _
      generalize (decide (n ≤ A)) = r at HC ⊢
      go_enter Tryz.func11, Tryz.ntmps11
      go_wp2_with fail
      refine (leafOf_6 _).mono ?_
      rintro e w1 ⟨rfl, rfl⟩
      go_wp2_with fail
      refine (HC.out _ hD0).mono ?_
      rintro e w2 ⟨rfl, b2⟩
      have B2 := Lib.hid (hD0.trans (b2.mono hD0.size))
      clear b2
      go_wp2
      go_ret
      exact ⟨rfl, B2.out⟩
  · rw [leafQ_no ho]
    have HL := Lib.hid (leafOf_no o ho)
    clear h h' ho
    go_enter Tryz.func11, Tryz.ntmps11
    go_wp2_with fail
    refine (HL.out _).mono ?_
    rintro e w1 ⟨rfl, rfl⟩
    go_wp2
    go_ret
    exact ⟨rfl, hD0⟩
end Go.Proofs.YtmgigjpkpeamjaaGreat
