/- Contracts of the program's chapter 3: Hash, KeyedHash (by slices.Concat), BytesToInts. -/
import Derived.Test.YtjfmmingkciapabDoorHash2
import Derived.Test.YtjfmmingkciapabDoorGround
import Derived.Laws.MakeOwn
import Derived.Lib.SliceRun
import Derived.Lib.AppendZerosOnto
namespace Go.Proofs.YtjfmmingkciapabDoor
open Go.ChangeShapes Go.WideShapes Go.ChangeAt Go.RowKit
set_option linter.unusedVariables false

theorem own_none (E : TypeId) (K : IntKind) (w : World) (lo hi : Nat) : Own E K w lo hi (.slice none 0 0) [] :=
  ⟨World.ownsRow_nil w lo E 1, fun k hk => by simp [Value.ownBlock] at hk, fun x hx => by cases hx⟩
/-- A slice of no elements with room in a new block is the call's own. -/
theorem own_room (E : TypeId) (K : IntKind) (w : World) (cs : Array Value) (c : Nat) (hm : c ≤ maxLen) (hs : cs.size = c) :
    Own E K (w.alloc (.cells cs E)) w.heap.size (w.heap.size + 1) (.slice (some ⟨w.heap.size, 0, none⟩) 0 c) [] :=
  ⟨⟨rfl, .inr ⟨w.heap.size, c, cs, rfl, Nat.le_refl _, heap_alloc_new w _, Nat.zero_le _, hm, by omega, by simp⟩⟩, fun k hk => by
    have : w.heap.size = k := by simpa [Value.ownBlock] using hk
    omega, fun x hx => by cases hx⟩

set_option maxHeartbeats 1000000 in
theorem impl_hash0 (w : World) (hi : Nat) (v : Value) (l : List Int) (h : Row .i64 w hi v l) (hn : l.length ≤ 1099511627776) :
    Calls Tryd.prog 73 #[v] w fun e w' => e = .returned (.int .i64 (hsh l)) ∧ w = w' := by
  obtain ⟨⟨A, c, rfl, r1, r2, _, r3⟩, _⟩ := h
  unfold maxLen at r2
  have R3 := Lib.hid r3
  clear r3
  go_enter Tryd.func73, Tryd.ntmps73
  go_wp2
  go_loop [3, 8] (fun d i => ∃ (k : Nat) (q : Int), k ≤ l.length ∧ i = .int .i64 (k : Int) ∧ d = .int .i64 q ∧ 0 ≤ q ∧ q < 2147483647 ∧ Hid (hsh (l.take k) = q)) (fun _ i => l.length - (intOf i).toNat)
  case atStart => exact ⟨0, 11, Nat.zero_le _, rfl, rfl, by decide, by decide, rfl⟩
  case round =>
    obtain ⟨k, q, hk, rfl, rfl, hq0, hq1, HQ⟩ := hrel
    by_cases hlt : k < l.length
    · obtain ⟨b, off, rfl, _, _, p3⟩ := R3.out (by omega)
      have hx := p3 k hlt
      rw [show l.getD k 0 = l[k] by simp [List.getD, hlt]] at hx
      have HT := Lib.hid (hsh_take l k hlt)
      generalize l[k] = x at hx HT
      clear p3
      obtain ⟨m, hm⟩ : ∃ m, modOf x 2147483647 = m := ⟨_, rfl⟩
      have hm0 : 0 ≤ m ∧ m < 2147483647 := by rw [← hm, modOf_val]; omega
      obtain ⟨hm0, hm1⟩ := hm0
      have HM := Lib.hid hm
      clear hm
      go_wp2_with fail
      refine (impl_mod x 2147483647 w).mono ?_
      rintro e w' ⟨rfl, rfl⟩
      rw [HM.out]
      go_wp2
      refine ⟨⟨k + 1, (q * 1000003 + m + 13) % 2147483647, by omega, by go_num, rfl, by omega, by omega, ?_⟩, by simp only [intOf]; omega⟩
      unfold Hid
      rw [HT.out, HQ.out, ← HM.out, hstep_mod]
    · go_wp2
      go_ret
      have e := HQ.out
      rw [List.take_of_length_le (by omega)] at e
      exact ⟨ret_int e.symm, rfl⟩
theorem impl_hash (w : World) (hi : Nat) (v : Value) (l : List Int) (h : Row .i64 w hi v l) (hh : hi ≤ w.heap.size) (hn : l.length ≤ 1099511627776) :
    Calls Tryd.prog 73 #[v] w fun e w' => e = .returned (.int .i64 (hsh l)) ∧ Below w.heap.size w w' :=
  (impl_hash0 w hi v l h hn).mono fun e w' he => ⟨he.1, he.2 ▸ Below.refl _ _⟩
set_option maxHeartbeats 2000000 in
set_option maxRecDepth 100000 in
/-- slices.Grow of nil: nil for none, else a new slice of no elements with room. -/
theorem grow_none (w : World) (n : Nat) (hn : n ≤ 1099511627776) :
    Calls Tryd.prog 77 #[.slice none 0 0, .int .i64 (n : Int)] w fun e w' => ∃ u, e = .returned u ∧ Own 3 .i64 w' w.heap.size w'.heap.size u [] ∧ Below w.heap.size w w' := by
  obtain ⟨i0, hi0, hz0, hz1, hz2⟩ := info_parts infoIntS
  by_cases hp : 0 < n
  · have hold : (Builtin.firstCells i0.size 0 (.slice none 0 0)).run Tryd.prog w.drew = .ok ([] : List Value).toArray w.drew := run_firstCells_none w.drew i0.size 0 0 0
    have hrz : ∀ ty, (Builtin.append_ #[22, 3] ty #[.slice none 0 0, .int .i64 (n : Int)]).run Tryd.prog w = _ := fun ty =>
      Lib.run_append_grow_zeros w 22 3 ty 3 i0 (.int .i64 0) .i64 .i64 Tryd.underlying22 Tryd.underlying3 hi0 hz0 none 0 0 [] hold n hp (by rw [hz1]; decide) (by omega) (by omega) (by rw [hz2]; omega) (growslice_fits (by omega) (by rw [hz2]; omega))
    simp only [Nat.zero_add] at hrz
    have hGn : n ≤ grownCap w n 0 3 := grownCap_ge w _ _ _
    have hGm := grownCap_le_maxLen w n 0 3 (by unfold maxLen; omega)
    obtain ⟨G, hG⟩ : ∃ G, G = grownCap w n 0 3 := ⟨_, rfl⟩
    rw [← hG] at hrz hGn hGm
    have hsz : (([] : List Value).toArray ++ Builtin.zeroCells (Value.int .i64 0).cells n ++ Builtin.zeroCells (Value.int .i64 0).cells (G - n)).size = G := by
      simp [Builtin.zeroCells, Value.cells]; omega
    have hO := own_room 3 .i64 w.drew _ G hGm hsz
    have hB := (Below.refl w.heap.size w).drew.alloc (Nat.le_refl _) (.cells (([] : List Value).toArray ++ Builtin.zeroCells (Value.int .i64 0).cells n ++ Builtin.zeroCells (Value.int .i64 0).cells (G - n)) 3)
    have hs2 : (w.drew.alloc (.cells (([] : List Value).toArray ++ Builtin.zeroCells (Value.int .i64 0).cells n ++ Builtin.zeroCells (Value.int .i64 0).cells (G - n)) 3)).heap.size = w.heap.size + 1 := by simp
    obtain ⟨w1, hw1⟩ : ∃ w1, w.drew.alloc (.cells (([] : List Value).toArray ++ Builtin.zeroCells (Value.int .i64 0).cells n ++ Builtin.zeroCells (Value.int .i64 0).cells (G - n)) 3) = w1 := ⟨_, rfl⟩
    rw [hw1] at hO hB hs2 hrz
    have hO2 := hO.wide (lo' := w.heap.size) (hi' := w1.heap.size) (Nat.le_refl _) (by rw [hs2]; exact Nat.le_refl _)
    have HO := Lib.hid hO2
    have HB := Lib.hid hB
    clear hO hO2 hB hs2 hw1 hsz hold hG
    unfold maxLen at hGm
    go_enter Tryd.func77, Tryd.ntmps77
    go_wp2_with (at_builtin; refine Lib.wpList_append_run _ rfl _ _ _ _ rfl _ _ rfl rfl _ _ (hrz _) ?_)
    go_ret
    exact ⟨_, rfl, HO.out, HB.out⟩
  · obtain rfl : n = 0 := by omega
    go_enter Tryd.func77, Tryd.ntmps77
    go_wp2
    go_ret
    exact ⟨_, rfl, own_none _ _ _ _ _, Below.refl _ _⟩
/-- The first k of some lists, one behind the other. -/
def cat (ps : List (Value × List Int)) (k : Nat) : List Int := ((ps.take k).map Prod.snd).flatten
theorem cat_zero (ps : List (Value × List Int)) : cat ps 0 = [] := rfl
theorem cat_succ (ps : List (Value × List Int)) (k : Nat) (h : k < ps.length) : cat ps (k + 1) = cat ps k ++ ps[k].2 := by
  unfold cat
  rw [List.take_succ_eq_append_getElem h]
  simp only [List.map_append, List.flatten_append, List.map_cons, List.map_nil, List.flatten_cons, List.flatten_nil, List.append_nil]
theorem cat_le (ps : List (Value × List Int)) (k : Nat) (h : k ≤ ps.length) : (cat ps k).length ≤ (cat ps ps.length).length := by
  have e : cat ps ps.length = cat ps k ++ ((ps.drop k).map Prod.snd).flatten := by
    unfold cat
    rw [List.take_length, ← List.flatten_append, ← List.map_append, List.take_append_drop]
  rw [e, List.length_append]
  omega
set_option maxRecDepth 100000 in
set_option maxHeartbeats 2000000 in
/-- slices.Concat: some lists in one new slice. -/
theorem concat_ints (w : World) (hi b : Nat) (ps : List (Value × List Int)) (hm : ps.length ≤ 1000) (hb : b < w.heap.size)
    (hc : ∀ i (h : i < ps.length), w.cell? ⟨b, i, none⟩ = some ps[i].1) (hr : ∀ i (h : i < ps.length), Row .i64 w hi ps[i].1 ps[i].2) (hh : hi ≤ w.heap.size) (hn : (cat ps ps.length).length ≤ 1099511627776) :
    Calls Tryd.prog 74 #[.slice (some ⟨b, 0, none⟩) ps.length ps.length] w fun e w' => ∃ u, e = .returned u ∧ Own 3 .i64 w' w.heap.size w'.heap.size u (cat ps ps.length) ∧ Below w.heap.size w w' := by
  obtain ⟨i0, hi0, hz0, hz1, hz2⟩ := info_parts infoIntS
  have HC := Lib.hid hc
  have HR := Lib.hid hr
  clear hc hr
  obtain ⟨n, hnn⟩ : ∃ n, ps.length = n := ⟨_, rfl⟩
  have HN := Lib.hid hnn
  rw [hnn] at hm hn ⊢
  clear hnn
  have HNL := Lib.hid hn
  clear hn
  go_enter Tryd.func74, Tryd.ntmps74
  go_wp2
  go_loop [3, 11] (fun d i => ∃ k q : Nat, k ≤ n ∧ i = .int .i64 (k : Int) ∧ d = .int .i64 (q : Int) ∧ Hid ((cat ps k).length = q) ∧ q ≤ 1099511627776) (fun _ i => n - (intOf i).toNat)
  case atStart => exact ⟨0, 0, Nat.zero_le _, rfl, rfl, rfl, by decide⟩
  case round =>
    obtain ⟨k, q, hk, rfl, rfl, HQ, hq⟩ := hrel
    by_cases hlt : k < n
    · have hlt2 : k < ps.length := by rw [HN.out]; exact hlt
      have hx := HC.out k hlt2
      obtain ⟨⟨A, c, hA, r1, r2, _, _⟩, _⟩ := HR.out k hlt2
      rw [hA] at hx
      have hl2 := cat_le ps (k + 1) hlt2
      rw [HN.out, cat_succ ps k hlt2, List.length_append, HQ.out] at hl2
      have hl3 : q + ps[k].2.length ≤ 1099511627776 := Nat.le_trans hl2 HNL.out
      have HL := Lib.hid (show (cat ps (k + 1)).length = q + ps[k].2.length by rw [cat_succ ps k hlt2, List.length_append, HQ.out])
      clear hl2 hA
      generalize ps[k].2.length = m at hx hl3 HL r1
      go_wp2
      exact ⟨⟨k + 1, q + m, by omega, by go_num, by go_num, HL, hl3⟩, by simp only [intOf]; omega⟩
    · go_wp2_with fail
      refine (grow_none w q hq).mono ?_
      rintro e w1 ⟨u, rfl, hO, hb1⟩
      go_wp2
      go_loopw [6, 27] (fun o i wr => ∃ k : Nat, k ≤ n ∧ i = .int .i64 (k : Int) ∧ Own 3 .i64 wr w.heap.size wr.heap.size o (cat ps k) ∧ Below w.heap.size w wr) (fun _ i _ => n - (intOf i).toNat)
      case atStart => exact ⟨0, Nat.zero_le _, rfl, hO, hb1⟩
      case round =>
        obtain ⟨j, hj, rfl, hown, hbj⟩ := hrel
        by_cases hlt2 : j < n
        · have hlt3 : j < ps.length := by rw [HN.out]; exact hlt2
          have hx := (hbj.cell (p := ⟨b, j, none⟩) (by show b < _; omega)).trans (HC.out j hlt3)
          have hRj := (HR.out j hlt3).below hbj hh
          have hl2 := cat_le ps (j + 1) hlt3
          rw [HN.out, cat_succ ps j hlt3, List.length_append] at hl2
          have hle : (cat ps j).length + ps[j].2.length ≤ 2199023255552 := by have := HNL.out; omega
          have HS := Lib.hid (cat_succ ps j hlt3)
          have hsz := hbj.size
          clear hl2
          generalize cat ps j = acc at hown hle HS
          generalize ps[j].2 = l at hRj hle HS
          generalize ps[j].1 = x at hx hRj
          have hRx := Lib.hid hRj
          obtain ⟨⟨A, c, rfl, _, _, _, _⟩, _⟩ := hRj
          go_wp2_with (at_builtin; refine wpList_append_Own rfl _ _ 22 rfl 3 i0 (.int .i64 0) 8 Tryd.underlying22 hi0 hz0 hz1 hz2 rfl .i64 w.heap.size _ _ acc rfl hown hi _ l rfl hRx.out hle (by decide) hsz ?_; intro v2 w2 hown3 hb4)
          go_roundw
          case rel => exact ⟨j + 1, by omega, by go_num, by rw [HS.out]; exact hown3, hbj.trans hb4⟩
          case measure => simp only [intOf]; omega
        · go_wp2
          go_ret
          obtain rfl : j = n := by omega
          exact ⟨_, rfl, hown, hbj⟩
set_option maxRecDepth 100000 in
theorem impl_keyed (w : World) (hi : Nat) (s : Int) (v : Value) (l : List Int) (hs : (Lit.int .i64 s).wf = true) (h : Row .i64 w hi v l) (hh : hi ≤ w.heap.size) (hn : l.length ≤ 137438953472) :
    Calls Tryd.prog 66 #[.int .i64 s, v] w fun e w' => e = .returned (.int .i64 (keyed s l)) ∧ Below w.heap.size w w' := by
  have HR := Lib.hid h
  obtain ⟨⟨A, c, rfl, r1, r2, _, r3⟩, _⟩ := h
  clear r3
  have hA0 := Below.refl w.heap.size w
  obtain ⟨wa, hwa⟩ : ∃ wa, w.alloc (.cells #[.int .i64 s] 3) = wa := ⟨_, rfl⟩
  have ra0 := row_one .i64 3 w s hs
  have sa : wa.heap.size = w.heap.size + 1 := by rw [← hwa]; simp
  have ba := hA0.alloc (Nat.le_refl _) (.cells #[.int .i64 s] 3)
  rw [hwa] at ra0 ba
  obtain ⟨wb, hwb⟩ : ∃ wb, wa.alloc (.cells #[.int .i64 s] 3) = wb := ⟨_, rfl⟩
  have rb1 := row_one .i64 3 wa s hs
  have sb : wb.heap.size = w.heap.size + 2 := by rw [← hwb]; simp; omega
  have bb := (Below.refl wa.heap.size wa).alloc (Nat.le_refl _) (.cells #[.int .i64 s] 3)
  rw [hwb] at rb1 bb
  rw [sa] at rb1 bb
  obtain ⟨wc, hwc⟩ : ∃ wc, wb.alloc (.cells #[.slice (some ⟨w.heap.size, 0, none⟩) 1 1, .slice A l.length c, .slice (some ⟨w.heap.size + 1, 0, none⟩) 1 1] 22) = wc := ⟨_, rfl⟩
  have sc : wc.heap.size = w.heap.size + 3 := by rw [← hwc]; simp; omega
  have bc := (Below.refl wb.heap.size wb).alloc (Nat.le_refl _) (.cells #[.slice (some ⟨w.heap.size, 0, none⟩) 1 1, .slice A l.length c, .slice (some ⟨w.heap.size + 1, 0, none⟩) 1 1] 22)
  have hcells : ∀ i, wc.cell? ⟨w.heap.size + 2, i, none⟩ = (#[.slice (some ⟨w.heap.size, 0, none⟩) 1 1, .slice A l.length c, .slice (some ⟨w.heap.size + 1, 0, none⟩) 1 1] : Array Value)[i]? := fun i => by rw [← hwc, ← sb, World.cell?_alloc_new]
  rw [hwc] at bc
  rw [sb] at bc
  have bac := (bb.mono (by omega)).trans (bc.mono (B' := w.heap.size + 1) (by omega))
  have bAll := ba.trans (bac.mono (by omega))
  have r0 := (ra0.below bac (Nat.le_refl _)).more (show w.heap.size + 1 ≤ w.heap.size + 2 by omega)
  have r1' := rb1.below bc (Nat.le_refl _)
  have r2' := (HR.out.below bAll hh).more (show hi ≤ w.heap.size + 2 by omega)
  have hwcEq : ((w.alloc (.cells #[.int .i64 s] 3)).alloc (.cells #[.int .i64 s] 3)).alloc (.cells #[.slice (some ⟨w.heap.size, 0, none⟩) 1 1, .slice A l.length c, .slice (some ⟨w.heap.size + 1, 0, none⟩) 1 1] 22) = wc := by rw [hwa, hwb, hwc]
  have CC := concat_ints wc (w.heap.size + 2) (w.heap.size + 2) [(.slice (some ⟨w.heap.size, 0, none⟩) 1 1, [s]), (.slice A l.length c, l), (.slice (some ⟨w.heap.size + 1, 0, none⟩) 1 1, [s])] (by simp) (by omega)
    (fun i h => by
      rw [hcells i]
      rcases i with _ | _ | _ | i
      · rfl
      · rfl
      · rfl
      · simp at h; omega)
    (fun i h => by
      rcases i with _ | _ | _ | i
      · exact r0
      · exact r2'
      · exact r1'
      · simp at h; omega) (by omega) (by simp [cat]; omega)
  have HB := Lib.hid bAll
  have HS := Lib.hid sc
  clear hwa hwb hwc ra0 rb1 sa sb sc ba bb bc bac bAll r0 r1' r2' hcells hA0
  have HC := Lib.hid CC
  clear CC
  go_enter Tryd.func66, Tryd.ntmps66
  go_wp2_with fail
  refine HC.out.mono ?_
  rintro e w1 ⟨u, rfl, hO, hb1⟩
  have hcat : cat [(.slice (some ⟨w.heap.size, 0, none⟩) 1 1, [s]), (.slice A l.length c, l), (.slice (some ⟨w.heap.size + 1, 0, none⟩) 1 1, [s])] 3 = s :: l ++ [s] := by simp [cat]
  have hO2 : Own 3 .i64 w1 wc.heap.size w1.heap.size u (s :: l ++ [s]) := hcat ▸ hO
  clear hO hcat hwcEq
  go_wp2_with fail
  refine (impl_hash w1 w1.heap.size u (s :: l ++ [s]) hO2.read (Nat.le_refl _) (by simp; omega)).mono ?_
  rintro e w2 ⟨rfl, hb2⟩
  go_wp2
  go_ret
  have := HS.out
  exact ⟨rfl, HB.out.trans ((hb1.mono (by omega)).trans (hb2.mono (by have := hb1.size; omega)))⟩
end Go.Proofs.YtjfmmingkciapabDoor
