/- Text of conditions (chapter 16): the numbers of a node that stand in its text, as landed. No condition. -/
import Derived.Test.YtmdmkdjeaffhaaaGreatDoorMTok4
import Derived.Test.YtmdmkdjeaffhaaaGreatDoorMNode6
import Derived.Test.YtmdmkdjeaffhaaaGreatDoorGrow
namespace Go.Proofs.YtmdmkdjeaffhaaaGreatDoor
open Go.Lib Go.ChangeShapes Go.WideShapes Go.ChangeAt Go.RowKit
set_option linter.unusedVariables false

/-- Which fields of a node stand in its text. -/
def numPs (o : Int) : List Nat := (if hasA o = true then [1] else []) ++ (if hasB o = true then [2] else [])
theorem numPs_mem {o : Int} {q : Nat} (h : q ∈ numPs o) : q = 1 ∨ q = 2 := by
  unfold numPs at h
  rcases List.mem_append.1 h with h | h
  · split at h
    · exact .inl (List.mem_singleton.1 h)
    · cases h
  · split at h
    · exact .inr (List.mem_singleton.1 h)
    · cases h
theorem numPs_len (o : Int) : (numPs o).length ≤ 2 := by
  unfold numPs
  cases hasA o <;> cases hasB o <;> decide
def ptrs (B : Nat) (ps : List Nat) : List Value := ps.map fun q => .pointer (some ⟨B, q, none⟩)
/-- A list of places, the call's own. -/
def Ptrs (w : World) (lo B : Nat) (v : Value) (ps : List Nat) : Prop := w.ownsRow lo 68 1 v ps.length (ptrs B ps)
theorem ptrs_nil (w : World) (B : Nat) : Ptrs (w.alloc (.cells #[] 68)) w.heap.size B (.slice (some ⟨w.heap.size, 0, none⟩) 0 0) [] :=
  ⟨rfl, .inr ⟨w.heap.size, 0, #[], rfl, Nat.le_refl _, blk_new _ _ _, Nat.le_refl _, by decide, rfl, rfl⟩⟩
theorem Ptrs.lt {w : World} {lo B : Nat} {v : Value} {ps : List Nat} (h : Ptrs w lo B v ps) : ∀ g, v.ownBlock = some g → lo ≤ g ∧ g < w.heap.size := fun g hg => by
  rcases h.2 with ⟨rfl, _⟩ | ⟨g', cap, cur, rfl, h1, h2, _⟩
  · cases hg
  · injection hg with hg
    subst hg
    exact ⟨h1, blk_lt h2⟩
theorem Ptrs.keep {w w' : World} {lo B : Nat} {v : Value} {ps : List Nat} (h : Ptrs w lo B v ps) (hk : ∀ g, v.ownBlock = some g → w'.heap[g]? = w.heap[g]?) : Ptrs w' lo B v ps := by
  refine ⟨h.1, ?_⟩
  rcases h.2 with hn | ⟨g, cap, cur, rfl, h1, h2, rest⟩
  · exact .inl hn
  · exact .inr ⟨g, cap, cur, rfl, h1, (hk g rfl).trans h2, rest⟩
theorem Ptrs.below {w w' : World} {lo B : Nat} {v : Value} {ps : List Nat} (h : Ptrs w lo B v ps) (hb : Below w.heap.size w w') : Ptrs w' lo B v ps := h.keep fun g hg => hb.block g (h.lt g hg).2
/-- One place of it. -/
theorem Ptrs.at {w : World} {lo B : Nat} {v : Value} {ps : List Nat} (h : Ptrs w lo B v ps) {k q : Nat} (hk : ps[k]? = some q) : ∃ g c, v = .slice (some ⟨g, 0, none⟩) ps.length c ∧ ps.length ≤ c ∧ c ≤ maxLen ∧ w.cell? ⟨g, k, none⟩ = some (.pointer (some ⟨B, q, none⟩)) := by
  have hl := (List.getElem?_eq_some_iff.1 hk).1
  rcases h.2 with ⟨_, hn⟩ | ⟨g, cap, cur, rfl, h1, h2, h3, h4, h5, h6⟩
  · omega
  · refine ⟨g, cap, rfl, h3, h4, ?_⟩
    have h7 : (ptrs B ps)[k]? = some (.pointer (some ⟨B, q, none⟩)) := by unfold ptrs; rw [List.getElem?_map, hk]; rfl
    rw [← h6, List.getElem?_take] at h7
    split at h7
    · exact blk_cell h2 k (by rw [← Array.getElem?_toList]; exact h7)
    · cases h7
theorem below_grew {w0 w w' : World} {v : Value} (h : Below w0.heap.size w0 w) (hv : ∀ g, v.ownBlock = some g → w0.heap.size ≤ g) (hg : w.grownBy w' v.ownBlock) : Below w0.heap.size w0 w' :=
  h.trans ⟨hg.os, hg.tape, hg.output, hg.size, fun k hk => hg.block k (by have := h.size; omega) fun e => by have := hv k e.symm; omega⟩
theorem infoPtr : (Tryz.prog.info? 68).map (fun i => (i.zero, i.size, i.bytes)) = some (some (.pointer none), 1, 8) := by kernel_rfl
/-- One more place appended onto such a list. -/
theorem wpList_ptr {w0 V : World} {ops : Array Oper} {rest : List Oper} {o : Oper} {a : Act} {Q : Exit → Act → World → Prop} (hgd : o.guard = none) (sl x : Operand)
    (ho : o.op = .call { callee := .builtin .append, args := #[sl, x], argTypes := #[66, 66] }) (B q : Nat) (u : Value) (ps : List Nat) (hs : a.eval sl = u) (h : Ptrs V w0.heap.size B u ps) (hb : Below w0.heap.size w0 V)
    (hx : a.eval x = .slice (some ⟨V.heap.size, 0, none⟩) 1 1) (hn : ps.length ≤ 5)
    (k : ∀ v' w', Ptrs w' w0.heap.size B v' (ps ++ [q]) → Below w0.heap.size w0 w' → (∀ j, j < V.heap.size → u.ownBlock ≠ some j → w'.heap[j]? = V.heap[j]?) → wpList Tryz.prog ops Q rest (a.put o.dst v') w') :
    wpList Tryz.prog ops Q (o :: rest) a (V.alloc (.cells #[.pointer (some ⟨B, q, none⟩)] 68)) := by
  obtain ⟨i0, hi0, hz0, hz1, hz2⟩ := info_parts infoPtr
  have hal : Below V.heap.size V (V.alloc (.cells #[.pointer (some ⟨B, q, none⟩)] 68)) := (Below.refl _ _).alloc (Nat.le_refl _) _
  have h2 := h.below hal
  refine wpList_append_elem hgd sl x 66 ho 68 i0 (.pointer none) 1 8 Tryz.underlying66 hi0 hz0 hz1 hz2 rfl (by decide) w0.heap.size u ps.length (ptrs B ps) hs h2 V.heap.size [.pointer (some ⟨B, q, none⟩)] rfl (cell_new V 68 [.pointer (some ⟨B, q, none⟩)]) (by intro z hz; rw [List.mem_singleton] at hz; subst hz; rfl) hx (by omega) (by decide) (Nat.le_trans hb.size hal.size) ?_
  intro v' w' g1 g2 g3
  refine k v' w' ?_ ?_ ?_
  · unfold Ptrs
    rw [List.length_append, show ptrs B (ps ++ [q]) = ptrs B ps ++ [.pointer (some ⟨B, q, none⟩)] from by unfold ptrs; rw [List.map_append]; rfl]
    exact g1
  · exact below_grew (hb.trans (hal.mono hb.size)) (fun g hg => (h.lt g hg).1) g2
  · intro j hj hne
    rw [g2.block j (by simp; omega) (fun e => hne e.symm)]
    exact hal.block j hj
set_option maxHeartbeats 4000000 in
set_option maxRecDepth 100000 in
theorem numbers_ab (w : World) (B : Nat) (o a b x y : Int) (v : Value) (hB : w.heap[B]? = some (.cells #[.int .i64 o, .int .i64 a, .int .i64 b, v] 27)) (hf : frmOf o = .leaf x y) (hx : 0 < x) (hy : 0 < y) :
    Calls Tryz.prog 38 #[.pointer (some ⟨B, 0, none⟩)] w fun e w' => ∃ u, e = .returned u ∧ Ptrs w' w.heap.size B u [1, 2] ∧ Below w.heap.size w w' := by
  have HF := Lib.hid (fun W => impl_formOf o W)
  rw [hf] at HF
  have t1 := as_leaf_leaf
  have t2 := as_inner_leaf
  have t4 := as_nil_leaf
  obtain ⟨W, hW⟩ : ∃ W, W = w.alloc (.cells #[] 68) := ⟨_, rfl⟩
  have hb1 : Below w.heap.size w W := by rw [hW]; exact (Below.refl _ _).alloc (Nat.le_refl _) _
  have HB1 := Lib.hid hb1
  have HZ := Lib.hid (show W.heap.size = w.heap.size + 1 by rw [hW]; simp)
  have HN := Lib.hid (show Ptrs W w.heap.size B (.slice (some ⟨w.heap.size, 0, none⟩) 0 0) [] by rw [hW]; exact ptrs_nil w B)
  have HBK := Lib.hid (show ∀ U, Below w.heap.size w U → U.heap[B]? = some (.cells #[.int .i64 o, .int .i64 a, .int .i64 b, v] 27) from fun U hU => blk_keep hB hU (blk_lt hB))
  have c0 := (cls_4 (HBK.out W hb1)).1.1
  clear hB hf hb1
  go_enter Tryz.func38, Tryz.ntmps38
  go_upto_region 2 with fail
  rw [← hW]
  clear hW
  go_upto_region 3 with (go_at_call 42; refine (HF.out _).mono ?_; rintro e w' ⟨rfl, rfl⟩; simp only [Frm.val])
  obtain ⟨V, hV⟩ : ∃ V, V = W.alloc (.cells #[.int .i64 x, .int .i64 y] 78) := ⟨_, rfl⟩
  have bV : Below W.heap.size W V := by rw [hV]; exact (Below.refl _ _).alloc (Nat.le_refl _) _
  have hL : V.heap[W.heap.size]? = some (.cells #[.int .i64 x, .int .i64 y] 78) := by rw [hV]; exact blk_new _ _ _
  have HN2 := Lib.hid (HN.out.below bV)
  have HB2 := Lib.hid (HB1.out.trans (bV.mono HB1.out.size))
  have HLK := Lib.hid (show ∀ U : World, U.heap[W.heap.size]? = V.heap[W.heap.size]? → U.cell? ⟨W.heap.size, 0, none⟩ = some (.int .i64 x) ∧ U.cell? ⟨W.heap.size, 1, none⟩ = some (.int .i64 y) from fun U hU => (cls_2 (hU.trans hL)).1)
  have HLT := Lib.hid (blk_lt hL)
  obtain ⟨l0, l1⟩ := HLK.out V rfl
  clear hL HN bV
  rw [← hV]
  clear hV
  go_upto_region 6 with (at_builtin; refine wpList_ptr rfl _ _ rfl B 1 _ [] rfl HN2.out HB2.out rfl (by decide) ?_; intro v1 w1 g1 g2 g3; have P1 := Lib.hid g1; have Q1 := Lib.hid g2; obtain ⟨m0, m1⟩ := HLK.out w1 (g3 _ HLT.out (by intro e; have e2 : w.heap.size = W.heap.size := Option.some.inj e; have := HZ.out; omega)); clear g1 g2 g3)
  go_upto_region 8 with (at_builtin; refine wpList_ptr rfl _ _ rfl B 2 _ [1] rfl P1.out Q1.out rfl (by decide) ?_; intro v2 w2 g1 g2 g3; have P2 := Lib.hid g1; have Q2 := Lib.hid g2; clear g1 g2 g3)
  go_wp2_with fail
  go_ret
  exact ⟨_, rfl, P2.out, Q2.out⟩
set_option maxHeartbeats 4000000 in
set_option maxRecDepth 100000 in
theorem numbers_b (w : World) (B : Nat) (o a b y : Int) (v : Value) (hB : w.heap[B]? = some (.cells #[.int .i64 o, .int .i64 a, .int .i64 b, v] 27)) (hf : frmOf o = .leaf 0 y) (hy : 0 < y) :
    Calls Tryz.prog 38 #[.pointer (some ⟨B, 0, none⟩)] w fun e w' => ∃ u, e = .returned u ∧ Ptrs w' w.heap.size B u [2] ∧ Below w.heap.size w w' := by
  have HF := Lib.hid (fun W => impl_formOf o W)
  rw [hf] at HF
  have t1 := as_leaf_leaf
  have t2 := as_inner_leaf
  have t4 := as_nil_leaf
  obtain ⟨W, hW⟩ : ∃ W, W = w.alloc (.cells #[] 68) := ⟨_, rfl⟩
  have hb1 : Below w.heap.size w W := by rw [hW]; exact (Below.refl _ _).alloc (Nat.le_refl _) _
  have HB1 := Lib.hid hb1
  have HZ := Lib.hid (show W.heap.size = w.heap.size + 1 by rw [hW]; simp)
  have HN := Lib.hid (show Ptrs W w.heap.size B (.slice (some ⟨w.heap.size, 0, none⟩) 0 0) [] by rw [hW]; exact ptrs_nil w B)
  have HBK := Lib.hid (show ∀ U, Below w.heap.size w U → U.heap[B]? = some (.cells #[.int .i64 o, .int .i64 a, .int .i64 b, v] 27) from fun U hU => blk_keep hB hU (blk_lt hB))
  have c0 := (cls_4 (HBK.out W hb1)).1.1
  clear hB hf hb1
  go_enter Tryz.func38, Tryz.ntmps38
  go_upto_region 2 with fail
  rw [← hW]
  clear hW
  go_upto_region 3 with (go_at_call 42; refine (HF.out _).mono ?_; rintro e w' ⟨rfl, rfl⟩; simp only [Frm.val])
  obtain ⟨V, hV⟩ : ∃ V, V = W.alloc (.cells #[.int .i64 0, .int .i64 y] 78) := ⟨_, rfl⟩
  have bV : Below W.heap.size W V := by rw [hV]; exact (Below.refl _ _).alloc (Nat.le_refl _) _
  have hL : V.heap[W.heap.size]? = some (.cells #[.int .i64 0, .int .i64 y] 78) := by rw [hV]; exact blk_new _ _ _
  have HN2 := Lib.hid (HN.out.below bV)
  have HB2 := Lib.hid (HB1.out.trans (bV.mono HB1.out.size))
  have HLK := Lib.hid (show ∀ U : World, U.heap[W.heap.size]? = V.heap[W.heap.size]? → U.cell? ⟨W.heap.size, 0, none⟩ = some (.int .i64 0) ∧ U.cell? ⟨W.heap.size, 1, none⟩ = some (.int .i64 y) from fun U hU => (cls_2 (hU.trans hL)).1)
  have HLT := Lib.hid (blk_lt hL)
  obtain ⟨l0, l1⟩ := HLK.out V rfl
  clear hL HN bV
  rw [← hV]
  clear hV
  go_upto_region 8 with (at_builtin; refine wpList_ptr rfl _ _ rfl B 2 _ [] rfl HN2.out HB2.out rfl (by decide) ?_; intro v2 w2 g1 g2 g3; have P2 := Lib.hid g1; have Q2 := Lib.hid g2; clear g1 g2 g3)
  go_wp2_with fail
  go_ret
  exact ⟨_, rfl, P2.out, Q2.out⟩
set_option maxHeartbeats 4000000 in
set_option maxRecDepth 100000 in
theorem numbers_a (w : World) (B : Nat) (o a b x : Int) (v : Value) (hB : w.heap[B]? = some (.cells #[.int .i64 o, .int .i64 a, .int .i64 b, v] 27)) (hf : frmOf o = .leaf x 0) (hx : 0 < x) :
    Calls Tryz.prog 38 #[.pointer (some ⟨B, 0, none⟩)] w fun e w' => ∃ u, e = .returned u ∧ Ptrs w' w.heap.size B u [1] ∧ Below w.heap.size w w' := by
  have HF := Lib.hid (fun W => impl_formOf o W)
  rw [hf] at HF
  have t1 := as_leaf_leaf
  have t2 := as_inner_leaf
  have t4 := as_nil_leaf
  obtain ⟨W, hW⟩ : ∃ W, W = w.alloc (.cells #[] 68) := ⟨_, rfl⟩
  have hb1 : Below w.heap.size w W := by rw [hW]; exact (Below.refl _ _).alloc (Nat.le_refl _) _
  have HB1 := Lib.hid hb1
  have HZ := Lib.hid (show W.heap.size = w.heap.size + 1 by rw [hW]; simp)
  have HN := Lib.hid (show Ptrs W w.heap.size B (.slice (some ⟨w.heap.size, 0, none⟩) 0 0) [] by rw [hW]; exact ptrs_nil w B)
  have HBK := Lib.hid (show ∀ U, Below w.heap.size w U → U.heap[B]? = some (.cells #[.int .i64 o, .int .i64 a, .int .i64 b, v] 27) from fun U hU => blk_keep hB hU (blk_lt hB))
  have c0 := (cls_4 (HBK.out W hb1)).1.1
  clear hB hf hb1
  go_enter Tryz.func38, Tryz.ntmps38
  go_upto_region 2 with fail
  rw [← hW]
  clear hW
  go_upto_region 3 with (go_at_call 42; refine (HF.out _).mono ?_; rintro e w' ⟨rfl, rfl⟩; simp only [Frm.val])
  obtain ⟨V, hV⟩ : ∃ V, V = W.alloc (.cells #[.int .i64 x, .int .i64 0] 78) := ⟨_, rfl⟩
  have bV : Below W.heap.size W V := by rw [hV]; exact (Below.refl _ _).alloc (Nat.le_refl _) _
  have hL : V.heap[W.heap.size]? = some (.cells #[.int .i64 x, .int .i64 0] 78) := by rw [hV]; exact blk_new _ _ _
  have HN2 := Lib.hid (HN.out.below bV)
  have HB2 := Lib.hid (HB1.out.trans (bV.mono HB1.out.size))
  have HLK := Lib.hid (show ∀ U : World, U.heap[W.heap.size]? = V.heap[W.heap.size]? → U.cell? ⟨W.heap.size, 0, none⟩ = some (.int .i64 x) ∧ U.cell? ⟨W.heap.size, 1, none⟩ = some (.int .i64 0) from fun U hU => (cls_2 (hU.trans hL)).1)
  have HLT := Lib.hid (blk_lt hL)
  obtain ⟨l0, l1⟩ := HLK.out V rfl
  clear hL HN bV
  rw [← hV]
  clear hV
  go_upto_region 6 with (at_builtin; refine wpList_ptr rfl _ _ rfl B 1 _ [] rfl HN2.out HB2.out rfl (by decide) ?_; intro v1 w1 g1 g2 g3; have P1 := Lib.hid g1; have Q1 := Lib.hid g2; obtain ⟨m0, m1⟩ := HLK.out w1 (g3 _ HLT.out (by intro e; have e2 : w.heap.size = W.heap.size := Option.some.inj e; have := HZ.out; omega)); clear g1 g2 g3)
  go_wp2_with fail
  go_ret
  exact ⟨_, rfl, P1.out, Q1.out⟩
set_option maxHeartbeats 4000000 in
set_option maxRecDepth 100000 in
theorem numbers_0 (w : World) (B : Nat) (o a b : Int) (v : Value) (hB : w.heap[B]? = some (.cells #[.int .i64 o, .int .i64 a, .int .i64 b, v] 27)) (hf : frmOf o = .leaf 0 0) :
    Calls Tryz.prog 38 #[.pointer (some ⟨B, 0, none⟩)] w fun e w' => ∃ u, e = .returned u ∧ Ptrs w' w.heap.size B u [] ∧ Below w.heap.size w w' := by
  have HF := Lib.hid (fun W => impl_formOf o W)
  rw [hf] at HF
  have t1 := as_leaf_leaf
  have t2 := as_inner_leaf
  have t4 := as_nil_leaf
  obtain ⟨W, hW⟩ : ∃ W, W = w.alloc (.cells #[] 68) := ⟨_, rfl⟩
  have hb1 : Below w.heap.size w W := by rw [hW]; exact (Below.refl _ _).alloc (Nat.le_refl _) _
  have HB1 := Lib.hid hb1
  have HZ := Lib.hid (show W.heap.size = w.heap.size + 1 by rw [hW]; simp)
  have HN := Lib.hid (show Ptrs W w.heap.size B (.slice (some ⟨w.heap.size, 0, none⟩) 0 0) [] by rw [hW]; exact ptrs_nil w B)
  have HBK := Lib.hid (show ∀ U, Below w.heap.size w U → U.heap[B]? = some (.cells #[.int .i64 o, .int .i64 a, .int .i64 b, v] 27) from fun U hU => blk_keep hB hU (blk_lt hB))
  have c0 := (cls_4 (HBK.out W hb1)).1.1
  clear hB hf hb1
  go_enter Tryz.func38, Tryz.ntmps38
  go_upto_region 2 with fail
  rw [← hW]
  clear hW
  go_upto_region 3 with (go_at_call 42; refine (HF.out _).mono ?_; rintro e w' ⟨rfl, rfl⟩; simp only [Frm.val])
  obtain ⟨V, hV⟩ : ∃ V, V = W.alloc (.cells #[.int .i64 0, .int .i64 0] 78) := ⟨_, rfl⟩
  have bV : Below W.heap.size W V := by rw [hV]; exact (Below.refl _ _).alloc (Nat.le_refl _) _
  have hL : V.heap[W.heap.size]? = some (.cells #[.int .i64 0, .int .i64 0] 78) := by rw [hV]; exact blk_new _ _ _
  have HN2 := Lib.hid (HN.out.below bV)
  have HB2 := Lib.hid (HB1.out.trans (bV.mono HB1.out.size))
  have HLK := Lib.hid (show ∀ U : World, U.heap[W.heap.size]? = V.heap[W.heap.size]? → U.cell? ⟨W.heap.size, 0, none⟩ = some (.int .i64 0) ∧ U.cell? ⟨W.heap.size, 1, none⟩ = some (.int .i64 0) from fun U hU => (cls_2 (hU.trans hL)).1)
  have HLT := Lib.hid (blk_lt hL)
  obtain ⟨l0, l1⟩ := HLK.out V rfl
  clear hL HN bV
  rw [← hV]
  clear hV
  go_wp2_with fail
  go_ret
  exact ⟨_, rfl, HN2.out, HB2.out⟩
set_option maxHeartbeats 4000000 in
set_option maxRecDepth 100000 in
theorem numbers_i (w : World) (B : Nat) (o a b n : Int) (v : Value) (hB : w.heap[B]? = some (.cells #[.int .i64 o, .int .i64 a, .int .i64 b, v] 27)) (hf : frmOf o = .inner n) :
    Calls Tryz.prog 38 #[.pointer (some ⟨B, 0, none⟩)] w fun e w' => ∃ u, e = .returned u ∧ Ptrs w' w.heap.size B u [] ∧ Below w.heap.size w w' := by
  have HF := Lib.hid (fun W => impl_formOf o W)
  rw [hf] at HF
  have t1 := as_leaf_leaf
  have t2 := as_inner_leaf
  have t4 := as_nil_leaf
  obtain ⟨W, hW⟩ : ∃ W, W = w.alloc (.cells #[] 68) := ⟨_, rfl⟩
  have hb1 : Below w.heap.size w W := by rw [hW]; exact (Below.refl _ _).alloc (Nat.le_refl _) _
  have HB1 := Lib.hid hb1
  have HZ := Lib.hid (show W.heap.size = w.heap.size + 1 by rw [hW]; simp)
  have HN := Lib.hid (show Ptrs W w.heap.size B (.slice (some ⟨w.heap.size, 0, none⟩) 0 0) [] by rw [hW]; exact ptrs_nil w B)
  have HBK := Lib.hid (show ∀ U, Below w.heap.size w U → U.heap[B]? = some (.cells #[.int .i64 o, .int .i64 a, .int .i64 b, v] 27) from fun U hU => blk_keep hB hU (blk_lt hB))
  have c0 := (cls_4 (HBK.out W hb1)).1.1
  clear hB hf hb1
  go_enter Tryz.func38, Tryz.ntmps38
  go_upto_region 2 with fail
  rw [← hW]
  clear hW
  go_upto_region 3 with (go_at_call 42; refine (HF.out _).mono ?_; rintro e w' ⟨rfl, rfl⟩; simp only [Frm.val])
  obtain ⟨V, hV⟩ : ∃ V, V = W.alloc (.cells #[.int .i64 0, .int .i64 0] 78) := ⟨_, rfl⟩
  have bV : Below W.heap.size W V := by rw [hV]; exact (Below.refl _ _).alloc (Nat.le_refl _) _
  have hL : V.heap[W.heap.size]? = some (.cells #[.int .i64 0, .int .i64 0] 78) := by rw [hV]; exact blk_new _ _ _
  have HN2 := Lib.hid (HN.out.below bV)
  have HB2 := Lib.hid (HB1.out.trans (bV.mono HB1.out.size))
  have HLK := Lib.hid (show ∀ U : World, U.heap[W.heap.size]? = V.heap[W.heap.size]? → U.cell? ⟨W.heap.size, 0, none⟩ = some (.int .i64 0) ∧ U.cell? ⟨W.heap.size, 1, none⟩ = some (.int .i64 0) from fun U hU => (cls_2 (hU.trans hL)).1)
  have HLT := Lib.hid (blk_lt hL)
  obtain ⟨l0, l1⟩ := HLK.out V rfl
  clear hL HN bV
  rw [← hV]
  clear hV
  go_wp2_with fail
  go_ret
  exact ⟨_, rfl, HN2.out, HB2.out⟩
set_option maxHeartbeats 4000000 in
set_option maxRecDepth 100000 in
theorem numbers_n (w : World) (B : Nat) (o a b : Int) (v : Value) (hB : w.heap[B]? = some (.cells #[.int .i64 o, .int .i64 a, .int .i64 b, v] 27)) (hf : frmOf o = .none) :
    Calls Tryz.prog 38 #[.pointer (some ⟨B, 0, none⟩)] w fun e w' => ∃ u, e = .returned u ∧ Ptrs w' w.heap.size B u [] ∧ Below w.heap.size w w' := by
  have HF := Lib.hid (fun W => impl_formOf o W)
  rw [hf] at HF
  have t1 := as_leaf_leaf
  have t2 := as_inner_leaf
  have t4 := as_nil_leaf
  obtain ⟨W, hW⟩ : ∃ W, W = w.alloc (.cells #[] 68) := ⟨_, rfl⟩
  have hb1 : Below w.heap.size w W := by rw [hW]; exact (Below.refl _ _).alloc (Nat.le_refl _) _
  have HB1 := Lib.hid hb1
  have HZ := Lib.hid (show W.heap.size = w.heap.size + 1 by rw [hW]; simp)
  have HN := Lib.hid (show Ptrs W w.heap.size B (.slice (some ⟨w.heap.size, 0, none⟩) 0 0) [] by rw [hW]; exact ptrs_nil w B)
  have HBK := Lib.hid (show ∀ U, Below w.heap.size w U → U.heap[B]? = some (.cells #[.int .i64 o, .int .i64 a, .int .i64 b, v] 27) from fun U hU => blk_keep hB hU (blk_lt hB))
  have c0 := (cls_4 (HBK.out W hb1)).1.1
  clear hB hf hb1
  go_enter Tryz.func38, Tryz.ntmps38
  go_upto_region 2 with fail
  rw [← hW]
  clear hW
  go_upto_region 3 with (go_at_call 42; refine (HF.out _).mono ?_; rintro e w' ⟨rfl, rfl⟩; simp only [Frm.val])
  obtain ⟨V, hV⟩ : ∃ V, V = W.alloc (.cells #[.int .i64 0, .int .i64 0] 78) := ⟨_, rfl⟩
  have bV : Below W.heap.size W V := by rw [hV]; exact (Below.refl _ _).alloc (Nat.le_refl _) _
  have hL : V.heap[W.heap.size]? = some (.cells #[.int .i64 0, .int .i64 0] 78) := by rw [hV]; exact blk_new _ _ _
  have HN2 := Lib.hid (HN.out.below bV)
  have HB2 := Lib.hid (HB1.out.trans (bV.mono HB1.out.size))
  have HLK := Lib.hid (show ∀ U : World, U.heap[W.heap.size]? = V.heap[W.heap.size]? → U.cell? ⟨W.heap.size, 0, none⟩ = some (.int .i64 0) ∧ U.cell? ⟨W.heap.size, 1, none⟩ = some (.int .i64 0) from fun U hU => (cls_2 (hU.trans hL)).1)
  have HLT := Lib.hid (blk_lt hL)
  obtain ⟨l0, l1⟩ := HLK.out V rfl
  clear hL HN bV
  rw [← hV]
  clear hV
  go_wp2_with fail
  go_ret
  exact ⟨_, rfl, HN2.out, HB2.out⟩
/-- The places of the numbers that a node's text has. -/
theorem impl_numbersOf (w : World) (B : Nat) (o a b : Int) (v : Value) (hB : w.heap[B]? = some (.cells #[.int .i64 o, .int .i64 a, .int .i64 b, v] 27)) :
    Calls Tryz.prog 38 #[.pointer (some ⟨B, 0, none⟩)] w fun e w' => ∃ u, e = .returned u ∧ Ptrs w' w.heap.size B u (numPs o) ∧ Below w.heap.size w w' := by
  rcases op_cases o with rfl | rfl | rfl | rfl | rfl | rfl | rfl | rfl | rfl | h
  · exact numbers_0 w B 1 a b v hB rfl
  · exact numbers_ab w B 2 a b 5 10000 v hB rfl (by decide) (by decide)
  · exact numbers_b w B 3 a b 10000 v hB rfl (by decide)
  · exact numbers_ab w B 4 a b 3 10000 v hB rfl (by decide) (by decide)
  · exact numbers_ab w B 5 a b 3 10000 v hB rfl (by decide) (by decide)
  · exact numbers_a w B 6 a b 10000 v hB rfl (by decide)
  · exact numbers_i w B 7 a b 1 v hB rfl
  · exact numbers_i w B 8 a b 2 v hB rfl
  · exact numbers_i w B 9 a b 2 v hB rfl
  · have hN : numPs o = [] := by
      unfold numPs hasA hasB
      rw [decide_eq_false (by omega), decide_eq_false (by omega)]
      rfl
    rw [hN]
    exact numbers_n w B o a b v hB (frmOf_no h)
end Go.Proofs.YtmdmkdjeaffhaaaGreatDoor
