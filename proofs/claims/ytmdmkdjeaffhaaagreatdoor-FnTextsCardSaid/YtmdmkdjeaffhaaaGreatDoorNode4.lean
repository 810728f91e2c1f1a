/- Conditions (chapter 15): the iterator over a condition's nodes: its contract. No condition but the bounds of what came in. -/
import Derived.Test.YtmdmkdjeaffhaaaGreatDoorNode3
import Derived.Test.YtmdmkdjeaffhaaaGreatDoorCond5
namespace Go.Proofs.YtmdmkdjeaffhaaaGreatDoor
open Go.ChangeShapes Go.WideShapes Go.ChangeAt Go.RowKit Go.Shelf
set_option linter.unusedVariables false
attribute [local go_sem] Oper.semAt_some

set_option maxHeartbeats 1000000 in
theorem back_make (F : Fence) (n : Nat) (h5 : F.fn 41) (hro : F.round = none) (a : Option Addr) (len cap : Nat) (w : World) :
    CallsIn F n Tryz.prog 41 #[.slice a len cap] w fun e w' => e = .returned (.func (.func 57) #[] #[.pointer (some ⟨w.heap.size, 0, none⟩)]) ∧ w' = w.alloc (.cells #[.slice a len cap] 25) := by
  refine callsIn_of_wp Tryz.func41 rfl h5 ?_ hro
  simp only [Tryz.ntmps41, List.size_toArray, List.length_cons, List.length_nil, Nat.reduceAdd, Nat.reduceSub, Array.replicate_succ, Array.replicate_zero, List.push_toArray, List.append_toArray, List.nil_append, List.cons_append]
  gi_wp2
  go_ret
  exact ⟨rfl, rfl⟩
theorem wrap_len {n : Nat} (h : n ≤ 1073741824) : wrap64 (n : Int) = (n : Int) := by unfold wrap64; omega
theorem infoPtr15 : (Tryz.prog.info? 45).map (fun i => (i.zero, i.size, i.bytes)) = some (some (.pointer none), 1, 8) := by kernel_rfl
theorem owns_wide {w : World} {lo lo' s n : Nat} {E : TypeId} {v : Value} {us : List Value} (h : w.ownsRow lo E s v n us) (hl : lo' ≤ lo) : w.ownsRow lo' E s v n us := by
  refine ⟨h.1, ?_⟩
  rcases h.2 with hn | ⟨g, cap, cur, rfl, g1, rest⟩
  · exact .inl hn
  · exact .inr ⟨g, cap, cur, rfl, by omega, rest⟩
theorem Touch.drew {M : List Nat} {A B : World} (h : Touch M A B) : Touch M A B.drew := ⟨h.os, h.tape, h.output, h.size, h.block⟩
/-- The next node is at hand. -/
theorem at_next {K : List Nd → List Nat → World → Prop} {W V W3 w' V0 : World} {N g c1 : Nat} {x y : Nd} {rest ys : List Nd} {M M1 Ds : List Nat} {v xp : Value} {hv : Value} (hK : Abides K [])
    (hK4 : K (y :: ys) ((Value.slice (some ⟨g, 0, none⟩) (y :: ys).length c1).ownBlock.toList ++ V0.heap.size :: M) V)
    (hM2 : ∀ k ∈ (Value.slice (some ⟨g, 0, none⟩) (y :: ys).length c1).ownBlock.toList ++ V0.heap.size :: M, k < V.heap.size)
    (hDs : ∀ D ∈ Ds, V.heap[D]? = some (.deferred (some []))) (hdef : V.heap[V0.heap.size]? = some (.deferred (some [])))
    (hnb : g ≠ W.heap.size ∧ g ≠ W.heap.size + 2 ∧ g ∉ Ds ∧ g ∉ M1 ∧ g < V.heap.size ∧ (g ∈ M ∨ V0.heap.size + 2 ≤ g)) (hlen : (y :: ys).length ≤ N)
    (hpV : V.heap[W.heap.size]? = some (.cells #[xp] 45)) (hv1 : V.heap[W.heap.size + 2]? = some (.cells #[hv] 70)) (hVd : V0.heap.size < V.heap.size)
    (hrow2 : V.ownsRow W.heap.size 45 1 (.slice (some ⟨g, 0, none⟩) ys.length c1) ys.length (ys.map Nd.ptr).reverse)
    (hMW : ∀ k ∈ M, k < W3.heap.size) (hz0 : W3.heap.size + 1 = V0.heap.size) (hlo : W.heap.size + 3 ≤ W3.heap.size) (HA : AtN K W N x rest M Ds v w') :
    AtN K W N y ys ((Value.slice (some ⟨g, 0, none⟩) (y :: ys).length c1).ownBlock.toList ++ V0.heap.size :: M) (V0.heap.size :: Ds) (.slice (some ⟨g, 0, none⟩) ys.length c1)
      ((V.setCell ⟨W.heap.size, 0, none⟩ y.ptr).setCell ⟨W.heap.size + 2, 0, none⟩ (.slice (some ⟨g, 0, none⟩) ys.length c1)).drew := by
  obtain ⟨V', hV'⟩ : ∃ V', V' = ((V.setCell ⟨W.heap.size, 0, none⟩ y.ptr).setCell ⟨W.heap.size + 2, 0, none⟩ (.slice (some ⟨g, 0, none⟩) ys.length c1)).drew := ⟨_, rfl⟩
  have ht : Touch [W.heap.size, W.heap.size + 2] V V' := by
    rw [hV']
    exact ((Touch.set (by simp) V 0 _).trans (Touch.set (by simp) _ 0 _)).drew
  have hz : V'.heap.size = V.heap.size := by rw [hV']; simp [World.setCell, World.drew]
  have hk : ∀ k, k < V.heap.size → k ≠ W.heap.size → k ≠ W.heap.size + 2 → V'.heap[k]? = V.heap[k]? := fun k h1 h2 h3 => ht.block k h1 (by simp [h2, h3])
  have hg : W.heap.size ≤ g := by
    rcases hrow2.2 with ⟨h0, _⟩ | ⟨g', cap, cur, e, g1, _⟩
    · cases h0
    · injection e with e1 _ _
      injection e1 with e1
      injection e1 with e1
      omega
  have hMs : ∀ k, k ∈ (Value.slice (some ⟨g, 0, none⟩) (y :: ys).length c1).ownBlock.toList ++ V0.heap.size :: M ↔ k = g ∨ k = V0.heap.size ∨ k ∈ M := fun k => by simp [Value.ownBlock]
  have hbn : V'.heap[W.heap.size]? = some (.cells #[y.ptr] 45) := by
    rw [hV']
    refine (Below.heap_setCell (V.setCell ⟨W.heap.size, 0, none⟩ y.ptr) ⟨W.heap.size + 2, 0, none⟩ _ W.heap.size (by show W.heap.size ≠ W.heap.size + 2; omega)).trans ?_
    simp [World.setCell, Array.getElem?_modify, hpV]
  have hba : V'.heap[W.heap.size + 2]? = some (.cells #[.slice (some ⟨g, 0, none⟩) ys.length c1] 70) := by
    rw [hV']
    have h1 := (Below.heap_setCell V ⟨W.heap.size, 0, none⟩ y.ptr (W.heap.size + 2) (by show W.heap.size + 2 ≠ W.heap.size; omega)).trans hv1
    show (World.setCell _ _ _).heap[_]? = _
    simp [World.setCell, Array.getElem?_modify] at h1 ⊢
    simp [h1]
  rw [← hV']
  refine ⟨hK _ _ _ V V' hK4 (ht.sub fun k hk => ?_) (fun k hk => ⟨.inl hk, by rw [hz]; exact hM2 k hk⟩), by omega, hlen, hbn, hba, owns_keep hrow2 (fun q hq => ?_), fun q hq => ?_, (hMs _).2 (.inr (.inr HA.m1)), (hMs _).2 (.inr (.inr HA.m2)), fun D hD => ?_, ?_, fun k hk => ⟨?_, by rw [hz]; exact hM2 k hk⟩⟩
  · simp only [List.nil_append]
    rw [hMs]
    simp only [List.mem_cons, List.not_mem_nil, or_false] at hk
    rcases hk with rfl | rfl
    · exact .inr (.inr HA.m1)
    · exact .inr (.inr HA.m2)
  · have e : g = q := by simpa [Value.ownBlock] using hq
    subst e
    exact hk _ hnb.2.2.2.2.1 hnb.1 hnb.2.1
  · have e : g = q := by simpa [Value.ownBlock] using hq
    subst e
    refine ⟨(hMs _).2 (.inl rfl), hnb.1, hnb.2.1, fun h => ?_⟩
    rcases List.mem_cons.1 h with h | h
    · rcases hnb.2.2.2.2.2 with h2 | h2
      · have := hMW _ h2; omega
      · omega
    · exact hnb.2.2.1 h
  · rcases List.mem_cons.1 hD with rfl | hD
    · exact ⟨(hMs _).2 (.inr (.inl rfl)), by omega, (hk _ hVd (by omega) (by omega)).trans hdef⟩
    · have h1 := HA.mD D hD
      have h2 := hMW D h1.1
      exact ⟨(hMs _).2 (.inr (.inr h1.1)), h1.2.1, (hk _ (by omega) (by omega) (by omega)).trans (hDs D hD)⟩
  · exact List.nodup_cons.2 ⟨fun h => by have := hMW _ (HA.mD _ h).1; omega, HA.nd⟩
  · rcases (hMs k).1 hk with rfl | rfl | h
    · exact hg
    · omega
    · exact (HA.mw k h).1
/-- The walk's state at the label. -/
def AtJ (l Bx N : Nat) (K : List Nd → List Nat → World → Prop) (W : World) (m : Nat) (a' : Act) (w' : World) : Prop :=
  ∃ (x : Nd) (rest : List Nd) (M Ds : List Nat) (v : Value), (∃ u : Nat → Value, a' = { tmps := #[.func (.yield l) #[] #[], .pointer (some ⟨Bx, 0, none⟩), u 2, .pointer (some ⟨W.heap.size, 0, none⟩), .pointer (some ⟨W.heap.size + 2, 0, none⟩), u 5, u 6, u 7, u 8, u 9, u 10, u 11, u 12, u 13, u 14, u 15, u 16, u 17, u 18, u 19, u 20, u 21, u 22, u 23, u 24, u 25, u 26, u 27, u 28, u 29, u 30, u 31, u 32, u 33, u 34, u 35, u 36, u 37, u 38, u 39, u 40], defers := marks Ds }) ∧ m = (todo (x :: rest)).length ∧ AtN K W N x rest M Ds v w'
theorem slotsJ (a0 a1 a2 a3 a4 a5 a6 a7 a8 a9 a10 a11 a12 a13 a14 a15 a16 a17 a18 a19 a20 a21 a22 a23 a24 a25 a26 a27 a28 a29 a30 a31 a32 a33 a34 a35 a36 a37 a38 a39 a40 : Value) (d : List Deferred) : ∃ u : Nat → Value, ({ tmps := #[a0, a1, a2, a3, a4, a5, a6, a7, a8, a9, a10, a11, a12, a13, a14, a15, a16, a17, a18, a19, a20, a21, a22, a23, a24, a25, a26, a27, a28, a29, a30, a31, a32, a33, a34, a35, a36, a37, a38, a39, a40], defers := d } : Act) = { tmps := #[a0, a1, u 2, a3, a4, u 5, u 6, u 7, u 8, u 9, u 10, u 11, u 12, u 13, u 14, u 15, u 16, u 17, u 18, u 19, u 20, u 21, u 22, u 23, u 24, u 25, u 26, u 27, u 28, u 29, u 30, u 31, u 32, u 33, u 34, u 35, u 36, u 37, u 38, u 39, u 40], defers := d } := ⟨fun i => (#[a0, a1, a2, a3, a4, a5, a6, a7, a8, a9, a10, a11, a12, a13, a14, a15, a16, a17, a18, a19, a20, a21, a22, a23, a24, a25, a26, a27, a28, a29, a30, a31, a32, a33, a34, a35, a36, a37, a38, a39, a40] : Array Value).getD i undef, rfl⟩
set_option maxRecDepth 100000 in
set_option maxHeartbeats 4000000 in
theorem nodes_seq (n : Nat) (hn : 4 ≤ n) (N Bx : Nat) (x : Nd) (w : World) (h1N : 1 ≤ N) (hN : N ≤ 1073741824) (hBx : w.cell? ⟨Bx, 0, none⟩ = some x.ptr) (hBl : Bx < w.heap.size) :
    SeqM Fence.wide n Tryz.prog 40 #[.pointer (some ⟨Bx, 0, none⟩)] encN (fun T => T ≠ []) (stepN N) [x] w := fun l K Kx W hW hK hKx hY h0 => by
  have hBx' : W.cell? ⟨Bx, 0, none⟩ = some x.ptr := (hW.cell (p := ⟨Bx, 0, none⟩) hBl).trans hBx
  refine callsIn_of_wp_marks Tryz.func40 rfl trivial ?_ rfl
  simp only [Tryz.ntmps40, List.size_toArray, List.length_cons, List.length_nil, Nat.reduceAdd, Nat.reduceSub, Array.replicate_succ, Array.replicate_zero, List.push_toArray, List.append_toArray, List.nil_append, List.cons_append]
  obtain ⟨i0, hi0, hy0, hy1, hy2⟩ := info_parts infoPtr15
  refine wpIn_scope_at 0 (AtJ l Bx N K W) rfl ?_ ?_
  · have HX := Lib.hid hBx'
    unfold Nd.ptr at hBx'
    gi_wp2
    refine ⟨_, x, [], [W.heap.size, W.heap.size + 1, W.heap.size + 2], [], .slice (some ⟨W.heap.size + 1, 0, none⟩) 0 0, slotsJ _ _ _ _ _ _ _ _ _ _ _ _ _ _ _ _ _ _ _ _ _ _ _ _ _ _ _ _ _ _ _ _ _ _ _ _ _ _ _ _ _ _, rfl, ?_⟩
    have hb0 : Below W.heap.size W (((W.alloc (.cells #[Value.pointer (some ⟨x.b, x.off, none⟩)] 45)).alloc (.cells #[] 45)).alloc (.cells #[Value.slice (some ⟨W.heap.size + 1, 0, none⟩) 0 0] 70)) := by go_grown
    have hbn : (((W.alloc (.cells #[Value.pointer (some ⟨x.b, x.off, none⟩)] 45)).alloc (.cells #[] 45)).alloc (.cells #[Value.slice (some ⟨W.heap.size + 1, 0, none⟩) 0 0] 70)).heap[W.heap.size]? = some (.cells #[x.ptr] 45) :=
      (Below.heap_alloc _ _ _ (by simp; omega)).trans ((Below.heap_alloc _ _ _ (by simp)).trans (blk_new W 45 #[x.ptr]))
    have hba : (((W.alloc (.cells #[Value.pointer (some ⟨x.b, x.off, none⟩)] 45)).alloc (.cells #[] 45)).alloc (.cells #[Value.slice (some ⟨W.heap.size + 1, 0, none⟩) 0 0] 70)).heap[W.heap.size + 2]? = some (.cells #[Value.slice (some ⟨W.heap.size + 1, 0, none⟩) 0 0] 70) := blk_new_at _ _ (by simp)
    refine ⟨hK _ [] _ W _ h0 (Touch.of hb0) (fun k hk => ?_), by simp, by simpa using h1N, hbn, hba, ?_, fun g hg => ?_, by simp, by simp, fun D hD => (by cases hD), List.nodup_nil, fun k hk => ?_⟩
    · simp only [List.mem_cons, List.not_mem_nil, or_false] at hk
      simp
      omega
    · have hr := (OwnC.empty 45 1 (W.alloc (.cells #[Value.pointer (some ⟨x.b, x.off, none⟩)] 45))).row
      rw [World.size_alloc] at hr
      exact owns_keep (owns_wide hr (Nat.le_succ _)) (fun g hg => by
        have e : W.heap.size + 1 = g := by simpa [Value.ownBlock] using hg
        subst e
        exact Below.heap_alloc _ _ _ (by simp))
    · have e : W.heap.size + 1 = g := by simpa [Value.ownBlock] using hg
      subst e
      exact ⟨by simp, by omega, by omega, by simp⟩
    · simp only [List.mem_cons, List.not_mem_nil, or_false] at hk
      simp
      omega
  · rintro m a w' ⟨x, rest, M, Ds, v, ⟨u, rfl⟩, rfl, HA0⟩
    have HA := Lib.hid HA0
    clear HA0
    obtain ⟨xb, xo, xd⟩ := x
    have A1 := HA.out
    obtain ⟨fn, tmps, assign, body, hy, hRR⟩ := hY _ M w' A1.k A1.mw (by simp)
    have hy' : (Instr.yield l #[.pointer (some ⟨xb, xo, none⟩)]).run Tryz.prog w' = .ok (.round l fn tmps assign body) w' := hy
    have c3 : w'.cell? ⟨W.heap.size, 0, none⟩ = some (.pointer (some ⟨xb, xo, none⟩)) := blk_cell A1.bn 0 rfl
    clear hy A1
    gi_wp2
    refine ⟨fun _ => by omega, hRR.mono ?_⟩
    clear hRR hy' c3
    rintro e W3 ⟨hsm, (⟨rfl, T', hst, hK3⟩ | ⟨rfl, hx3⟩)⟩
    · obtain ⟨x', rest', b, off, A, c, e1, rfl, hlen, hxM, hargs, hlc, hA, hcells⟩ := hst
      injection e1 with e1 e2
      subst e1 e2
      have A1 := HA.out
      have c3 : W3.cell? ⟨W.heap.size, 0, none⟩ = some (.pointer (some ⟨xb, xo, none⟩)) := blk_cell ((hsm.block _ A1.m1).trans A1.bn) 0 rfl
      have hargs' : W3.cell? ⟨xb, xo + 3, none⟩ = some (.slice A xd.Args.length c) := hargs
      generalize hnn : xd.Args.length = nn at hargs hargs' hlc hA hcells
      clear A1
      gi_wp2_with (refine ⟨trivial, fun _ => (by omega), ?_⟩; gi_at_call 41; refine (back_make Fence.wide _ trivial rfl _ _ _ _).mono ?_; rintro e w' ⟨rfl, rfl⟩)
      have A1 := HA.out
      have hpn : W3.heap[W.heap.size]? = some (.cells #[.pointer (some ⟨xb, xo, none⟩)] 45) := (hsm.block _ A1.m1).trans A1.bn
      have hpa := (hsm.block _ A1.m2).trans A1.ba
      have hrow3 := owns_keep A1.row fun g hg => hsm.block g (A1.nb g hg).1
      have hMW : ∀ k ∈ M, k < W3.heap.size := fun k hk => by have := (A1.mw k hk).2; have := hsm.size; omega
      have hDW : ∀ d ∈ Ds, W.heap.size + 3 ≤ d ∧ d < W3.heap.size := fun d hd => ⟨(A1.mD d hd).2.1, hMW d (A1.mD d hd).1⟩
      have hlo : W.heap.size + 3 ≤ W3.heap.size := Nat.le_trans A1.size hsm.size
      have hxl : xb < W3.heap.size := World.block_lt_of_cell? W3 _ hargs
      have hbl : 0 < nn → b < W3.heap.size := fun h => by
        obtain ⟨u, hu⟩ := hcells 0 h 0 (by decide)
        exact World.block_lt_of_cell? W3 _ hu
      have hnN : nn + rest.length ≤ N := by rw [List.length_append, kidsAt_len, hnn] at hlen; exact hlen
      have fex : ∀ j, j < 4 → ∃ f : Nat → Value, ∀ k, k < nn → W3.cell? ⟨b, off + k * 4 + j, none⟩ = some (f k) := fun j hj => ⟨fun k => (W3.cell? ⟨b, off + k * 4 + j, none⟩).getD undef, fun k hk => by
        obtain ⟨u, hu⟩ := hcells k hk j hj
        simp only [hu, Option.getD_some]⟩
      obtain ⟨f0, e0⟩ := fex 0 (by decide)
      obtain ⟨f1, e1⟩ := fex 1 (by decide)
      obtain ⟨f2, e2⟩ := fex 2 (by decide)
      obtain ⟨f3, e3⟩ := fex 3 (by decide)
      clear fex hcells
      obtain ⟨V0, hV0⟩ : ∃ V0, V0 = W3.alloc (.cells #[.slice A nn c] 25) := ⟨_, rfl⟩
      rw [← hV0]
      have hb0 : Below W3.heap.size W3 V0 := by rw [hV0]; exact (Below.refl _ _).alloc (Nat.le_refl _) _
      have hz0 : W3.heap.size + 1 = V0.heap.size := by rw [hV0]; simp
      have hbs : V0.cell? ⟨W3.heap.size, 0, none⟩ = some (.slice A nn c) := by rw [hV0]; exact blk_cell (blk_new _ _ _) 0 rfl
      clear hV0
      have hR0 : RdB W3.heap.size b off nn c A f0 f1 f2 f3 V0 := ⟨hbs, fun k hk => (hb0.cell (p := ⟨b, off + k * 4, none⟩) (hbl (by omega))).trans (e0 k hk), fun k hk => (hb0.cell (p := ⟨b, off + k * 4 + 1, none⟩) (hbl (by omega))).trans (e1 k hk), fun k hk => (hb0.cell (p := ⟨b, off + k * 4 + 2, none⟩) (hbl (by omega))).trans (e2 k hk), fun k hk => (hb0.cell (p := ⟨b, off + k * 4 + 3, none⟩) (hbl (by omega))).trans (e3 k hk)⟩
      obtain ⟨Rd, hRd⟩ : ∃ Rd : World → Prop, Rd = fun V => RdB W3.heap.size b off nn c A f0 f1 f2 f3 V ∧ V.cell? ⟨xb, xo + 3, none⟩ = some (.slice A nn c) := ⟨_, rfl⟩
      have hRk : RdKeeps M V0.heap.size W.heap.size Rd := by
        rw [hRd]
        rintro X Y ⟨r1, r2⟩ hk
        have hB : 0 < nn → ∀ o, Y.cell? ⟨b, o, none⟩ = X.cell? ⟨b, o, none⟩ := fun h o => World.cell?_of_block (hk b (by have := hbl h; omega) (hA h).2)
        exact ⟨⟨(World.cell?_of_block (hk W3.heap.size (by omega) fun h => by have := hMW W3.heap.size h; omega)).trans r1.box, fun k h => (hB (by omega) _).trans (r1.c0 k h), fun k h => (hB (by omega) _).trans (r1.c1 k h), fun k h => (hB (by omega) _).trans (r1.c2 k h), fun k h => (hB (by omega) _).trans (r1.c3 k h)⟩, (World.cell?_of_block (hk xb (by omega) hxM)).trans r2⟩
      have hRd0 : Rd V0 := by rw [hRd]; exact ⟨hR0, (hb0.cell (p := ⟨xb, xo + 3, none⟩) hxl).trans hargs⟩
      have hkl : ((kidsAt b off xd.Args).map Nd.ptr).length = nn := by rw [List.length_map, kidsAt_len, hnn]
      have hI0 : InB W.heap.size W3 M Ds (.pointer (some ⟨xb, xo, none⟩)) (rest.map Nd.ptr).reverse ((kidsAt b off xd.Args).map Nd.ptr) Rd V0.heap.size nn [] V0 :=
        ⟨by omega, Touch.of hb0, (hb0.block _ (by omega)).trans hpn, ⟨v, (hb0.block _ (by omega)).trans hpa, by
          rw [hkl, Nat.sub_self, List.drop_of_length_le (by omega), List.reverse_nil, List.append_nil, Nat.add_zero, List.length_reverse, List.length_map]
          exact owns_keep hrow3 fun g hg => hb0.block g (hMW g (A1.nb g hg).1), fun g hg => by
            obtain ⟨q1, q2, q3, q4⟩ := A1.nb g hg
            exact ⟨q2, q3, q4, by simp, by have := hMW g q1; omega, .inl q1⟩⟩, hRd0, Nat.le_refl _, fun d hd => hb0.block d (hDW d hd).2⟩
      have HA2 := Lib.hid A1
      clear A1
      refine wpIn_rangeM rfl (by omega) (gf := 57) (lb := #[.pointer (some ⟨W3.heap.size, 0, none⟩)]) rfl trivial (enters_of Tryz.func57 (by kernel_rfl) rfl)
        (back_seq (n - 1) (by omega) W3.heap.size b off nn c A f0 f1 f2 f3 V0 (by omega) (fun h => ⟨by have := hbl h; omega, (hA h).1⟩) hlc (by omega) hR0) (Below.refl _ _) (fun _ => rfl)
        (fun k M' V => InB W.heap.size W3 M Ds (.pointer (some ⟨xb, xo, none⟩)) (rest.map Nd.ptr).reverse ((kidsAt b off xd.Args).map Nd.ptr) Rd V0.heap.size k M' V) (fun _ _ _ => False)
        (fun s M1 M2 X Y hi _ hM ht hm => hi.abides hRk hlo hz0 hMW hDW hM ht hm) (fun _ _ _ _ _ h _ _ _ _ => h.elim) (fun s s' M1 X l' r o hs hl => ⟨hs.1, ⟨cell_put hl hs.2.box o, fun k h => cell_put hl (hs.2.c0 k h) o, fun k h => cell_put hl (hs.2.c1 k h) o, fun k h => cell_put hl (hs.2.c2 k h) o, fun k h => cell_put hl (hs.2.c3 k h) o⟩⟩)
        hI0
        (fun k => { tmps := #[.func (.yield l) #[] #[], .pointer (some ⟨Bx, 0, none⟩), u 2, .pointer (some ⟨W.heap.size, 0, none⟩), .pointer (some ⟨W.heap.size + 2, 0, none⟩), .int .i64 ((k - 1 : Nat) : Int), u 6, u 7, u 8, .func (.yield l) #[] #[], .pointer (some ⟨xb, xo, none⟩), .bool true, .bool false, .pointer (some ⟨xb, xo, none⟩), .pointer (some ⟨xb, xo, none⟩), .pointer (some ⟨xb, xo + 3, none⟩), .slice A nn c, .func (.func 57) #[] #[.pointer (some ⟨W3.heap.size, 0, none⟩)], .int .i64 ((k - 1 : Nat) : Int), .agg #[f0 (k - 1), f1 (k - 1), f2 (k - 1), f3 (k - 1)], u 20, u 21, u 22, u 23, u 24, u 25, u 26, u 27, u 28, u 29, u 30, u 31, u 32, u 33, u 34, u 35, u 36, u 37, u 38, u 39, u 40], defers := [] }) ?assign ?body ?done ?stop
      case assign =>
        intro l' s V K' hK'
        unfold encB
        gi_wp2
        exact hK'
      case body =>
        intro l' k M' V hz hM' HI hk0
        obtain ⟨j, rfl⟩ : ∃ j, k = j + 1 := ⟨k - 1, by omega⟩
        simp only [Nat.add_sub_cancel]
        obtain ⟨v1, hv1, hrow1, hnb1⟩ := HI.row
        have hjl := HI.kl
        rw [hkl] at hjl
        obtain ⟨hA1, hbM⟩ := hA (by omega)
        subst hA1
        have hjn : j < nn := hjl
        have hcl : V.cell? ⟨xb, xo + 3, none⟩ = some (.slice (some ⟨b, off, none⟩) nn c) := by have h := HI.rd; rw [hRd] at h; exact h.2
        have hcn : V.cell? ⟨W.heap.size, 0, none⟩ = some (.pointer (some ⟨xb, xo, none⟩)) := blk_cell HI.bn 0 rfl
        have hp : ((kidsAt b off xd.Args).map Nd.ptr)[j]? = some (.pointer (some ⟨b, off + j * 4, none⟩)) := by
          rw [List.getElem?_map, kidsAt_at, List.getElem?_eq_getElem (by omega)]
          rfl
        have hp2 := Lib.hid hp
        have HJ := Lib.hid HI
        have HS := Lib.hid (fun (Y : World) (h1 : Y.heap[W.heap.size]? = V.heap[W.heap.size]?) (h2 : Y.heap[xb]? = V.heap[xb]?) => (⟨(World.cell?_of_block h1).trans hcn, (World.cell?_of_block h2).trans hcl⟩ : Y.cell? ⟨W.heap.size, 0, none⟩ = some (.pointer (some ⟨xb, xo, none⟩)) ∧ Y.cell? ⟨xb, xo + 3, none⟩ = some (.slice (some ⟨b, off, none⟩) nn c)))
        have hxV : xb < V.heap.size := by have := HI.tch.size; omega
        have hg6 : ∀ g, v1.ownBlock = some g → g ≠ W.heap.size ∧ g ≠ W.heap.size + 2 ∧ g ≠ xb := fun g hg => by
          obtain ⟨q1, q2, _, _, _, q6⟩ := hnb1 g hg
          refine ⟨q1, q2, ?_⟩
          rintro rfl
          rcases q6 with q6 | q6
          · exact hxM q6
          · omega
        have hm1 : (rest.map Nd.ptr).reverse.length + (((kidsAt b off xd.Args).map Nd.ptr).length - (j + 1)) + 1 ≤ 2147483648 := by rw [hkl, List.length_reverse, List.length_map]; omega
        have qD : V.drew.cell? ⟨W.heap.size + 2, 0, none⟩ = some v1 := blk_cell hv1 0 rfl
        have rowD : V.drew.ownsRow W.heap.size 45 1 v1 ((rest.map Nd.ptr).reverse.length + (((kidsAt b off xd.Args).map Nd.ptr).length - (j + 1))) ((rest.map Nd.ptr).reverse ++ (((kidsAt b off xd.Args).map Nd.ptr).drop (j + 1)).reverse) := hrow1
        have kD : ∀ k : Nat, V.drew.heap[k]? = V.heap[k]? := fun _ => rfl
        have zD : V.drew.heap.size = V.heap.size := rfl
        have HV := Lib.hid hv1
        have HNB := Lib.hid hnb1
        have HG := Lib.hid (fun (o : Obj) (v6 : Value) (w6 : World) => HI.step (v := v1) (v6 := v6) (w6 := w6) (o := o) hRk hlo hz0 hMW hM' hz ⟨HA2.out.m1, HA2.out.m2⟩ hDW hp hv1 hnb1)
        clear hrow1 hnb1 HI hA hp hv1
        generalize (rest.map Nd.ptr).reverse.length + (((kidsAt b off xd.Args).map Nd.ptr).length - (j + 1)) = mm at hm1 rowD HG
        generalize (rest.map Nd.ptr).reverse ++ (((kidsAt b off xd.Args).map Nd.ptr).drop (j + 1)).reverse = uu at rowD HG
        refine wpIn_block ?_
        refine wpIn_round_held (by kernel_rfl) (by kernel_rfl) (fun h => by obtain ⟨_, _, h⟩ := h; exact h) (S := fun uu => uu.cell? ⟨W.heap.size, 0, none⟩ = some (.pointer (some ⟨xb, xo, none⟩)) ∧ uu.cell? ⟨xb, xo + 3, none⟩ = some (.slice (some ⟨b, off, none⟩) nn c)) (HS.out _ rfl rfl) (fun hHeld => ?_)
        generalize hDD : V.drew = UD at hHeld qD rowD kD zD HG ⊢
        have HDD := Lib.hid hDD
        clear hDD
        refine wpAnyH_take (i := 1) (oi := ⟨some 21, _, _, _, _, _⟩) (v := ?_) rfl (by kernel_rfl) (by kernel_rfl) (by kernel_rfl) (fun _ _ _ h => h) (Or.inl ⟨by rfl, ?_⟩) (by assumption) ?_
        rotate_left
        · intro w hSw; (try dsimp only at hSw); go_simp <;> (with_reducible rfl)
        (try simp only [Act.put, List.setIfInBounds_toArray, List.set_cons_zero, List.set_cons_succ])
        refine wpAnyH_take (i := 2) (oi := ⟨some 22, _, _, _, _, _⟩) (v := ?_) rfl (by kernel_rfl) (by kernel_rfl) (by kernel_rfl) (fun _ _ _ h => h) (Or.inl ⟨by rfl, ?_⟩) (by assumption) ?_
        rotate_left
        · intro w hSw; (try dsimp only at hSw); go_simp <;> (with_reducible rfl)
        (try simp only [Act.put, List.setIfInBounds_toArray, List.set_cons_zero, List.set_cons_succ])
        refine wpAnyH_take (i := 3) (oi := ⟨some 23, _, _, _, _, _⟩) (v := ?_) rfl (by kernel_rfl) (by kernel_rfl) (by kernel_rfl) (fun _ _ _ h => h) (Or.inl ⟨by rfl, ?_⟩) (by assumption) ?_
        rotate_left
        · intro w hSw; (try dsimp only at hSw); go_simp <;> (with_reducible rfl)
        (try simp only [Act.put, List.setIfInBounds_toArray, List.set_cons_zero, List.set_cons_succ])
        refine wpAnyH_take (i := 4) (oi := ⟨some 24, _, _, _, _, _⟩) (v := ?_) rfl (by kernel_rfl) (by kernel_rfl) (by kernel_rfl) (fun _ _ _ h => h) (Or.inl ⟨by rfl, ?_⟩) (by assumption) ?_
        rotate_left
        · intro w hSw; (try dsimp only at hSw); go_simp <;> (with_reducible rfl)
        (try simp only [Act.put, List.setIfInBounds_toArray, List.set_cons_zero, List.set_cons_succ])
        refine wpAnyH_take (i := 5) (oi := ⟨some 25, _, _, _, _, _⟩) (v := ?_) rfl (by kernel_rfl) (by kernel_rfl) (by kernel_rfl) (fun _ _ _ h => h) (Or.inl ⟨by rfl, ?_⟩) (by assumption) ?_
        rotate_left
        · intro w hSw; (try dsimp only at hSw); go_simp <;> (with_reducible rfl)
        (try simp only [Act.put, List.setIfInBounds_toArray, List.set_cons_zero, List.set_cons_succ])
        refine wpAnyH_take (i := 6) (oi := ⟨some 26, _, _, _, _, _⟩) (v := ?_) rfl (by kernel_rfl) (by kernel_rfl) (by kernel_rfl) (fun _ _ _ h => h) (Or.inl ⟨by rfl, ?_⟩) (by assumption) ?_
        rotate_left
        · intro w hSw; (try dsimp only at hSw); go_simp <;> (with_reducible rfl)
        (try simp only [Act.put, List.setIfInBounds_toArray, List.set_cons_zero, List.set_cons_succ])
        refine wpAnyH_ready (rs := [0, 7]) (by kernel_rfl) (by simp) ?_
        refine AllReadyH.cons (o := ⟨some 20, _, _, _, _, _⟩) rfl (fun K hK => ?_) (AllReadyH.cons (o := ⟨some 27, _, _, _, _, _⟩) rfl (fun K hK => ?_) (AllReadyH.nil))
        focus
          skip
          go_simp
          refine hK.out _ _ ((by assumption)) (fun hHeld2 => ?_)
          clear hK K
          (try simp only [Act.put, List.setIfInBounds_toArray, List.set_cons_zero, List.set_cons_succ])
          refine wpAnyH_ready (rs := [7]) (by kernel_rfl) (by simp) ?_
          refine AllReadyH.cons (o := ⟨some 27, _, _, _, _, _⟩) rfl (fun K hK => ?_) AllReadyH.nil
          have h27 : ∀ k : Nat, k < V.heap.size → (UD.alloc (.cells #[.pointer (some ⟨b, off + j * 4, none⟩)] 45)).heap[k]? = V.heap[k]? := (fun k hk => (Below.heap_alloc UD _ k (by omega)).trans (kD k))
          have q27 : (UD.alloc (.cells #[.pointer (some ⟨b, off + j * 4, none⟩)] 45)).cell? ⟨W.heap.size + 2, 0, none⟩ = some v1 := (World.cell?_of_block ((h27 (W.heap.size + 2) (by omega)).trans (kD (W.heap.size + 2)).symm)).trans qD
          have hz27 : (UD.alloc (.cells #[.pointer (some ⟨b, off + j * 4, none⟩)] 45)).heap.size = V.heap.size + 1 := (by rw [World.size_alloc, zD])
          go_simp
          refine hK.out _ _ (HS.out _ (h27 _ (by omega)) (h27 _ hxV)) (fun hHeld2 => ?_)
          clear hK K
          (try simp only [Act.put, List.setIfInBounds_toArray, List.set_cons_zero, List.set_cons_succ])
          refine wpAnyH_ready (rs := [8]) (by kernel_rfl) (by simp) ?_
          refine AllReadyH.cons (o := ⟨some 28, _, _, _, _, _⟩) rfl (fun K hK => ?_) AllReadyH.nil
          have hr27 := owns_keep (w' := UD.alloc (.cells #[.pointer (some ⟨b, off + j * 4, none⟩)] 45)) rowD (fun g hg => (h27 g (HNB.out g hg).2.2.2.2.1).trans (kD g).symm)
          refine step_append_elem rfl _ _ 70 rfl 45 i0 (.pointer none) 1 8 Tryz.underlying70 hi0 hy0 hy1 hy2 rfl (by decide) W.heap.size _ mm uu rfl hr27 V.heap.size [.pointer (some ⟨b, off + j * 4, none⟩)] rfl (zD ▸ cell_new UD 45 [.pointer (some ⟨b, off + j * 4, none⟩)]) (by simp [Value.oneCell']) rfl hm1 (by decide) (by omega) ?_
          intro v6 w6 g1 g2 g3
          obtain ⟨a6, c6, rfl⟩ := owns_form g1
          have h28 : ∀ k : Nat, k < V.heap.size → v1.ownBlock ≠ some k → w6.heap[k]? = V.heap[k]? := (fun k hk hn => (g2.block k (by omega) (fun e => hn e.symm)).trans (h27 k hk))
          refine hK.out _ _ (HS.out _ (h28 _ (by omega) (fun e => (hg6 _ e).1 rfl)) (h28 _ hxV (fun e => (hg6 _ e).2.2 rfl))) (fun hHeld2 => ?_)
          clear hK K
          (try simp only [Act.put, List.setIfInBounds_toArray, List.set_cons_zero, List.set_cons_succ])
          refine wpAnyH_ready (rs := [9]) (by kernel_rfl) (by simp) ?_
          refine AllReadyH.cons (o := ⟨none, _, _, _, _, _⟩) rfl (fun K hK => ?_) AllReadyH.nil
          have hb6 := (h28 (W.heap.size + 2) (by omega) (fun e => (hg6 _ e).2.1 rfl)).trans HV.out
          have hc6 : w6.cell? ⟨W.heap.size + 2, 0, none⟩ = some v1 := blk_cell hb6 0 rfl
          have hf6 : w6.frozen? ⟨W.heap.size + 2, 0, none⟩ = false := by simp [World.frozen?, hb6]
          go_simp
          refine hK.out _ _ (HS.out _ ((Below.heap_setCell w6 ⟨W.heap.size + 2, 0, none⟩ _ _ (by show W.heap.size ≠ W.heap.size + 2; omega)).trans (h28 _ (by omega) (fun e => (hg6 _ e).1 rfl))) ((Below.heap_setCell w6 ⟨W.heap.size + 2, 0, none⟩ _ _ (by show xb ≠ W.heap.size + 2; intro e; exact hxM (e ▸ HA2.out.m2))).trans (h28 _ hxV (fun e => (hg6 _ e).2.2 rfl)))) (fun hHeld2 => ?_)
          clear hK K
          (try simp only [Act.put, List.setIfInBounds_toArray, List.set_cons_zero, List.set_cons_succ])
          refine wpAnyH_done (by kernel_rfl) ?_ _
        rotate_left
        focus
          have h27 : ∀ k : Nat, k < V.heap.size → (UD.alloc (.cells #[.pointer (some ⟨b, off + j * 4, none⟩)] 45)).heap[k]? = V.heap[k]? := (fun k hk => (Below.heap_alloc UD _ k (by omega)).trans (kD k))
          have q27 : (UD.alloc (.cells #[.pointer (some ⟨b, off + j * 4, none⟩)] 45)).cell? ⟨W.heap.size + 2, 0, none⟩ = some v1 := (World.cell?_of_block ((h27 (W.heap.size + 2) (by omega)).trans (kD (W.heap.size + 2)).symm)).trans qD
          have hz27 : (UD.alloc (.cells #[.pointer (some ⟨b, off + j * 4, none⟩)] 45)).heap.size = V.heap.size + 1 := (by rw [World.size_alloc, zD])
          go_simp
          refine hK.out _ _ (HS.out _ (h27 _ (by omega)) (h27 _ hxV)) (fun hHeld2 => ?_)
          clear hK K
          (try simp only [Act.put, List.setIfInBounds_toArray, List.set_cons_zero, List.set_cons_succ])
          refine wpAnyH_ready (rs := [0]) (by kernel_rfl) (by simp) ?_
          refine AllReadyH.cons (o := ⟨some 20, _, _, _, _, _⟩) rfl (fun K hK => ?_) AllReadyH.nil
          skip
          go_simp
          refine hK.out _ _ ((by assumption)) (fun hHeld2 => ?_)
          clear hK K
          (try simp only [Act.put, List.setIfInBounds_toArray, List.set_cons_zero, List.set_cons_succ])
          refine wpAnyH_ready (rs := [8]) (by kernel_rfl) (by simp) ?_
          refine AllReadyH.cons (o := ⟨some 28, _, _, _, _, _⟩) rfl (fun K hK => ?_) AllReadyH.nil
          have hr27 := owns_keep (w' := UD.alloc (.cells #[.pointer (some ⟨b, off + j * 4, none⟩)] 45)) rowD (fun g hg => (h27 g (HNB.out g hg).2.2.2.2.1).trans (kD g).symm)
          refine step_append_elem rfl _ _ 70 rfl 45 i0 (.pointer none) 1 8 Tryz.underlying70 hi0 hy0 hy1 hy2 rfl (by decide) W.heap.size _ mm uu rfl hr27 V.heap.size [.pointer (some ⟨b, off + j * 4, none⟩)] rfl (zD ▸ cell_new UD 45 [.pointer (some ⟨b, off + j * 4, none⟩)]) (by simp [Value.oneCell']) rfl hm1 (by decide) (by omega) ?_
          intro v6 w6 g1 g2 g3
          obtain ⟨a6, c6, rfl⟩ := owns_form g1
          have h28 : ∀ k : Nat, k < V.heap.size → v1.ownBlock ≠ some k → w6.heap[k]? = V.heap[k]? := (fun k hk hn => (g2.block k (by omega) (fun e => hn e.symm)).trans (h27 k hk))
          refine hK.out _ _ (HS.out _ (h28 _ (by omega) (fun e => (hg6 _ e).1 rfl)) (h28 _ hxV (fun e => (hg6 _ e).2.2 rfl))) (fun hHeld2 => ?_)
          clear hK K
          (try simp only [Act.put, List.setIfInBounds_toArray, List.set_cons_zero, List.set_cons_succ])
          refine wpAnyH_ready (rs := [9]) (by kernel_rfl) (by simp) ?_
          refine AllReadyH.cons (o := ⟨none, _, _, _, _, _⟩) rfl (fun K hK => ?_) AllReadyH.nil
          have hb6 := (h28 (W.heap.size + 2) (by omega) (fun e => (hg6 _ e).2.1 rfl)).trans HV.out
          have hc6 : w6.cell? ⟨W.heap.size + 2, 0, none⟩ = some v1 := blk_cell hb6 0 rfl
          have hf6 : w6.frozen? ⟨W.heap.size + 2, 0, none⟩ = false := by simp [World.frozen?, hb6]
          go_simp
          refine hK.out _ _ (HS.out _ ((Below.heap_setCell w6 ⟨W.heap.size + 2, 0, none⟩ _ _ (by show W.heap.size ≠ W.heap.size + 2; omega)).trans (h28 _ (by omega) (fun e => (hg6 _ e).1 rfl))) ((Below.heap_setCell w6 ⟨W.heap.size + 2, 0, none⟩ _ _ (by show xb ≠ W.heap.size + 2; intro e; exact hxM (e ▸ HA2.out.m2))).trans (h28 _ hxV (fun e => (hg6 _ e).2.2 rfl)))) (fun hHeld2 => ?_)
          clear hK K
          (try simp only [Act.put, List.setIfInBounds_toArray, List.set_cons_zero, List.set_cons_succ])
          refine wpAnyH_done (by kernel_rfl) ?_ _
        rotate_left
        all_goals
          obtain ⟨hs, hI⟩ := HG.out _ _ _ g1 g2 (by rcases g3 with g3 | g3; exact .inl g3; exact .inr (g3.trans (by rw [World.size_alloc, zD])))
          have hrd := hI.rd
          rw [hRd] at hrd
          exact ⟨hs, j, ⟨rfl, hrd.1⟩, hI⟩
      case done =>
        intro k M1 V hk0 HI hdef
        obtain rfl : k = 0 := by omega
        obtain ⟨v1, hv1, hrow1, hnb1⟩ := HI.row
        have hTl : (rest.map Nd.ptr).reverse.length + (((kidsAt b off xd.Args).map Nd.ptr).length - 0) = (kidsAt b off xd.Args ++ rest).length := by simp; omega
        have hTu : (rest.map Nd.ptr).reverse ++ (((kidsAt b off xd.Args).map Nd.ptr).drop 0).reverse = ((kidsAt b off xd.Args ++ rest).map Nd.ptr).reverse := by rw [List.drop_zero, ← List.reverse_append, ← List.map_append]
        rw [hTl, hTu] at hrow1
        have hmeas : (todo (⟨xb, xo, xd⟩ :: rest)).length = (todo (kidsAt b off xd.Args ++ rest)).length + 1 := by rw [todo_step ⟨xb, xo, xd⟩ rest b off]; rfl
        have htch := HI.tch
        have hpV := HI.bn
        have hvz := HI.sz
        have hVd : V0.heap.size < V.heap.size := (Array.getElem?_eq_some_iff.1 hdef).1
        have hM2 : ∀ k ∈ v1.ownBlock.toList ++ V0.heap.size :: M, k < V.heap.size := fun k hk => by
          rcases List.mem_append.1 hk with h | h
          · exact (hnb1 k (by simpa using h)).2.2.2.2.1
          rcases List.mem_cons.1 h with rfl | h
          · exact hVd
          · have := hMW k h; omega
        have hK4 := hK _ M (v1.ownBlock.toList ++ V0.heap.size :: M) W3 V hK3 htch (fun k hk => by
          rcases List.mem_append.1 hk with h | h
          · obtain ⟨q1, q2, q3, q4, q5, q6⟩ := hnb1 k (by simpa using h)
            exact ⟨by rcases q6 with q6 | q6; exact .inl q6; exact .inr (by omega), q5⟩
          rcases List.mem_cons.1 h with rfl | h
          · exact ⟨.inr (by omega), hVd⟩
          · exact ⟨.inl h, by have := hMW k h; omega⟩)
        have hDs : ∀ D ∈ Ds, V.heap[D]? = some (.deferred (some [])) := fun D hD => (HI.ds D hD).trans ((hsm.block D (HA2.out.mD D hD).1).trans (HA2.out.mD D hD).2.2)
        clear HI hI0 hR0 hRd0 hRk
        generalize kidsAt b off xd.Args ++ rest = T' at hrow1 hmeas hK4 hlen hK3
        cases T' with
        | nil =>
          obtain ⟨a1, c1, rfl⟩ := owns_form hrow1
          have hca : V.cell? ⟨W.heap.size + 2, 0, none⟩ = some (.slice a1 0 c1) := blk_cell hv1 0 rfl
          gi_wp2
          show LeavesInM _ _ _ _ _ _ (marks (V0.heap.size :: Ds)) _ _
          refine leaves_marks (by simp) (V0.heap.size :: Ds) V (List.nodup_cons.2 ⟨fun h => by have := (hDW _ h).2; omega, HA2.out.nd⟩) (fun E hE => ?_) (fun w4 ht hs => ?_)
          · rcases List.mem_cons.1 hE with rfl | hE
            · exact hdef
            · exact hDs E hE
          · refine ⟨_, results_none rfl _ _ _, ⟨_, rfl⟩, .inl ⟨[], _, by simp, hK [] _ _ V w4 hK4 (ht.sub fun k hk => ?_) (fun k hk => ⟨.inl hk, ?_⟩)⟩⟩
            · rcases List.mem_cons.1 hk with rfl | hk
              · simp
              · simp [(HA2.out.mD k hk).1]
            · rw [hs]
              exact hM2 k hk
        | cons y ys =>
          obtain ⟨a1, c1, rfl⟩ := owns_form hrow1
          rw [List.map_cons, List.reverse_cons] at hrow1
          obtain ⟨g, rfl⟩ : ∃ g, a1 = some ⟨g, 0, none⟩ := by
            rcases hrow1.2 with ⟨h0, h1⟩ | ⟨g, cap, cur, e, _⟩
            · simp at h1
            · injection e with e _ _
              exact ⟨g, e⟩
          obtain ⟨hrow2, hcy, hc1, hfy⟩ := owns_pop hrow1
          have hyN : ys.length + 1 ≤ N := hlen
          have hcn : V.cell? ⟨W.heap.size, 0, none⟩ = some (.pointer (some ⟨xb, xo, none⟩)) := blk_cell hpV 0 rfl
          have hfn : V.frozen? ⟨W.heap.size, 0, none⟩ = false := by simp [World.frozen?, hpV]
          have hfa : V.frozen? ⟨W.heap.size + 2, 0, none⟩ = false := by simp [World.frozen?, hv1]
          obtain ⟨mm, hmm⟩ : ∃ mm, mm = ys.length + 1 := ⟨_, rfl⟩
          obtain ⟨yl, hyl⟩ : ∃ yl, yl = ys.length := ⟨_, rfl⟩
          have hca : V.cell? ⟨W.heap.size + 2, 0, none⟩ = some (.slice (some ⟨g, 0, none⟩) mm c1) := by rw [hmm]; exact blk_cell hv1 0 rfl
          have hsub : wrap64 ((mm : Int) - 1) = (yl : Int) := by
            rw [hmm, hyl, show ((ys.length + 1 : Nat) : Int) - 1 = (ys.length : Int) by omega]
            exact wrap_len (Nat.le_trans (Nat.le_of_succ_le hyN) hN)
          have hw0 : (0 : Int) ≤ (yl : Int) := Int.natCast_nonneg _
          have hlt : yl < mm := by omega
          have hle : yl ≤ c1 := by omega
          obtain ⟨yb, yo, yd⟩ := y
          have hcy2 : V.cell? ⟨g, yl, none⟩ = some (.pointer (some ⟨yb, yo, none⟩)) := by rw [hyl]; exact hcy
          have HREST := Lib.hid (And.intro hrow2 (And.intro hK4 (And.intro hM2 (And.intro hDs (And.intro hmeas (And.intro hdef (And.intro (hnb1 g rfl) (And.intro hlen (And.intro hyl (And.intro hvz (And.intro hpV (And.intro hv1 hVd))))))))))))
          have hgl : g ≠ W.heap.size := (hnb1 g rfl).1
          have hga : g ≠ W.heap.size + 2 := (hnb1 g rfl).2.1
          clear hrow1 hrow2 hK4 hM2 hDs hmeas hdef hv1 hpV hpa hpn hrow3 hb0 hbs htch e0 e1 e2 e3 hkl hTl hTu hK3 hargs hA hRd hsm hnb1 hlen hyN hyl hmm hcy hc1 hfy hvz hVd hk0
          gi_wp2
          refine wpIn_wide.2 ?_
          go_region
          rename_i KK hKK
          refine hKK _ _ (wpIn_goto ?_)
          obtain ⟨hrow2, hK4, hM2, hDs, hmeas, hdef, hnb, hlen, hyl, hvz, hpV, hv1, hVd⟩ := HREST.out
          subst hyl
          refine ⟨rfl, (todo (⟨yb, yo, yd⟩ :: ys)).length, ⟨⟨yb, yo, yd⟩, ys, (Value.slice (some ⟨g, 0, none⟩) ((⟨yb, yo, yd⟩ : Nd) :: ys).length c1).ownBlock.toList ++ V0.heap.size :: M, V0.heap.size :: Ds, .slice (some ⟨g, 0, none⟩) ys.length c1, slotsJ _ _ _ _ _ _ _ _ _ _ _ _ _ _ _ _ _ _ _ _ _ _ _ _ _ _ _ _ _ _ _ _ _ _ _ _ _ _ _ _ _ _, rfl, ?_⟩, by rw [hmeas]; exact Nat.lt_succ_self _⟩
          exact at_next hK hK4 hM2 hDs hdef hnb hlen hpV hv1 hVd hrow2 hMW hz0 hlo HA2.out
      case stop =>
        intro c' M1 V h _
        exact h.elim
    · have A1 := HA.out
      gi_wp2
      show LeavesInM _ _ _ _ _ _ (marks Ds) _ _
      refine leaves_marks (by simp) Ds W3 A1.nd (fun D hD => (hsm.block D (A1.mD D hD).1).trans (A1.mD D hD).2.2) (fun w4 ht hs => ?_)
      refine ⟨_, results_none rfl _ _ _, ⟨_, rfl⟩, .inr ⟨M, hKx () M M W3 w4 hx3 (ht.sub fun k hk => by simpa using (A1.mD k hk).1) (fun k hk => ⟨.inl hk, by have := (A1.mw k hk).2; have := hsm.size; omega⟩)⟩⟩
end Go.Proofs.YtmdmkdjeaffhaaaGreatDoor
