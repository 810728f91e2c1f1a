/- Revocations (chapter 11): contracts of the landed functions: a revocation is added. Condition: the numbers are integers of their type. -/
import Derived.Test.YtjfmmingkciapaaRevL
import Derived.Test.YtjfmmingkciapaaRevIns
namespace Go.Proofs.Ytjfmmingkciapaa
open Go.ChangeShapes Go.WideShapes Go.ChangeAt Go.RowKit Go.Maps
set_option linter.unusedVariables false

theorem flatR_set (m : Int) : ∀ {xs : List RevokedD} {i : Nat} {x : RevokedD}, xs[i]? = some x → (xs.flatMap RevokedD.cells).set (i * 2 + 1) (.int .i64 m) = (xs.set i ⟨x.Serial, m⟩).flatMap RevokedD.cells
  | [], i, x, h => by simp at h
  | y :: l, 0, x, h => by
    obtain rfl : y = x := by simpa using h
    rfl
  | y :: l, i + 1, x, h => by
    have h2 := flatR_set m (xs := l) (i := i) (x := x) (by simpa using h)
    rw [show (i + 1) * 2 + 1 = (i * 2 + 1) + 1 + 1 by omega]
    simp only [List.flatMap_cons, List.set_cons_succ]
    rw [← h2]
    rfl
theorem ownR_store {w : World} {lo hi g i cap : Nat} {xs : List RevokedD} {x : RevokedD} (m : Int) (h : OwnRevoked w lo hi (.slice (some ⟨g, 0, none⟩) xs.length cap) xs) (hx : xs[i]? = some x) :
    OwnRevoked (w.setCell ⟨g, i * 2 + 1, none⟩ (.int .i64 m)) lo hi (.slice (some ⟨g, 0, none⟩) xs.length cap) (xs.set i ⟨x.Serial, m⟩) := by
  have h2 := OwnC.setMany [.int .i64 m] (i * 2 + 1) h
  unfold OwnRevoked
  rw [List.length_set, ← flatR_set m hx]
  exact h2
set_option maxHeartbeats 8000000 in
set_option maxRecDepth 100000 in
theorem impl_with (w : World) (b0 hi c : Nat) (a : Option Addr) (xs : List RevokedD) (s t : Int) (hd : HasDir w b0 xs) (h : RowRevoked w hi (.slice a xs.length c) xs) (hh : hi ≤ w.heap.size) (hn : xs.length ≤ 1048576) (hasc : xs.Pairwise fun x y => x.Serial < y.Serial) (hs : (Lit.int .i64 s).wf = true) :
    Calls Try.prog 76 #[.agg #[.map (some b0), .slice a xs.length c], .agg #[.int .i64 s, .int .i64 t]] w fun e w' => ∃ u, e = .returned u ∧ OwnRevoked w' w.heap.size w'.heap.size u (addGo s t false xs) ∧ Below w.heap.size w w' := by
  obtain ⟨W, hW⟩ : ∃ W, W = ((w.alloc (.cells #[.map (some b0), .slice a xs.length c] 95)).alloc (.cells #[.int .i64 s, .int .i64 t] 99)) := ⟨_, rfl⟩
  have hb : Below w.heap.size w W := by rw [hW]; go_grown
  have hk : W.heap[w.heap.size]? = some (.cells #[.map (some b0), .slice a xs.length c] 95) := by
    rw [hW]
    exact blk_keep (C := w.heap.size + 1) (blk_new w _ _) ((Below.refl _ _).alloc (by simp) _) (Nat.lt_succ_self _)
  have hx : W.heap[w.heap.size + 1]? = some (.cells #[.int .i64 s, .int .i64 t] 99) := by
    rw [hW]
    exact blk_new_at _ _ (by simp)
  have hsW : W.heap.size = w.heap.size + 2 := by rw [hW]; simp
  have CC := Lib.hid (impl_copyRevoked W hi c a xs (h.below hb hh) (Nat.le_trans hh hb.size) hn)
  have CL := Lib.hid (fun (V : World) (hV : Below W.heap.size W V) => impl_lookUpR V b0 xs s ((hd.below hb hd.lt).below hV (by have := hd.lt; omega)) hs)
  have HASC := Lib.hid hasc
  obtain ⟨⟨x0, x1⟩, -⟩ := cls_2 hk
  have HX := Lib.hid hx
  have HK := Lib.hid hk
  have HB := Lib.hid hb
  clear h hd hk hx hb hasc
  go_enter Try.func76, Try.ntmps76
  go_upto_region 1 with fail
  rw [← hW]
  clear hW
  go_wp2_with fail
  refine CC.out.mono ?_
  rintro e u1 ⟨v, rfl, ho, b1⟩
  have HO := Lib.hid ho
  have hs1 := b1.size
  have CL1 := Lib.hid ((CL.out u1 b1).mono fun e w' h => (⟨h.1, h.2.symm⟩ : e = .returned (.int .i64 (findR xs s)) ∧ u1 = w'))
  have HX1 := Lib.hid (blk_keep HX.out b1 (blk_lt HX.out))
  have HK1 := Lib.hid (blk_keep HK.out b1 (blk_lt HK.out))
  have d1 := HB.out.trans (b1.mono HB.out.size)
  obtain ⟨⟨y0, y1⟩, -⟩ := cls_2 HK1.out
  obtain ⟨⟨z0, z1⟩, -⟩ := cls_2 HX1.out
  obtain ⟨_, A, cp, rfl, _⟩ := id ho.read
  clear ho CC CL x0 x1
  rcases findR_cases xs s with ⟨hq, -, hne⟩ | ⟨i, x, hq, hx, hxs, -⟩
  · rw [hq] at CL1
    have HNE := Lib.hid hne
    clear hq hne
    go_upto_region 4 with (go_at_call 119; refine CL1.out.mono ?_; rintro e u ⟨rfl, rfl⟩)
    have hrd := HO.out.read
    have hcp := (fun (V : World) (hV : Below u1.heap.size u1 V) => impl_placeOf V u1.heap.size cp A xs ⟨s, t⟩ (hrd.below hV (Nat.le_refl _)) hV.size hn HASC.out)
    simp only [RevokedD.val_mk] at hcp
    have CP := Lib.hid hcp
    clear hcp
    have CI := Lib.hid (fun (V : World) (vb k : Nat) (hV : Below u1.heap.size u1 V) (hvb : u1.heap.size ≤ vb) (hv : V.heap[vb]? = some (.cells #[.int .i64 s, .int .i64 t] 99)) (hk : k ≤ xs.length) =>
      impl_insert V w.heap.size u1.heap.size k vb (.slice A xs.length cp) xs ⟨s, t⟩ ((HO.out.below hV (Nat.le_refl _)).wide (by omega) (Nat.le_refl _)) hk hn (by have := hV.size; omega) hvb hv)
    have HG := Lib.hid (fun (k : Nat) hk h1 h2 => addGo_new s t (k := k) HNE.out HASC.out hk h1 h2)
    have hD : Below u1.heap.size u1 u1.drew := (Below.refl _ _).drew
    have hA : Below u1.heap.size u1 (u1.alloc (.cells #[.int .i64 s, .int .i64 t] 99)).drew := ((Below.refl _ _).alloc (Nat.le_refl _) _).drew
    have hN : (u1.alloc (.cells #[.int .i64 s, .int .i64 t] 99)).drew.heap[u1.heap.size]? = some (.cells #[.int .i64 s, .int .i64 t] 99) := blk_new u1 _ _
    have HN := Lib.hid hN
    have hltX := blk_lt HX1.out
    have hxA := cls_2 (blk_keep HX1.out hA hltX)
    have HXA := Lib.hid hxA
    clear hrd hN hxA
    go_region_with (first
      | (go_at_call 121; (first
          | (with_reducible refine (CP.out _ hD).mono ?_; rintro e2 u2 ⟨k, hk, rfl, ⟨g1, g2⟩, b2⟩; have d2 := hD.trans (b2.mono hD.size))
          | (with_reducible refine (CP.out _ hA).mono ?_; rintro e2 u2 ⟨k, hk, rfl, ⟨g1, g2⟩, b2⟩; have d2 := hA.trans (b2.mono hA.size); have hM := blk_keep HN.out b2 (blk_lt HN.out))); have HG2 := Lib.hid (HG.out k hk (fun j hj hjk => of_decide_eq_true (g1 j hj hjk)) (fun j hj hjk => of_decide_eq_false (g2 j hj hjk))); clear g1 g2 z0 z1; obtain ⟨⟨z0, z1⟩, -⟩ := cls_2 (blk_keep HX1.out d2 hltX))
      | (go_at_call 120; (first
          | (with_reducible refine (CI.out _ _ k d2 (Nat.le_refl _) hM hk).mono ?_; rintro e3 u3 ⟨v', rfl, o3, b3⟩; have d3 := d1.trans ((d2.mono (by omega)).trans b3))
          | (with_reducible refine (CI.out _ _ k (d2.alloc d2.size _) d2.size (blk_new _ _ _) hk).mono ?_; rintro e3 u3 ⟨v', rfl, o3, b3⟩; have d3 := d1.trans (((d2.alloc d2.size _).mono (by omega)).trans b3)))))
    all_goals
      have HO3 := Lib.hid o3
      have HD3 := Lib.hid d3
      clear o3 d3 b3 d2 b2 z0 z1 HG CI CP
      go_wp2
      go_ret
      exact ⟨_, rfl, by rw [HG2.out]; exact HO3.out, HD3.out⟩
  · rw [hq] at CL1
    have hi2 : i < xs.length := (List.getElem?_eq_some_iff.1 hx).1
    have hi3 : (i : Int) < (xs.length : Int) := by omega
    have hi4 : ((i : Int) == -1) = false := by simp
    have HG := Lib.hid (addGo_old s t hx hxs HASC.out)
    have HXI := Lib.hid hx
    obtain ⟨p0, p1⟩ := x
    dsimp only at HG hxs
    obtain ⟨m, hm⟩ : ∃ m, mn p1 t = m := ⟨_, rfl⟩
    rw [hm] at HG
    have CM := Lib.hid (fun V : World => show Calls Try.prog 123 #[.int .i64 p1, .int .i64 t] V fun e w' => e = .returned (.int .i64 m) ∧ Below V.heap.size V w' from hm ▸ impl_minB p1 t V)
    obtain ⟨g, cur, hA, hg0, hg1, hcur⟩ : ∃ g cur, A = some ⟨g, 0, none⟩ ∧ W.heap.size ≤ g ∧ g < u1.heap.size ∧ u1.heap[g]? = some (.cells cur 99) := by
      rcases HO.out.row.2 with ⟨e1, e2⟩ | ⟨g, cap, cur, e1, e2, e3, _⟩
      · omega
      · injection e1 with e1 _ _
        exact ⟨g, cur, e1, e2, HO.out.hi g (by rw [e1]; rfl), e3⟩
    subst hA
    obtain ⟨b, off, e0, r1, r2, HC⟩ := RowRevoked.at HO.out.read hx
    injection e0 with e0
    injection e0 with e1 e2
    subst e1 e2
    have HS := Lib.hid (fun (V : World) (hb' : Below u1.heap.size u1 V) => (⟨by have h9 := HC _ _ hg1 hb'; simpa only [Nat.zero_add] using h9, blk_frozen (blk_keep hcur hb' hg1) _, (cls_2 (blk_keep HX1.out hb' (blk_lt HX1.out))).1⟩ :
      (V.cell? ⟨g, i * 2, none⟩ = some (.int .i64 p0) ∧ V.cell? ⟨g, i * 2 + 1, none⟩ = some (.int .i64 p1)) ∧ V.frozen? ⟨g, i * 2 + 1, none⟩ = false ∧ V.cell? ⟨w.heap.size + 1, 0, none⟩ = some (.int .i64 s) ∧ V.cell? ⟨w.heap.size + 1, 1, none⟩ = some (.int .i64 t)))
    clear HC hcur hx hq hm
    go_upto_region 5 with (go_at_call 119; refine CL1.out.mono ?_; rintro e u ⟨rfl, rfl⟩)
    have hD : Below u1.heap.size u1 u1.drew := (Below.refl _ _).drew
    clear z0 z1
    obtain ⟨⟨z0, z1⟩, f1, y2, y3⟩ := HS.out _ hD
    go_region_with (first
      | (go_at_call 123; (with_reducible refine (CM.out _).mono ?_); rintro e2 u2 ⟨rfl, b2⟩; have d2 := hD.trans (b2.mono hD.size); clear z0 z1 f1 y2 y3; obtain ⟨⟨z0, z1⟩, f1, y2, y3⟩ := HS.out _ d2))
    all_goals
      have hO := ownR_store (hi := u2.heap.size) m ((HO.out.below d2 (Nat.le_refl _)).wide (Nat.le_refl _) d2.size) HXI.out
      have hF : Below w.heap.size w (u2.setCell ⟨g, i * 2 + 1, none⟩ (.int .i64 m)) := (d1.trans (d2.mono d1.size)).setCell (p := ⟨g, i * 2 + 1, none⟩) (by show w.heap.size ≤ g; omega) _
      have hz : (u2.setCell ⟨g, i * 2 + 1, none⟩ (.int .i64 m)).heap.size = u2.heap.size := by simp
      have HO3 := Lib.hid hO
      have HF3 := Lib.hid hF
      have HZ := Lib.hid hz
      clear hO hF hz z0 z1 f1 y2 y3
      go_wp2
      go_ret
      refine ⟨_, rfl, ?_, HF3.out⟩
      rw [HG.out, HZ.out]
      subst hxs
      exact HO3.out.wide (by omega) (Nat.le_refl _)
end Go.Proofs.Ytjfmmingkciapaa
