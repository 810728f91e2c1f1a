/- Conditions (chapter 15): the iterator over a condition's nodes: what it keeps while it lays a node's arguments ahead. No condition but the bounds of what came in. -/
import Derived.Test.YtmdmkdjeaffhaaaGreatDoorNode2
import Derived.Test.YtmdmkdjeaffhaaaGreatDoorGrow
import Derived.Test.YtmdmkdjeaffhaaaGreatDoorCellS
namespace Go.Proofs.YtmdmkdjeaffhaaaGreatDoor
open Go.ChangeShapes Go.WideShapes Go.ChangeAt Go.RowKit Go.Shelf
set_option linter.unusedVariables false
attribute [local go_sem] Oper.semAt_some

/-- Where the iterator stands at its label: node x, the others ahead. -/
structure AtN (K : List Nd → List Nat → World → Prop) (W : World) (N : Nat) (x : Nd) (rest : List Nd) (M Ds : List Nat) (v : Value) (w' : World) : Prop where
  k : K (x :: rest) M w'
  size : W.heap.size + 3 ≤ w'.heap.size
  len : rest.length + 1 ≤ N
  bn : w'.heap[W.heap.size]? = some (.cells #[x.ptr] 45)
  ba : w'.heap[W.heap.size + 2]? = some (.cells #[v] 70)
  row : w'.ownsRow W.heap.size 45 1 v rest.length (rest.map Nd.ptr).reverse
  nb : ∀ g, v.ownBlock = some g → g ∈ M ∧ g ≠ W.heap.size ∧ g ≠ W.heap.size + 2 ∧ g ∉ Ds
  m1 : W.heap.size ∈ M
  m2 : W.heap.size + 2 ∈ M
  mD : ∀ D ∈ Ds, D ∈ M ∧ W.heap.size + 3 ≤ D ∧ w'.heap[D]? = some (.deferred (some []))
  nd : Ds.Nodup
  mw : ∀ k ∈ M, W.heap.size ≤ k ∧ k < w'.heap.size
theorem owns_keep {w w' : World} {lo s n : Nat} {E : TypeId} {v : Value} {us : List Value} (h : w.ownsRow lo E s v n us) (hb : ∀ g, v.ownBlock = some g → w'.heap[g]? = w.heap[g]?) : w'.ownsRow lo E s v n us := by
  refine ⟨h.1, ?_⟩
  rcases h.2 with hn | ⟨g, cap, cur, rfl, g1, g2, rest⟩
  · exact .inl hn
  · exact .inr ⟨g, cap, cur, rfl, g1, (hb g rfl).trans g2, rest⟩
/-- Within a round's own loop: the arguments from k on are laid ahead. -/
structure InB (lo : Nat) (W3 : World) (M Ds : List Nat) (xp : Value) (base ks : List Value) (Rd : World → Prop) (D : Nat) (k : Nat) (M' : List Nat) (V : World) : Prop where
  kl : k ≤ ks.length
  tch : Touch M W3 V
  bn : V.heap[lo]? = some (.cells #[xp] 45)
  row : ∃ v, V.heap[lo + 2]? = some (.cells #[v] 70) ∧ V.ownsRow lo 45 1 v (base.length + (ks.length - k)) (base ++ (ks.drop k).reverse) ∧ ∀ g, v.ownBlock = some g → g ≠ lo ∧ g ≠ lo + 2 ∧ g ∉ Ds ∧ g ∉ M' ∧ g < V.heap.size ∧ (g ∈ M ∨ D + 2 ≤ g)
  rd : Rd V
  sz : D ≤ V.heap.size
  ds : ∀ d ∈ Ds, V.heap[d]? = W3.heap[d]?
/-- What a round reads lies below D, in none of the iterator's blocks. -/
def RdKeeps (M : List Nat) (D lo : Nat) (Rd : World → Prop) : Prop := ∀ A B : World, Rd A → (∀ k, k < D → k ∉ M → B.heap[k]? = A.heap[k]?) → Rd B
section
variable {lo D k : Nat} {W3 V B : World} {M Ds M' M'' : List Nat} {xp : Value} {base ks : List Value} {Rd : World → Prop}
theorem InB.abides (h : InB lo W3 M Ds xp base ks Rd D k M' V) (hR : RdKeeps M D lo Rd) (hlo : lo + 3 ≤ W3.heap.size) (hD : W3.heap.size + 1 = D) (hMW : ∀ k ∈ M, k < W3.heap.size) (hDs : ∀ d ∈ Ds, lo + 3 ≤ d ∧ d < W3.heap.size) (hM : ∀ k ∈ M', D + 2 ≤ k) (ht : Touch (D :: (D + 1) :: M') V B) (hm : ∀ k ∈ M'', (k ∈ M' ∨ V.heap.size ≤ k) ∧ k < B.heap.size) : InB lo W3 M Ds xp base ks Rd D k M'' B := by
  have hz := h.sz
  have hk : ∀ k, k < D → B.heap[k]? = V.heap[k]? := fun k hk => ht.block k (by omega) fun hk2 => by
    rcases List.mem_cons.1 hk2 with rfl | hk2
    · omega
    rcases List.mem_cons.1 hk2 with rfl | hk2
    · omega
    · have := hM k hk2; omega
  refine ⟨h.kl, ?_, (hk lo (by omega)).trans h.bn, ?_, hR V B h.rd (fun k h1 _ => hk k h1), Nat.le_trans h.sz ht.size, fun d hd => (hk d (by have := (hDs d hd).2; omega)).trans (h.ds d hd)⟩
  · exact ⟨ht.os.trans h.tch.os, ht.tape.trans h.tch.tape, ht.output.trans h.tch.output, Nat.le_trans h.tch.size ht.size, fun k h1 h2 => (hk k (by omega)).trans (h.tch.block k h1 h2)⟩
  · obtain ⟨v, h1, h2, h3⟩ := h.row
    have hg : ∀ g, v.ownBlock = some g → B.heap[g]? = V.heap[g]? := fun g hg => by
      obtain ⟨_, _, _, g4, g5, g6⟩ := h3 g hg
      refine ht.block g g5 fun hk2 => ?_
      have : g ≠ D ∧ g ≠ D + 1 := by
        rcases g6 with g6 | g6
        · have := hMW g g6; omega
        · omega
      rcases List.mem_cons.1 hk2 with e | hk2
      · exact this.1 e
      rcases List.mem_cons.1 hk2 with e | hk2
      · exact this.2 e
      · exact g4 hk2
    refine ⟨v, (hk (lo + 2) (by omega)).trans h1, owns_keep h2 hg, fun g hg2 => ?_⟩
    obtain ⟨g1, g2, g3, g4, g5, g6⟩ := h3 g hg2
    refine ⟨g1, g2, g3, fun hk2 => ?_, Nat.lt_of_lt_of_le g5 ht.size, g6⟩
    rcases (hm g hk2).1 with h | h
    · exact g4 h
    · omega
/-- Behind a round: one argument more is ahead. -/
theorem InB.step {v v6 p : Value} {w6 : World} {o : Obj} (h : InB lo W3 M Ds xp base ks Rd D (k + 1) M' V) (hR : RdKeeps M D lo Rd) (hlo : lo + 3 ≤ W3.heap.size) (hD : W3.heap.size + 1 = D) (hMW : ∀ k ∈ M, k < W3.heap.size) (hM : ∀ k ∈ M', D + 2 ≤ k ∧ k < V.heap.size) (hz : D + 2 ≤ V.heap.size)
    (hloM : lo ∈ M ∧ lo + 2 ∈ M) (hDs : ∀ d ∈ Ds, lo + 3 ≤ d ∧ d < W3.heap.size) (hp : ks[k]? = some p) (h1 : V.heap[lo + 2]? = some (.cells #[v] 70)) (h3 : ∀ g, v.ownBlock = some g → g ≠ lo ∧ g ≠ lo + 2 ∧ g ∉ Ds ∧ g ∉ M' ∧ g < V.heap.size ∧ (g ∈ M ∨ D + 2 ≤ g))
    (g1 : w6.ownsRow lo 45 1 v6 (base.length + (ks.length - (k + 1)) + 1) (base ++ (ks.drop (k + 1)).reverse ++ [p])) (g2 : (V.drew.alloc o).grownBy w6 v.ownBlock) (g3 : v6.ownBlock = v.ownBlock ∨ v6.ownBlock = some (V.heap.size + 1)) :
    Same (D :: (D + 1) :: M') V (w6.setCell ⟨lo + 2, 0, none⟩ v6) ∧ InB lo W3 M Ds xp base ks Rd D k M' (w6.setCell ⟨lo + 2, 0, none⟩ v6) := by
  have hsz : V.heap.size + 1 ≤ w6.heap.size := by have := g2.size; simpa using this
  have hk6 : ∀ j, j < V.heap.size → v.ownBlock ≠ some j → w6.heap[j]? = V.heap[j]? := fun j hj hn =>
    (g2.block j (by simp; omega) fun e => hn e.symm).trans (Below.heap_alloc V.drew o j hj)
  have hk : ∀ j, j < V.heap.size → v.ownBlock ≠ some j → j ≠ lo + 2 → (w6.setCell ⟨lo + 2, 0, none⟩ v6).heap[j]? = V.heap[j]? := fun j hj hn hl =>
    (Below.heap_setCell w6 ⟨lo + 2, 0, none⟩ v6 j hl).trans (hk6 j hj hn)
  have hl : lo + 2 < V.heap.size := by omega
  have hv2 : v.ownBlock ≠ some (lo + 2) := fun e => (h3 _ e).2.1 rfl
  have hs7 : (w6.setCell ⟨lo + 2, 0, none⟩ v6).heap.size = w6.heap.size := by simp [World.setCell]
  have hnv : ∀ j, j < D → j ∉ M → v.ownBlock ≠ some j := fun j hj hn e => by
    rcases (h3 j e).2.2.2.2.2 with h | h
    · exact hn h
    · omega
  refine ⟨⟨by rw [hs7]; omega, fun j hj => ?_⟩, ⟨by have := h.kl; omega, ?_, ?_, ⟨v6, ?_, ?_, ?_⟩, ?_, by rw [hs7]; omega, fun d hd => ?_⟩⟩
  · have hj2 : j < V.heap.size ∧ D ≤ j ∧ v.ownBlock ≠ some j := by
      rcases List.mem_cons.1 hj with rfl | hj
      · exact ⟨by omega, by omega, fun e => by
          rcases (h3 _ e).2.2.2.2.2 with h | h
          · have := hMW _ h; omega
          · omega⟩
      rcases List.mem_cons.1 hj with rfl | hj
      · exact ⟨by omega, by omega, fun e => by
          rcases (h3 _ e).2.2.2.2.2 with h | h
          · have := hMW _ h; omega
          · omega⟩
      · exact ⟨(hM j hj).2, by have := (hM j hj).1; omega, fun e => (h3 j e).2.2.2.1 hj⟩
    exact hk j hj2.1 hj2.2.2 (by omega)
  · refine ⟨g2.os.trans h.tch.os, g2.tape.trans h.tch.tape, g2.output.trans h.tch.output, by rw [hs7]; have := h.tch.size; omega, fun j h4 h5 => ?_⟩
    exact (hk j (by have := h.tch.size; omega) (hnv j (by omega) h5) (by rintro rfl; exact h5 hloM.2)).trans (h.tch.block j h4 h5)
  · exact (hk lo (by omega) (fun e => (h3 _ e).1 rfl) (by omega)).trans h.bn
  · have h6 := (hk6 (lo + 2) hl hv2).trans h1
    simp [World.setCell, Array.getElem?_modify, h6]
  · have hl2 : k < ks.length := (List.getElem?_eq_some_iff.1 hp).1
    have e1 : (ks.drop (k + 1)).reverse ++ [p] = (ks.drop k).reverse := by
      obtain ⟨h1, h2⟩ := List.getElem?_eq_some_iff.1 hp
      rw [List.drop_eq_getElem_cons h1, h2, List.reverse_cons]
    rw [List.append_assoc, e1, show base.length + (ks.length - (k + 1)) + 1 = base.length + (ks.length - k) by omega] at g1
    refine owns_keep g1 fun g hg => Below.heap_setCell w6 ⟨lo + 2, 0, none⟩ v6 g ?_
    rcases g3 with g3 | g3
    · exact (h3 g (g3 ▸ hg)).2.1
    · rw [g3] at hg
      injection hg with hg
      show g ≠ lo + 2
      omega
  · intro g hg
    rw [hs7]
    rcases g3 with g3 | g3
    · obtain ⟨a1, a2, a3, a4, a5, a6⟩ := h3 g (g3 ▸ hg)
      exact ⟨a1, a2, a3, a4, by omega, a6⟩
    · have hg2 : g < w6.heap.size := by
        rcases g1.2 with ⟨h0, _⟩ | ⟨g', cap, cur, rfl, _, b2, _⟩
        · rw [h0] at hg; cases hg
        · have e : g' = g := by simpa [Value.ownBlock] using hg
          subst e
          exact (Array.getElem?_eq_some_iff.1 b2).1
      rw [g3] at hg
      injection hg with hg
      exact ⟨by omega, by omega, fun h => by have := (hDs g h).2; omega, fun h => by have := (hM g h).2; omega, hg2, .inr (by omega)⟩
  · exact hR V _ h.rd fun j h4 h5 => hk j (by omega) (hnv j h4 h5) (by rintro rfl; exact h5 hloM.2)
  · have := hDs d hd
    exact (hk d (by omega) (fun e => (h3 d e).2.2.1 hd) (by omega)).trans (h.ds d hd)
end
end Go.Proofs.YtmdmkdjeaffhaaaGreatDoor
