/- Conditions (chapter 15): a copy that is made while a range over its nodes runs: what is the call's own once all nodes that are ahead are. No condition. -/
import Derived.Test.YtoeiampanchabaaNode5
namespace Go.Proofs.Ytoeiampanchabaa
open Go.ChangeShapes Go.WideShapes Go.ChangeAt Go.RowKit
set_option linter.unusedVariables false

theorem cell_blk {w : World} {k j : Nat} {cs : Array Value} {E : TypeId} {u : Value} (h : w.heap[k]? = some (.cells cs E)) (hc : w.cell? ⟨k, j, none⟩ = some u) : cs[j]? = some u := by
  unfold World.cell? at hc
  rw [h] at hc
  simpa using hc
/-- The node is the call's own: it reads so, and f are the blocks that it reaches. -/
def ownsAt (W : World) (x : Nd) (f : List Nat) : Prop := ∃ v, W.cell? ⟨x.b, x.off, none⟩ = some (.int .i64 x.d.Op) ∧ W.cell? ⟨x.b, x.off + 1, none⟩ = some (.int .i64 x.d.A) ∧ W.cell? ⟨x.b, x.off + 2, none⟩ = some (.int .i64 x.d.B) ∧ W.cell? ⟨x.b, x.off + 3, none⟩ = some v ∧
  owE W (CondD.c x.d) [.int .i64 x.d.Op, .int .i64 x.d.A, .int .i64 x.d.B, v] f
def Owns (W : World) : List Nd → List (List Nat) → Prop
  | [], [] => True
  | x :: T, f :: fs => ownsAt W x f ∧ Owns W T fs
  | [], _ :: _ => False
  | _ :: _, [] => False
theorem Owns.split {W : World} : ∀ {S T : List Nd} {fps : List (List Nat)}, Owns W (S ++ T) fps → ∃ a b, fps = a ++ b ∧ Owns W S a ∧ Owns W T b
  | [], T, fps, h => ⟨[], fps, rfl, trivial, h⟩
  | x :: S, T, [], h => h.elim
  | x :: S, T, f :: fs, h => by
    obtain ⟨a, b, rfl, h1, h2⟩ := Owns.split h.2
    exact ⟨f :: a, b, rfl, ⟨h.1, h1⟩, h2⟩
/-- The blocks Dl are as they were, but for the arguments of the nodes ahead. -/
def Fr (Dl : List Nat) (T : List Nd) (W W' : World) : Prop := ∀ k ∈ Dl, ∀ (cs : Array Value) (E : TypeId), W.heap[k]? = some (.cells cs E) → ∃ cs', W'.heap[k]? = some (.cells cs' E) ∧ cs'.size = cs.size ∧ ∀ j, (∀ y ∈ T, ¬ (y.b = k ∧ y.off + 3 = j)) → cs'[j]? = cs[j]?
/-- Whatever makes the nodes ahead the call's own makes the whole so. -/
def Wand (lo : Nat) (x0 : CondD) (Dl : List Nat) (T : List Nd) (W : World) : Prop := ∀ (W' : World) (fps : List (List Nat)), Fr Dl T W W' → Owns W' T fps → fps.flatten.Nodup → (∀ f ∈ fps.flatten, W.heap.size ≤ f ∧ f < W'.heap.size) → W.heap.size ≤ W'.heap.size →
  ∃ fp, ownsAt W' ⟨lo, 0, x0⟩ fp ∧ fp.Nodup ∧ ∀ k ∈ fp, k ∈ Dl ∨ k ∈ fps.flatten
theorem Wand.start (lo : Nat) (x0 : CondD) (W : World) : Wand lo x0 [lo] [⟨lo, 0, x0⟩] W := fun W' fps _ h nd _ _ => by
  match fps, h with
  | [f], ⟨h, _⟩ => exact ⟨f, h, by simpa using nd, fun k hk => .inr (by simpa using hk)⟩
  | f :: g :: fs, ⟨_, h⟩ => exact h.elim
  | [], h => exact h.elim
theorem Wand.keep {lo : Nat} {x0 : CondD} {Dl : List Nat} {T : List Nd} {A B : World} (h : Wand lo x0 Dl T A) (hs : A.heap.size ≤ B.heap.size) (hk : ∀ k ∈ Dl, B.heap[k]? = A.heap[k]?) : Wand lo x0 Dl T B := fun W' fps hF ho nd hr hz =>
  h W' fps (fun k hkD cs E hc => hF k hkD cs E ((hk k hkD).trans hc)) ho nd (fun f hf => ⟨Nat.le_trans hs (hr f hf).1, (hr f hf).2⟩) (Nat.le_trans hs hz)
theorem drop4 {α : Type} {l : List α} {i : Nat} {a b c d : α} (h0 : l[i]? = some a) (h1 : l[i + 1]? = some b) (h2 : l[i + 2]? = some c) (h3 : l[i + 3]? = some d) : l.drop i = a :: b :: c :: d :: l.drop (i + 4) := by
  obtain ⟨p0, e0⟩ := List.getElem?_eq_some_iff.1 h0
  obtain ⟨p1, e1⟩ := List.getElem?_eq_some_iff.1 h1
  obtain ⟨p2, e2⟩ := List.getElem?_eq_some_iff.1 h2
  obtain ⟨p3, e3⟩ := List.getElem?_eq_some_iff.1 h3
  rw [List.drop_eq_getElem_cons p0, e0, List.drop_eq_getElem_cons p1, e1, List.drop_eq_getElem_cons p2, e2, List.drop_eq_getElem_cons p3, e3]
theorem kids_own {W : World} {g : Nat} {cur : Array Value} {E : TypeId} (hg : W.heap[g]? = some (.cells cur E)) : ∀ (es : List CondD) (off : Nat) (fk : List (List Nat)), Owns W (kidsAt g off es) fk → owE W (es.flatMap CondD.c) ((cur.toList.drop off).take (es.length * 4)) fk.flatten
  | [], off, [], _ => by simp [owE_nil]
  | [], off, f :: fs, h => h.elim
  | e :: es, off, [], h => h.elim
  | e :: es, off, f :: fs, h => by
    obtain ⟨⟨v, h0, h1, h2, h3, ho⟩, h5⟩ := h
    have ih := kids_own hg es (off + 4) fs h5
    have q0 := cell_blk hg h0
    have q1 := cell_blk hg h1
    have q2 := cell_blk hg h2
    have q3 := cell_blk hg h3
    rw [drop4 (l := cur.toList) (i := off) (by rw [Array.getElem?_toList]; exact q0) (by rw [Array.getElem?_toList]; exact q1) (by rw [Array.getElem?_toList]; exact q2) (by rw [Array.getElem?_toList]; exact q3)]
    rw [List.length_cons, Nat.add_mul, Nat.one_mul, List.take_succ_cons, List.take_succ_cons, List.take_succ_cons, List.take_succ_cons, List.flatMap_cons, List.flatten_cons]
    exact ho.append ih
theorem kids_b {g off : Nat} {es : List CondD} {y : Nd} (h : y ∈ kidsAt g off es) : y.b = g ∧ ∃ k, y.off = off + k * 4 ∧ es[k]? = some y.d := by
  obtain ⟨k, hk⟩ := List.getElem?_of_mem h
  rw [kidsAt_at] at hk
  cases he : es[k]? with
  | none => rw [he] at hk; cases hk
  | some e =>
    rw [he] at hk
    simp only [Option.map_some, Option.some.injEq] at hk
    subst hk
    exact ⟨rfl, k, rfl, he⟩
theorem flatC_len : ∀ es : List CondD, (es.flatMap CondD.c).length = es.length * 4
  | [] => rfl
  | e :: es => by
    rw [List.flatMap_cons, List.length_append, CondD.c_len, flatC_len es, List.length_cons]
    omega
theorem Wand.step {lo : Nat} {x0 : CondD} {Dl : List Nat} {x : Nd} {rest : List Nd} {W Wc : World} {u v0 : Value} {us : List Value} (h : Wand lo x0 Dl (x :: rest) W)
    (c0 : W.cell? ⟨x.b, x.off, none⟩ = some (.int .i64 x.d.Op)) (c1 : W.cell? ⟨x.b, x.off + 1, none⟩ = some (.int .i64 x.d.A)) (c2 : W.cell? ⟨x.b, x.off + 2, none⟩ = some (.int .i64 x.d.B)) (c3 : W.cell? ⟨x.b, x.off + 3, none⟩ = some v0)
    (hwf : (Lit.int .i64 x.d.Op).wf = true ∧ (Lit.int .i64 x.d.A).wf = true ∧ (Lit.int .i64 x.d.B).wf = true)
    (hxD : x.b ∈ Dl) (hD : ∀ k ∈ Dl, k < W.heap.size) (hDc : ∀ k ∈ Dl, ∃ cs E, W.heap[k]? = some (.cells cs E)) (hr : ∀ y ∈ rest, y.b ∈ Dl) (hal : x.off % 4 = 0 ∧ ∀ y ∈ rest, y.off % 4 = 0) (hdis : ∀ y ∈ rest, ¬ (y.b = x.b ∧ y.off = x.off))
    (hc : Below W.heap.size W Wc) (hrow : Wc.ownsRow W.heap.size 26 4 u x.d.Args.length us) :
    ∃ (Dl1 : List Nat) (g : Nat), Wand lo x0 Dl1 (kidsAt g 0 x.d.Args ++ rest) (Wc.setCell ⟨x.b, x.off + 3, none⟩ u) ∧
      ((Dl1 = Dl ∧ x.d.Args = [] ∧ u = .slice none 0 0) ∨ (Dl1 = g :: Dl ∧ W.heap.size ≤ g ∧ g < Wc.heap.size ∧ ∃ cap, u = .slice (some ⟨g, 0, none⟩) x.d.Args.length cap ∧ x.d.Args.length ≤ cap ∧ ∀ j q, us[j]? = some q → Wc.cell? ⟨g, j, none⟩ = some q)) := by
  have hs1 : (Wc.setCell ⟨x.b, x.off + 3, none⟩ u).heap.size = Wc.heap.size := by simp [World.setCell]
  have hxl := hD _ hxD
  -- a block of Dl behind the store
  have hst : ∀ k ∈ Dl, ∀ cs E, W.heap[k]? = some (.cells cs E) → ∃ cs1, (Wc.setCell ⟨x.b, x.off + 3, none⟩ u).heap[k]? = some (.cells cs1 E) ∧ cs1.size = cs.size ∧ (∀ j, ¬ (x.b = k ∧ x.off + 3 = j) → cs1[j]? = cs[j]?) ∧ (x.b = k → cs1[x.off + 3]? = some u) := fun k hk cs E hcs => by
    have h1 : Wc.heap[k]? = some (.cells cs E) := (hc.block k (hD k hk)).trans hcs
    by_cases he : k = x.b
    · subst he
      refine ⟨cs.setIfInBounds (x.off + 3) u, by simp [World.setCell, Array.getElem?_modify, h1], by simp, fun j hj => ?_, fun _ => ?_⟩
      · rw [Array.getElem?_setIfInBounds_ne (fun e => hj ⟨rfl, e⟩)]
      · have := cell_blk hcs c3
        have hlt := (Array.getElem?_eq_some_iff.1 this).1
        simp [hlt]
    · exact ⟨cs, (Below.heap_setCell Wc ⟨x.b, x.off + 3, none⟩ u k he).trans h1, rfl, fun _ _ => rfl, fun e => absurd e.symm he⟩
  -- what a frame behind the step says of one ahead of it
  have hfr : ∀ (Dl1 : List Nat) (S : List Nd) (W' : World), (∀ k ∈ Dl, k ∈ Dl1) → (∀ y ∈ S, W.heap.size ≤ y.b) → Fr Dl1 (S ++ rest) (Wc.setCell ⟨x.b, x.off + 3, none⟩ u) W' →
      Fr Dl (x :: rest) W W' ∧ W'.cell? ⟨x.b, x.off, none⟩ = some (.int .i64 x.d.Op) ∧ W'.cell? ⟨x.b, x.off + 1, none⟩ = some (.int .i64 x.d.A) ∧ W'.cell? ⟨x.b, x.off + 2, none⟩ = some (.int .i64 x.d.B) ∧ W'.cell? ⟨x.b, x.off + 3, none⟩ = some u := fun Dl1 S W' hsub hS hF => by
    have hno : ∀ k ∈ Dl, ∀ j, (∀ y ∈ rest, ¬ (y.b = k ∧ y.off + 3 = j)) → ∀ y ∈ S ++ rest, ¬ (y.b = k ∧ y.off + 3 = j) := fun k hk j hj y hy hh => by
      rcases List.mem_append.1 hy with hy | hy
      · have := hS y hy; have := hD k hk; omega
      · exact hj y hy hh
    have hcx : ∀ j q, (∀ y ∈ rest, ¬ (y.b = x.b ∧ y.off + 3 = j)) → (∀ cs1 : Array Value, (∀ i, ¬ (x.b = x.b ∧ x.off + 3 = i) → ∀ q0, W.cell? ⟨x.b, i, none⟩ = some q0 → cs1[i]? = some q0) → cs1[x.off + 3]? = some u → cs1[j]? = some q) → W'.cell? ⟨x.b, j, none⟩ = some q := fun j q hj hcs1 => by
      obtain ⟨cs, E, hb⟩ := hDc x.b hxD
      obtain ⟨cs1, h1, h2, h3, h4⟩ := hst x.b hxD cs E hb
      obtain ⟨cs2, g1, g2, g3⟩ := hF x.b (hsub _ hxD) cs1 E h1
      refine blk_cell g1 j ?_
      rw [g3 j (hno x.b hxD j hj)]
      exact hcs1 cs1 (fun i hi q0 hq0 => by rw [h3 i hi]; exact cell_blk hb hq0) (h4 rfl)
    refine ⟨fun k hk cs E hcs => ?_, hcx _ _ (fun y hy hh => ?_) (fun cs1 g1 _ => g1 _ (by omega) _ c0), hcx _ _ (fun y hy hh => ?_) (fun cs1 g1 _ => g1 _ (by omega) _ c1), hcx _ _ (fun y hy hh => ?_) (fun cs1 g1 _ => g1 _ (by omega) _ c2), hcx _ _ (fun y hy hh => ?_) (fun cs1 _ g2 => g2)⟩
    · obtain ⟨cs1, h1, h2, h3, _⟩ := hst k hk cs E hcs
      obtain ⟨cs2, g1, g2, g3⟩ := hF k (hsub k hk) cs1 E h1
      refine ⟨cs2, g1, g2.trans h2, fun j hj => ?_⟩
      rw [g3 j (hno k hk j fun y hy => hj y (List.mem_cons_of_mem _ hy)), h3 j (hj x List.mem_cons_self)]
    · have := hal.2 y hy; have := hal.1; omega
    · have := hal.2 y hy; have := hal.1; omega
    · have := hal.2 y hy; have := hal.1; omega
    · exact hdis y hy ⟨hh.1, by omega⟩
  rcases hrow.2 with ⟨rfl, hn⟩ | ⟨g, cap, cur, rfl, g1, g2, g3, g4, g5, g6⟩
  · have he : x.d.Args = [] := List.length_eq_zero_iff.mp hn
    refine ⟨Dl, 0, ?_, .inl ⟨rfl, he, rfl⟩⟩
    rw [he]
    intro W' fps hF ho nd hrg hz
    obtain ⟨q0, q1, q2, q3, q4⟩ := hfr Dl [] W' (fun _ h => h) (fun y hy => by cases hy) hF
    obtain ⟨fp, a1, a2, a3⟩ := h W' ([] :: fps) q0 ⟨⟨_, q1, q2, q3, q4, by
      obtain ⟨xb, xo, ⟨o, a, b, es⟩⟩ := x
      obtain rfl : es = [] := he
      exact CondD.ow_mk hwf.1 hwf.2.1 hwf.2.2 (by unfold rowF owC; exact .inl ⟨rfl, rfl, rfl, rfl⟩)⟩, ho⟩ (by simpa using nd) (fun f hf => by
        have := hrg f (by simpa using hf)
        rw [hs1] at this
        exact ⟨by have := hc.size; omega, this.2⟩) (by rw [hs1] at hz; have := hc.size; omega)
    exact ⟨fp, a1, a2, fun k hk => by simpa using a3 k hk⟩
  · have hgl : g < Wc.heap.size := (Array.getElem?_eq_some_iff.1 g2).1
    have hgx : g ≠ x.b := by omega
    refine ⟨g :: Dl, g, ?_, .inr ⟨rfl, g1, hgl, cap, rfl, g3, fun j q hj => ?_⟩⟩
    · intro W' fps hF ho nd hrg hz
      obtain ⟨fk, fr, rfl, o1, o2⟩ := ho.split
      obtain ⟨q0, q1, q2, q3, q4⟩ := hfr (g :: Dl) (kidsAt g 0 x.d.Args) W' (fun _ h => List.mem_cons_of_mem _ h) (fun y hy => by rw [(kids_b hy).1]; exact g1) hF
      have hgW : (Wc.setCell ⟨x.b, x.off + 3, none⟩ (.slice (some ⟨g, 0, none⟩) x.d.Args.length cap)).heap[g]? = some (.cells cur 26) := (Below.heap_setCell Wc ⟨x.b, x.off + 3, none⟩ _ g hgx).trans g2
      obtain ⟨cur', r1, r2, r3⟩ := hF g List.mem_cons_self cur _ hgW
      have hko := kids_own r1 x.d.Args 0 fk o1
      rw [List.drop_zero] at hko
      rw [List.flatten_append] at nd hrg
      obtain ⟨n1, n2, n3⟩ := List.nodup_append.1 nd
      have hrg' : ∀ f ∈ fk.flatten ++ fr.flatten, Wc.heap.size ≤ f ∧ f < W'.heap.size := fun f hf => by have := hrg f hf; rwa [hs1] at this
      have hgn : g ∉ fk.flatten ++ fr.flatten := fun hh => by have := (hrg' g hh).1; omega
      have hgW' : g < W'.heap.size := (Array.getElem?_eq_some_iff.1 r1).1
      obtain ⟨fp, a1, a2, a3⟩ := h W' ((g :: fk.flatten) :: fr) q0 ⟨⟨_, q1, q2, q3, q4, by
        obtain ⟨xb, xo, ⟨o, a, b, es⟩⟩ := x
        refine CondD.ow_mk hwf.1 hwf.2.1 hwf.2.2 ?_
        unfold rowF owC
        refine .inr ⟨g, cap, cur', _, fk.flatten, rfl, g3, g4, r1, rfl, fun hn => ?_, ?_⟩
        · rw [List.length_eq_zero_iff.mp hn]
          rfl
        · have hl : (es.flatMap CondD.c).length = es.length * 4 := flatC_len es
          rw [hl]
          exact hko⟩, o2⟩ (by
          rw [List.flatten_cons, List.cons_append]
          exact List.nodup_cons.2 ⟨hgn, nd⟩) (fun f hf => by
          rw [List.flatten_cons, List.cons_append] at hf
          rcases List.mem_cons.1 hf with rfl | hf
          · exact ⟨g1, hgW'⟩
          · have := hrg' f hf; have := hc.size; omega) (by rw [hs1] at hz; have := hc.size; omega)
      refine ⟨fp, a1, a2, fun k hk => ?_⟩
      rcases a3 k hk with hk | hk
      · exact .inl (List.mem_cons_of_mem _ hk)
      · rw [List.flatten_cons, List.cons_append] at hk
        rcases List.mem_cons.1 hk with rfl | hk
        · exact .inl List.mem_cons_self
        · exact .inr (by rw [List.flatten_append]; exact hk)
    · refine blk_cell g2 j ?_
      rw [← g6] at hj
      have hjl : j < x.d.Args.length * 4 := by
        have := (List.getElem?_eq_some_iff.1 hj).1
        rw [List.length_take] at this
        omega
      rw [List.getElem?_take_of_lt hjl, Array.getElem?_toList] at hj
      exact hj
end Go.Proofs.Ytoeiampanchabaa
