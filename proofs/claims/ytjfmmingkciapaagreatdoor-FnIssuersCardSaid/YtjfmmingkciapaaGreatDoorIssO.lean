/- Issuers (chapter 8): a slice of issuers that came in reads as a list. No condition. -/
import Derived.Test.YtjfmmingkciapaaGreatDoorIssT
import Derived.Test.YtjfmmingkciapaaGreatDoorRowO
namespace Go.Proofs.YtjfmmingkciapaaGreatDoor
open Go.ChangeShapes Go.WideShapes Go.ChangeAt Go.RowKit Go.Deep
set_option linter.unusedVariables false

section
variable {H : Type} {enc : TypeId × Value → H} {P : Program} {w : World} {base : Nat}
theorem Leaf.ints {t e : TypeId} {k : IntKind} {v : Value} (ht : P.underlying t = some (.slice e)) (he : P.underlying e = some (.int k)) (hc : P.cellsOf e = 1) (h : Leaf enc P w base (fun _ => true) true t v) : ∃ ks, Row k w w.heap.size v ks := by
  obtain ⟨m, y, hy⟩ := h
  have hv : ∃ a l c, v = .slice a l c := by
    rcases DataW.trod_slice ht hy with ⟨h1, _⟩ | ⟨a, len, cap, elems, rest, m, _, h1, _⟩
    · exact ⟨_, _, _, by simpa using h1⟩
    · exact ⟨_, _, _, by simpa using h1⟩
  obtain ⟨a, l, c, rfl⟩ := hv
  obtain ⟨zs, hz⟩ := isRow_of (base := base) (fuel := m) (a := a) (l := l) (c := c) (x := y) ht he hc (by simpa [Value.cells] using hy)
  exact ⟨zs.take l, hz.row.1⟩
end
/-- One issuer that came in by value. -/
theorem issuer_of_leaves {H : Type} {enc : TypeId × Value → H} {P : Program} {w : World} {base : Nat} {ti ts : TypeId} (hi : P.underlying ti = some (.int .i64)) (hs : P.underlying ts = some (.slice ti)) (hc : P.cellsOf ti = 1) {vs : List Value} (h : Leaves (Leaf enc P w base (fun _ => true) true) [ti, ts, ti] vs) :
    ∃ (i s : Int) (kv : Value) (ks : List Int), Value.agg vs.toArray = .agg #[.int .i64 i, kv, .int .i64 s] ∧ (Lit.int .i64 i).wf = true ∧ (Lit.int .i64 s).wf = true ∧ Row .i64 w w.heap.size kv ks := by
  match vs, h with
  | [v0, v1, v2], ⟨l0, l1, l2, _⟩ =>
    obtain ⟨i, rfl, w0⟩ := l0.int hi
    obtain ⟨ks, hr⟩ := l1.ints hs hi hc
    obtain ⟨s, rfl, w2⟩ := l2.int hi
    exact ⟨i, s, v1, ks, rfl, w0, w2, hr⟩
def IssuerD.wf (x : IssuerD) : Prop := (Lit.int .i64 x.Id).wf = true ∧ (Lit.int .i64 x.Secret).wf = true
def issH (p : IssuerD × Value) : List Value := [.int .i64 p.1.Id, p.2, .int .i64 p.1.Secret]
theorem rows_of {w : World} {hi : Nat} {v : Value} (ps : List (IssuerD × Value)) (h : RowC 3 w hi v ps.length (ps.flatMap issH)) (hr : ∀ p ∈ ps, Row .i64 w hi p.2 p.1.Kinds) : RowIssuer w hi v (ps.map Prod.fst) := by
  refine ⟨ps.map issH, by simp, ?_, fun i c x hc hx => ?_⟩
  · rw [List.length_map, ← List.flatMap_def]
    exact h
  · rw [List.getElem?_map] at hc hx
    cases hp : ps[i]? with
    | none => rw [hp] at hc; cases hc
    | some p =>
      rw [hp] at hc hx
      obtain rfl := Option.some.inj hc
      obtain rfl := Option.some.inj hx
      exact ⟨p.2, rfl, hr p (List.mem_of_getElem? hp)⟩
theorem rowIss_of {H : Type} {enc : TypeId × Value → H} {P : Program} {w : World} {base : Nat} {fuel : Nat} {t e ti ts : TypeId} {a : Option Addr} {l c : Nat} {d : DataW H × List MemPlace}
    (n : Nat) (ht : P.underlying t = some (.slice e)) (hf : flatT P n e = some [(0, ti), (1, ts), (2, ti)]) (hC : P.cellsOf e = 3) (hi : P.underlying ti = some (.int .i64)) (hs : P.underlying ts = some (.slice ti)) (hc : P.cellsOf ti = 1)
    (h : DataW.trod enc P w base (fun _ => true) true fuel t (Value.cells (.slice a l c)).toList = some d) :
    ∃ xs : List IssuerD, l = xs.length ∧ RowIssuer w w.heap.size (.slice a l c) xs ∧ ∀ x ∈ xs, x.wf := by
  obtain ⟨ps, h1, h2, h3⟩ := rowC_of (f := issH) (wf := fun p : IssuerD × Value => p.1.wf ∧ Row .i64 w w.heap.size p.2 p.1.Kinds) (ts := [ti, ts, ti]) (s := 3) n ht hf hC rfl (by decide) (fun _ => rfl) (fun vs lv => by
    match vs, lv with
    | [v0, v1, v2], ⟨l0, l1, l2, _⟩ =>
      obtain ⟨i, rfl, w0⟩ := l0.int hi
      obtain ⟨ks, hr⟩ := l1.ints hs hi hc
      obtain ⟨s, rfl, w2⟩ := l2.int hi
      exact ⟨(⟨i, ks, s⟩, v1), rfl, ⟨w0, w2⟩, hr⟩) h
  refine ⟨ps.map Prod.fst, by rw [h1, List.length_map], rows_of ps h2 fun p hp => (h3 p hp).2, fun x hx => ?_⟩
  obtain ⟨p, hp, rfl⟩ := List.mem_map.1 hx
  exact (h3 p hp).1
end Go.Proofs.YtjfmmingkciapaaGreatDoor
