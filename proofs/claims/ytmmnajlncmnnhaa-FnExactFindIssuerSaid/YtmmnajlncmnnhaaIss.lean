/- Issuers (chapter 8): mathematics, and contracts of the model. No condition but the bounds of what came in. -/
import Derived.Test.YtmmnajlncmnnhaaIssT
import Derived.Test.YtmmnajlncmnnhaaStores3
import Derived.Test.YtmmnajlncmnnhaaHash2
import Derived.Deep.QuietTactic
import Derived.BigQuiet
namespace Go.Proofs.Ytmmnajlncmnnhaa
open Go.ChangeShapes Go.WideShapes Go.ChangeAt Go.RowKit
set_option linter.unusedVariables false

def findI (xs : List IssuerD) (id : Int) : Int := firstI (fun x => decide (x.Id = id)) xs 0
set_option maxHeartbeats 4000000 in
theorem spec_findIssuer (w : World) (hi c : Nat) (a : Option Addr) (xs : List IssuerD) (id : Int) (h : RowIssuer w hi (.slice a xs.length c) xs) :
    Calls Try.prog 6 #[.slice a xs.length c, .int .i64 id] w fun e w' => e = .returned (.int .i64 (findI xs id)) ∧ w = w' := by
  obtain ⟨_, h1, h2⟩ := h.fits
  unfold maxLen at h2
  have H := Lib.hid h
  clear h
  go_enter Try.func6, Try.ntmps6
  go_wp2
  go_loopw [5] (fun i wr => ∃ n : Nat, n ≤ xs.length ∧ i = .int .i64 (n : Int) ∧ Hid (findI xs id = firstI (fun x => decide (x.Id = id)) (xs.drop n) (n : Int)) ∧ wr = w) (fun i _ => xs.length - (intOf i).toNat)
  case atStart => exact ⟨0, Nat.zero_le _, rfl, rfl, rfl⟩
  case round =>
    obtain ⟨n, hn, rfl, HF, rfl⟩ := hrel
    by_cases hlt : n < xs.length
    · obtain ⟨x, hx⟩ : ∃ x, xs[n]? = some x := ⟨_, List.getElem?_eq_getElem hlt⟩
      have hdr : xs.drop n = x :: xs.drop (n + 1) := by
        rw [List.drop_eq_getElem_cons hlt]
        rw [List.getElem?_eq_getElem hlt] at hx
        rw [Option.some.inj hx]
      have HS := Lib.hid (show findI xs id = if decide (x.Id = id) then (n : Int) else firstI (fun x => decide (x.Id = id)) (xs.drop (n + 1)) ((n + 1 : Nat) : Int) by rw [HF.out, hdr]; rfl)
      obtain ⟨p0, ks, p2⟩ := x
      obtain ⟨kv, b, off, _, rfl, r1, r2, HC⟩ := RowIssuer.at H.out hx
      obtain ⟨c0, c1, c2⟩ := HC _ _ r2 (Below.refl _ _)
      clear HC hx hdr HF
      dsimp only at HS
      by_cases hq : p0 = id
      · subst hq
        go_wp2
        go_ret
        exact ⟨ret_i (by rw [HS.out]; simp), by trivial⟩
      · have hd : (p0 == id) = false := by rw [beq_eq_false_iff_ne]; exact hq
        have HQ := Lib.hid hq
        clear hq
        go_wp2
        refine ⟨⟨n + 1, by omega, by go_num, ?_, by first | rfl | trivial⟩, by simp only [intOf]; omega⟩
        have h7 := HS.out
        rw [decide_eq_false HQ.out] at h7
        exact h7
    · go_wp2
      go_ret
      obtain rfl : n = xs.length := by omega
      have h7 := HF.out
      rw [List.drop_of_length_le (Nat.le_refl _)] at h7
      exact ⟨ret_i h7.symm, rfl⟩
/-- A fact's numbers, in their order. -/
def factL (f : FactD) : List Int := [f.Kind, f.Subject, f.Value, f.Issuer, f.At, f.Until]
theorem factL_wf {f : FactD} (h : f.wf) : ∀ x ∈ factL f, (Lit.int .i64 x).wf = true := by
  obtain ⟨h0, h1, h2, h3, h4, h5⟩ := h
  intro x hx
  simp only [factL, List.mem_cons, List.not_mem_nil, or_false] at hx
  rcases hx with rfl | rfl | rfl | rfl | rfl | rfl <;> assumption
/-- A literal list of integers. -/
theorem Own.lit (E : TypeId) (w : World) (xs : List Int) (hn : ∀ x ∈ xs, (Lit.int .i64 x).wf = true) (hl : xs.length ≤ maxLen) : Own E .i64 (w.alloc (.cells (xs.map (Value.int .i64)).toArray E)) w.heap.size (w.heap.size + 1) (.slice (some ⟨w.heap.size, 0, none⟩) xs.length xs.length) xs :=
  ⟨by simpa using World.ownsRow_lit (base := w.heap.size) (e := E) (size := 1) w (xs.map (Value.int .i64)).toArray xs.length (Nat.le_refl _) hl (by simp), fun k hk => by
    have : w.heap.size = k := by simpa [Value.ownBlock] using hk
    omega, hn⟩
theorem spec_factInts (w : World) (f : FactD) (hwf : f.wf) :
    Calls Try.prog 10 #[f.val] w fun e w' => ∃ u, e = .returned u ∧ Own 3 .i64 w' w.heap.size w'.heap.size u (factL f) ∧ Below w.heap.size w w' := by
  obtain ⟨q0, q1, q2, q3, q4, q5⟩ := f
  rw [FactD.val_mk]
  go_enter Try.func10, Try.ntmps10
  go_wp2
  go_ret
  refine ⟨_, rfl, ?_, by go_grown⟩
  have hO := Own.lit 3 (w.alloc (.cells #[.int .i64 q0, .int .i64 q1, .int .i64 q2, .int .i64 q3, .int .i64 q4, .int .i64 q5] 33)) (factL ⟨q0, q1, q2, q3, q4, q5⟩) (factL_wf hwf) (by show 6 ≤ maxLen; decide)
  have hz : (w.alloc (.cells #[.int .i64 q0, .int .i64 q1, .int .i64 q2, .int .i64 q3, .int .i64 q4, .int .i64 q5] 33)).heap.size = w.heap.size + 1 := by simp
  have h9 := hO.wide (lo' := w.heap.size) (hi' := w.heap.size + 1 + 1) (by omega) (by omega)
  rw [hz] at h9
  simpa [factL] using h9
/-- What an issuer's kinds ask at a place: in range, and above the one before. -/
def kindAt (ks : List Int) (i : Nat) : Bool := match ks[i]? with
  | none => true
  | some k => decide (1 ≤ k ∧ k ≤ 4) && (i == 0 || match ks[i - 1]? with
    | none => true
    | some j => decide (j < k))
def kindsTo (ks : List Int) (n : Nat) : Bool := (List.range n).all (kindAt ks)
theorem kindsTo_succ (ks : List Int) (n : Nat) : kindsTo ks (n + 1) = (kindsTo ks n && kindAt ks n) := by simp [kindsTo, List.range_succ]
theorem kindsTo_le {ks : List Int} {k n : Nat} (h : k ≤ n) (hk : kindsTo ks k = false) : kindsTo ks n = false := by
  rw [kindsTo, List.all_eq_false] at hk ⊢
  obtain ⟨x, hx, hy⟩ := hk
  exact ⟨x, List.mem_range.2 (Nat.lt_of_lt_of_le (List.mem_range.1 hx) h), hy⟩
def validKey (s : Int) : Bool := decide (1 ≤ s ∧ s ≤ 2147483646)
def issuerB (x : IssuerD) : Bool := kindsTo x.Kinds x.Kinds.length && (decide (0 ≤ x.Id ∧ x.Id ≤ 9) && validKey x.Secret)
end Go.Proofs.Ytmmnajlncmnnhaa
