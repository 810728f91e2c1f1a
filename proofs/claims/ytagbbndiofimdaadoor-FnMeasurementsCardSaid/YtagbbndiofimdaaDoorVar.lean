/- Plain mathematics of varints: what is encoded, what is decoded. No condition. -/
import Derived.Test.YtagbbndiofimdaaDoorShared
import Derived.Laws.BitsLemmas
namespace Go.Proofs.YtagbbndiofimdaaDoor
open Go.RowKit
set_option linter.unusedVariables false

/-- The groups of seven bits, the least first. -/
def uv (n : Nat) : List Int := if n < 128 then [(n : Int)] else ((n % 128 + 128 : Nat) : Int) :: uv (n / 128)
termination_by n
decreasing_by omega
/-- What AppendUvarint appends. -/
def enc (n : Int) : List Int := if 0 ≤ n ∧ n ≤ 1000000000000 then uv n.toNat else []
theorem uv_small {n : Nat} (h : n < 128) : uv n = [(n : Int)] := by rw [uv, if_pos h]
theorem uv_big {n : Nat} (h : ¬ n < 128) : uv n = ((n % 128 + 128 : Nat) : Int) :: uv (n / 128) := by rw [uv, if_neg h]
theorem uv_pos (n : Nat) : 1 ≤ (uv n).length := by
  by_cases h : n < 128
  · rw [uv_small h]; simp
  · rw [uv_big h]; simp
theorem uv_le (k n : Nat) (h : n < 128 ^ (k + 1)) : (uv n).length ≤ k + 1 := by
  induction k generalizing n with
  | zero => rw [uv_small (by simpa using h)]; simp
  | succ k ih =>
    by_cases h1 : n < 128
    · rw [uv_small h1]; simp
    · rw [uv_big h1]
      have := ih (n / 128) (by rw [Nat.pow_succ] at h; omega)
      simp only [List.length_cons]
      omega
theorem uv_wf (n : Nat) : ∀ x ∈ uv n, (Lit.int .u8 x).wf = true := by
  induction n using Nat.strongRecOn with
  | _ n ih =>
    by_cases h : n < 128
    · rw [uv_small h]
      intro x hx
      simp only [List.mem_cons, List.not_mem_nil, or_false] at hx
      subst hx
      exact wf_u8 (by omega) (by omega)
    · rw [uv_big h]
      intro x hx
      rcases List.mem_cons.1 hx with rfl | hx
      · exact wf_u8 (by omega) (by omega)
      · exact ih _ (by omega) x hx
theorem enc_wf (n : Int) : ∀ x ∈ enc n, (Lit.int .u8 x).wf = true := by
  unfold enc
  split
  · exact uv_wf _
  · intro x hx; cases hx
theorem enc_le (n : Int) : (enc n).length ≤ 6 := by
  unfold enc
  split
  · exact uv_le 5 _ (by omega)
  · simp

/-- What is read from a place on: the integer, and how many bytes it took. -/
def rd (fuel k n : Nat) (l : List Int) : Option (Nat × Nat) :=
  match fuel, l with
  | 0, _ => none
  | _, [] => none
  | f + 1, x :: r =>
    if x < 128 then (if (x = 0 ∧ 0 < k) ∨ 1000000000000 < n + x.toNat * 128 ^ k then none else some (n + x.toNat * 128 ^ k, k + 1))
    else rd f (k + 1) (n + (x.toNat % 128) * 128 ^ k) r
/-- What ReadUvarint answers. -/
def readOf (l : List Int) (at' : Int) : Option (Nat × Nat) := if 0 ≤ at' then (rd 6 0 0 (l.drop at'.toNat)).map fun p => (p.1, at'.toNat + p.2) else none

theorem and127 (n : Nat) (h : n < 9223372036854775808) : bits .and .i64 (n : Int) 127 = ((n % 128 : Nat) : Int) := by
  have h1 := bits_mask .i64 63 (by decide) (fun n h0 h1 => by rw [IntKind.wrap_i64]; omega) 7 (by decide) (n : Int) (by omega) (by omega)
  have e : ((2 : Int) ^ 7 - 1) = 127 := by decide
  have e2 : ((2 : Int) ^ 7) = 128 := by decide
  rw [e, e2] at h1
  rw [h1]
  omega
theorem or128 (n : Nat) (h : n < 128) : bits .or .i64 (n : Int) 128 = ((n + 128 : Nat) : Int) := by
  have h1 := (bits_nat .i64 63 (by decide) (fun n h0 h1 => by rw [IntKind.wrap_i64]; omega) n 128 (by omega) (by decide)).2
  have h2 : n ||| 128 = n + 128 := by
    have := Nat.two_pow_add_eq_or_of_lt (i := 7) (b := n) (by simpa using h) 1
    rw [Nat.or_comm]
    simpa [Nat.add_comm] using this.symm
  rw [h2] at h1
  exact h1
theorem or_shift (n m k : Nat) (hn : n < 128 ^ k) (hm : m < 128) (hk : k ≤ 5) : bits .or .i64 (n : Int) ((m * 128 ^ k : Nat) : Int) = ((n + m * 128 ^ k : Nat) : Int) := by
  have hp : 128 ^ k = 2 ^ (7 * k) := by rw [show (128 : Nat) = 2 ^ 7 from rfl, ← Nat.pow_mul]
  have hle : 128 ^ k ≤ 128 ^ 5 := Nat.pow_le_pow_right (by decide) hk
  have h5 : (128 : Nat) ^ 5 = 34359738368 := by decide
  have hmk : m * 128 ^ k ≤ 127 * 34359738368 := Nat.mul_le_mul (by omega) (by omega)
  have h1 := (bits_nat .i64 63 (by decide) (fun n h0 h1 => by rw [IntKind.wrap_i64]; omega) n (m * 128 ^ k) (by omega) (by omega)).2
  have h2 : n ||| m * 128 ^ k = n + m * 128 ^ k := by
    have := Nat.two_pow_add_eq_or_of_lt (i := 7 * k) (b := n) (by rw [← hp]; exact hn) m
    rw [Nat.or_comm, hp, Nat.mul_comm m, ← this, Nat.add_comm]
  rw [h2] at h1
  exact h1
/-- ReadUvarint's three results. -/
def readRes (r : Option (Nat × Nat)) : Value := match r with
  | some (n, nx) => .tuple #[.int .i64 (n : Int), .int .i64 (nx : Int), .bool true]
  | none => .tuple #[.int .i64 0, .int .i64 0, .bool false]
/-- Behind k bytes that go on: what is still to be read. -/
def readOn (l : List Int) (A k n : Nat) : Option (Nat × Nat) := (rd (6 - k) k n (l.drop (A + k))).map fun p => (p.1, A + p.2)
theorem readOf_start (l : List Int) (A : Nat) : readOf l (A : Int) = readOn l A 0 0 := by
  unfold readOf readOn
  rw [if_pos (by omega)]
  simp
theorem readOf_neg (l : List Int) (a : Int) (h : a < 0) : readOf l a = none := by
  unfold readOf
  rw [if_neg (by omega)]
theorem readOn_six (l : List Int) (A n : Nat) : readOn l A 6 n = none := by simp [readOn, rd]
theorem readOn_end (l : List Int) (A k n : Nat) (h : l.length ≤ A + k) : readOn l A k n = none := by
  unfold readOn
  rw [List.drop_eq_nil_of_le h]
  cases h6 : 6 - k <;> simp [rd]
theorem readOn_more (l : List Int) (A k n : Nat) (hk : k < 6) (h : A + k < l.length) (hx : ¬ l[A + k] < 128) : readOn l A k n = readOn l A (k + 1) (n + (l[A + k].toNat % 128) * 128 ^ k) := by
  unfold readOn
  rw [List.drop_eq_getElem_cons h, show 6 - k = (6 - (k + 1)) + 1 by omega]
  rw [rd, if_neg hx]
  rfl
theorem readOn_last (l : List Int) (A k n : Nat) (hk : k < 6) (h : A + k < l.length) (hx : l[A + k] < 128) :
    readOn l A k n = if (l[A + k] = 0 ∧ 0 < k) ∨ 1000000000000 < n + l[A + k].toNat * 128 ^ k then none else some (n + l[A + k].toNat * 128 ^ k, A + k + 1) := by
  unfold readOn
  rw [List.drop_eq_getElem_cons h, show 6 - k = (6 - (k + 1)) + 1 by omega]
  rw [rd, if_pos hx]
  split
  · rfl
  · simp [Nat.add_assoc]
theorem or_step (n y k : Nat) (Q : Int) (hn : n < 128 ^ k) (hk : k ≤ 5) (hQ : ((128 ^ k : Nat) : Int) = Q) : bits .or .i64 (n : Int) ((y : Int) % 128 * Q) = ((n + y % 128 * 128 ^ k : Nat) : Int) ∧ n + y % 128 * 128 ^ k < 128 ^ (k + 1) := by
  subst hQ
  have h1 := or_shift n (y % 128) k hn (by omega) hk
  constructor
  · rw [← h1]
    congr 1
  · have h2 : y % 128 * 128 ^ k ≤ 127 * 128 ^ k := Nat.mul_le_mul_right _ (by omega)
    rw [Nat.pow_succ]
    omega
end Go.Proofs.YtagbbndiofimdaaDoor
