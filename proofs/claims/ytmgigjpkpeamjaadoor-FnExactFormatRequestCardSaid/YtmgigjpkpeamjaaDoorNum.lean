/- Plain mathematics of decimal numerals: which strings the parser of chapter 1 takes, and as what. No condition. -/
import Derived.Lib.ItoaNum
import Derived.Lib.AtoiAllCases
namespace Go.Proofs.YtmgigjpkpeamjaaDoor
open Go.Lib

/-- What the digits of a list spell, behind what 'acc' spells. -/
def digVal (acc : Nat) (l : List UInt8) : Nat := l.foldl (fun a c => a * 10 + (c.toNat - 48)) acc
theorem digVal_cons (acc : Nat) (c : UInt8) (r : List UInt8) : digVal acc (c :: r) = digVal (acc * 10 + (c.toNat - 48)) r := List.foldl_cons ..
theorem digVal_nil (acc : Nat) : digVal acc [] = acc := List.foldl_nil ..
/-- Is the byte a decimal digit? -/
def isDig (c : UInt8) : Bool := decide (48 ≤ c.toNat ∧ c.toNat ≤ 57)
/-- The strings that ParseInt takes. -/
def parsed (l : List UInt8) : Bool := decide (l.length ≤ 13) && l.all isDig && decide (digVal 0 l ≤ 1000000000000) && decide (decDigits (digVal 0 l) = l)
/-- What ParseInt answers beside it. -/
def parsedVal (l : List UInt8) : Int := if parsed l = true then (digVal 0 l : Int) else 0

theorem digVal_append (l r : List UInt8) (acc : Nat) : digVal acc (l ++ r) = digVal (digVal acc l) r := List.foldl_append ..
theorem digVal_ge (l : List UInt8) (acc : Nat) : acc ≤ digVal acc l := by
  induction l generalizing acc with
  | nil => rw [digVal_nil]; exact Nat.le_refl _
  | cons c l ih => have := ih (acc * 10 + (c.toNat - 48)); rw [digVal_cons]; omega
theorem digVal_lt (l : List UInt8) (acc k : Nat) (hd : l.all isDig = true) (ha : acc < 10 ^ k) : digVal acc l < 10 ^ (k + l.length) := by
  induction l generalizing acc k with
  | nil => rw [digVal_nil]; simpa using ha
  | cons c l ih =>
    simp only [List.all_cons, Bool.and_eq_true] at hd
    have hc : 48 ≤ c.toNat ∧ c.toNat ≤ 57 := of_decide_eq_true hd.1
    have := ih (acc * 10 + (c.toNat - 48)) (k + 1) hd.2 (by rw [Nat.pow_succ]; omega)
    rw [digVal_cons, List.length_cons]
    rw [show k + (l.length + 1) = k + 1 + l.length by omega]
    exact this
theorem decDigits_isDig (u : Nat) : (decDigits u).all isDig = true := by
  induction u using Nat.strongRecOn with
  | _ u ih =>
    by_cases h : u < 10
    · rw [decDigits, dif_pos h]
      simp only [List.all_cons, List.all_nil, Bool.and_true]
      unfold isDig
      rw [UInt8.toNat_ofNat']
      exact decide_eq_true (by omega)
    · rw [decDigits, dif_neg h]
      simp only [List.all_append, List.all_cons, List.all_nil, Bool.and_true, Bool.and_eq_true]
      refine ⟨ih _ (by omega), ?_⟩
      unfold isDig
      rw [UInt8.toNat_ofNat']
      exact decide_eq_true (by omega)
theorem digVal_decDigits (u : Nat) : digVal 0 (decDigits u) = u := by
  induction u using Nat.strongRecOn with
  | _ u ih =>
    by_cases h : u < 10
    · rw [decDigits, dif_pos h]
      rw [digVal_cons, digVal_nil]
      rw [UInt8.toNat_ofNat']
      omega
    · rw [decDigits, dif_neg h, digVal_append, ih _ (by omega)]
      rw [digVal_cons, digVal_nil]
      rw [UInt8.toNat_ofNat']
      omega
theorem decDigits_pos (u : Nat) : 1 ≤ (decDigits u).length := by rw [decDigits_length]; exact nDigits_pos u
theorem decDigits_le (k u : Nat) (h : u < 10 ^ (k + 1)) : (decDigits u).length ≤ k + 1 := by
  induction k generalizing u with
  | zero => rw [decDigits, dif_pos (by simpa using h)]; simp
  | succ k ih =>
    by_cases h1 : u < 10
    · rw [decDigits, dif_pos h1]; simp
    · rw [decDigits, dif_neg h1]
      have := ih (u / 10) (by rw [Nat.pow_succ] at h; omega)
      simp only [List.length_append, List.length_cons, List.length_nil]
      omega
theorem parsed_decDigits (u : Nat) (h : u ≤ 1000000000000) : parsed (decDigits u) = true := by
  unfold parsed
  rw [decDigits_isDig, digVal_decDigits]
  have := decDigits_le 12 u (by omega)
  simp [h]
  omega
theorem parsedVal_decDigits (u : Nat) (h : u ≤ 1000000000000) : parsedVal (decDigits u) = (u : Int) := by
  unfold parsedVal
  rw [if_pos (parsed_decDigits u h), digVal_decDigits]
theorem parsed_inv {l : List UInt8} (h : parsed l = true) : ∃ u : Nat, u ≤ 1000000000000 ∧ l = decDigits u := by
  unfold parsed at h
  simp only [Bool.and_eq_true, decide_eq_true_eq] at h
  exact ⟨_, h.1.2, h.2.symm⟩
theorem parsedVal_bd (l : List UInt8) : 0 ≤ parsedVal l ∧ parsedVal l ≤ 1000000000000 := by
  by_cases h : parsed l = true
  · obtain ⟨u, hu, rfl⟩ := parsed_inv h
    rw [parsedVal_decDigits u hu]
    omega
  · unfold parsedVal
    rw [if_neg h]
    omega
theorem parseUint10_digits (l : List UInt8) (acc : Nat) (hd : l.all isDig = true) (hv : digVal acc l < 1000000000000000000) : parseUint10 acc l = .ok (digVal acc l) := by
  induction l generalizing acc with
  | nil => rw [digVal_nil]; rfl
  | cons c l ih =>
    simp only [List.all_cons, Bool.and_eq_true] at hd
    have hc : 48 ≤ c.toNat ∧ c.toNat ≤ 57 := of_decide_eq_true hd.1
    rw [digVal_cons] at hv ⊢
    have := digVal_ge l (acc * 10 + (c.toNat - 48))
    simp only [parseUint10]
    rw [if_pos hc, if_neg (by omega), if_neg (by omega)]
    exact ih _ hd.2 hv
theorem atoiAll_decDigits (u : Nat) (h : u < 1000000000000000000) : atoiAll (decDigits u) = .ok (u : Int) := by
  have hd := decDigits_isDig u
  have hp := decDigits_pos u
  have hv := digVal_decDigits u
  have hmag : parseMag (decDigits u) = .ok u := by
    unfold parseMag
    rw [if_neg (by intro e; rw [e] at hp; simp at hp), parseUint10_digits _ _ hd (by rw [hv]; exact h), hv]
  match hl : decDigits u with
  | [] => rw [hl] at hp; simp at hp
  | c :: r =>
    rw [hl] at hd hmag
    simp only [List.all_cons, Bool.and_eq_true] at hd
    have hc : 48 ≤ c.toNat ∧ c.toNat ≤ 57 := of_decide_eq_true hd.1
    rw [atoiAll_plain c r (by omega) (by omega), hmag]
    simp only [signless]
    rw [if_neg (by omega)]
/-- What Atoi, the range and the way back say together is 'parsed'. -/
theorem parsed_of_atoi {l : List UInt8} {v : Int} (h0 : 0 ≤ v) (h1 : v ≤ 1000000000000) (hi : itoa v = l) : parsed l = true ∧ parsedVal l = v := by
  obtain ⟨u, rfl⟩ := Int.eq_ofNat_of_zero_le h0
  have e : itoa (u : Int) = decDigits u := by unfold itoa; rw [if_neg (by omega)]; simp
  rw [e] at hi
  subst hi
  exact ⟨parsed_decDigits u (by omega), parsedVal_decDigits u (by omega)⟩
theorem atoi_of_parsed {l : List UInt8} (h : parsed l = true) : atoiAll l = .ok (parsedVal l) ∧ itoa (parsedVal l) = l := by
  obtain ⟨u, hu, rfl⟩ := parsed_inv h
  rw [parsedVal_decDigits u hu]
  refine ⟨atoiAll_decDigits u (by omega), ?_⟩
  unfold itoa
  rw [if_neg (by omega)]
  simp
theorem parsedVal_no {l : List UInt8} (h : parsed l = false) : parsedVal l = 0 := by unfold parsedVal; rw [if_neg (by rw [h]; decide)]
/-- FormatInt's loop: the digits of what is left stand ahead of the digits that were laid. -/
def leftDigits (u : Nat) : List UInt8 := if u = 0 then [] else decDigits u
theorem leftDigits_step (u : Nat) (h : u ≠ 0) (s : List UInt8) : leftDigits u ++ s = leftDigits (u / 10) ++ (UInt8.ofNat (48 + u % 10) :: s) := by
  unfold leftDigits
  rw [if_neg h]
  by_cases h1 : u < 10
  · rw [if_pos (by omega), decDigits, dif_pos h1, Nat.mod_eq_of_lt h1]
    rfl
  · rw [if_neg (by omega), decDigits, dif_neg h1]
    simp
theorem leftDigits_le (u : Nat) (h : u < 10 ^ 20) : (leftDigits u).length ≤ 20 := by
  unfold leftDigits
  split
  · simp
  · exact decDigits_le 19 u h
theorem itoa_minus (n : Int) (h : n < 0) : itoa n = 45 :: leftDigits n.natAbs := by
  unfold itoa leftDigits
  rw [if_pos h, if_neg (by omega)]
theorem itoa_plus (n : Int) (h : 0 < n) : itoa n = leftDigits n.natAbs := by
  unfold itoa leftDigits
  rw [if_neg (by omega), if_neg (by omega), show n.toNat = n.natAbs by omega]
end Go.Proofs.YtmgigjpkpeamjaaDoor
