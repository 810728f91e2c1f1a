/- Plain mathematics of varints: what is encoded is decoded, and what is decoded was encoded. No condition. -/
import Derived.Test.YtcfmkdofiehfmaaVar
namespace Go.Proofs.Ytcfmkdofiehfmaa
open Go.RowKit

/-- What stands at a place as the encoding of N is read as N. -/
theorem rd_uv : ∀ (f k acc N : Nat) (rest : List Int), N < 128 ^ f → acc + N * 128 ^ k ≤ 1000000000000 → (N = 0 → k = 0) → (1 ≤ N ∨ 1 ≤ f) →
    rd f k acc (uv N ++ rest) = some (acc + N * 128 ^ k, k + (uv N).length)
  | 0, k, acc, N, rest, h1, h2, h3, h4 => by
    have h0 : N = 0 := by simpa using h1
    omega
  | f + 1, k, acc, N, rest, h1, h2, h3, h4 => by
    by_cases h : N < 128
    · rw [uv_small h]
      show rd (f + 1) k acc ((N : Int) :: rest) = _
      rw [rd, if_pos (by omega), Int.toNat_natCast, if_neg]
      · rfl
      · rintro (⟨e, hk⟩ | e)
        · have := h3 (by omega)
          omega
        · omega
    · rw [uv_big h]
      show rd (f + 1) k acc (((N % 128 + 128 : Nat) : Int) :: (uv (N / 128) ++ rest)) = _
      have hp : 128 ^ (k + 1) = 128 * 128 ^ k := by rw [Nat.pow_succ, Nat.mul_comm]
      have hm : N * 128 ^ k = N % 128 * 128 ^ k + N / 128 * 128 ^ (k + 1) := by
        rw [hp, ← Nat.mul_assoc, ← Nat.add_mul]
        congr 1
        omega
      rw [rd, if_neg (by omega), Int.toNat_natCast, show (N % 128 + 128) % 128 = N % 128 by omega]
      rw [rd_uv f (k + 1) _ (N / 128) rest (by rw [Nat.pow_succ] at h1; omega) (by omega) (by omega) (by omega)]
      simp only [List.length_cons]
      congr 2
      · omega
      · omega
/-- What is read as an integer is its encoding. -/
theorem rd_back : ∀ (f k acc : Nat) (l : List Int) (p : Nat × Nat), (∀ x ∈ l, 0 ≤ x ∧ x ≤ 255) → rd f k acc l = some p →
    ∃ N : Nat, p.1 = acc + N * 128 ^ k ∧ p.2 = k + (uv N).length ∧ l.take (uv N).length = uv N ∧ (N = 0 → k = 0)
  | 0, _, _, _, _, _, h => by simp [rd] at h
  | f + 1, k, acc, [], _, _, h => by simp [rd] at h
  | f + 1, k, acc, x :: r, p, hl, h => by
    obtain ⟨x0, x1⟩ := hl x (by simp)
    rw [rd] at h
    split at h
    · rename_i hx
      split at h
      · cases h
      · rename_i hn
        injection h with h
        subst h
        have hs : x.toNat < 128 := by omega
        refine ⟨x.toNat, rfl, by rw [uv_small hs]; rfl, ?_, fun e => ?_⟩
        · rw [uv_small hs]
          simp
          omega
        · by_cases hk : k = 0
          · exact hk
          · exact absurd (.inl ⟨by omega, by omega⟩) hn
    · rename_i hx
      obtain ⟨N, e1, e2, e3, e4⟩ := rd_back f (k + 1) _ r p (fun y hy => hl y (by simp [hy])) h
      have hN : 0 < N := by
        rcases Nat.eq_zero_or_pos N with h0 | h0
        · exact absurd (e4 h0) (by omega)
        · exact h0
      have hb : ¬ x.toNat % 128 + 128 * N < 128 := by omega
      have hp : 128 ^ (k + 1) = 128 * 128 ^ k := by rw [Nat.pow_succ, Nat.mul_comm]
      refine ⟨x.toNat % 128 + 128 * N, ?_, ?_, ?_, fun e => by omega⟩
      · rw [e1, hp, Nat.add_mul, Nat.mul_comm 128 N, Nat.mul_assoc]
        omega
      · rw [e2, uv_big hb, List.length_cons, show (x.toNat % 128 + 128 * N) / 128 = N by omega]
        omega
      · rw [uv_big hb, show (x.toNat % 128 + 128 * N) / 128 = N by omega, show (x.toNat % 128 + 128 * N) % 128 + 128 = x.toNat by omega, List.length_cons, List.take_succ_cons, e3]
        congr 1
        omega
theorem readOf_enc (b : List Int) (N : Nat) (h : N ≤ 1000000000000) (rest : List Int) : readOf (b ++ uv N ++ rest) (b.length : Int) = some (N, b.length + (uv N).length) := by
  unfold readOf
  rw [if_pos (by omega), Int.toNat_natCast, List.append_assoc, List.drop_left, rd_uv 6 0 0 N rest (by omega) (by omega) (fun _ => rfl) (.inr (by omega))]
  simp
theorem readOf_none (b : List Int) : readOf b (b.length : Int) = none := by
  unfold readOf
  rw [if_pos (by omega), Int.toNat_natCast, List.drop_eq_nil_of_le (Nat.le_refl _)]
  simp [rd]
theorem readOf_back {l : List Int} {a : Int} {n nx : Nat} (hl : ∀ x ∈ l, 0 ≤ x ∧ x ≤ 255) (h : readOf l a = some (n, nx)) : ∃ A : Nat, a = (A : Int) ∧ A < nx ∧ nx ≤ l.length ∧ n ≤ 1000000000000 ∧ enc (n : Int) = (l.drop A).take (nx - A) := by
  unfold readOf at h
  split at h
  · rename_i ha
    obtain ⟨p, hp, e⟩ := Option.map_eq_some_iff.1 h
    injection e with e1 e2
    obtain ⟨N, h1, h2, h3, _⟩ := rd_back _ _ _ _ _ (fun x hx => hl x (List.mem_of_mem_drop hx)) hp
    have hN : N = n := by omega
    have hc : p.2 = (uv N).length := by omega
    have hb : n ≤ 1000000000000 := by
      have : ∀ (f k m : Nat) (l : List Int) (p : Nat × Nat), rd f k m l = some p → p.1 ≤ 1000000000000 := by
        intro f
        induction f with
        | zero => intro k m l p h; simp [rd] at h
        | succ f ih =>
          intro k m l p h
          cases l with
          | nil => simp [rd] at h
          | cons x r =>
            rw [rd] at h
            split at h
            · split at h
              · cases h
              · injection h with h
                subst h
                simp only
                omega
            · exact ih _ _ _ _ h
      have := this _ _ _ _ _ hp
      omega
    have hlen : (uv N).length ≤ (l.drop a.toNat).length := by
      have := congrArg List.length h3
      rw [List.length_take] at this
      omega
    rw [List.length_drop] at hlen
    have hpos := uv_pos N
    refine ⟨a.toNat, by omega, by omega, by omega, hb, ?_⟩
    unfold enc
    rw [if_pos (by omega), Int.toNat_natCast, ← hN, show nx - a.toNat = (uv N).length by omega, h3]
  · cases h
end Go.Proofs.Ytcfmkdofiehfmaa
