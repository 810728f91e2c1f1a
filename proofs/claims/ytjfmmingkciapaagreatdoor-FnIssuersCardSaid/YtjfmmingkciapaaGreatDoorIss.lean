/- Issuers (chapter 8): mathematics, and contracts of the model. No condition but the bounds of what came in. -/
import Derived.Test.YtjfmmingkciapaaGreatDoorLitZ
import Derived.Test.YtjfmmingkciapaaGreatDoorIssT
import Derived.Test.YtjfmmingkciapaaGreatDoorStoresZ
import Derived.Test.YtjfmmingkciapaaGreatDoorHashZ
import Derived.Deep.QuietTactic
import Derived.BigQuiet
namespace Go.Proofs.YtjfmmingkciapaaGreatDoor
open Go.ChangeShapes Go.WideShapes Go.ChangeAt Go.RowKit
set_option linter.unusedVariables false

def findI (xs : List IssuerD) (id : Int) : Int := firstI (fun x => decide (x.Id = id)) xs 0
set_option maxHeartbeats 4000000 in
theorem spec_findIssuer (w : World) (hi c : Nat) (a : Option Addr) (xs : List IssuerD) (id : Int) (h : RowIssuer w hi (.slice a xs.length c) xs) :
    Calls Tryz.prog 40 #[.slice a xs.length c, .int .i64 id] w fun e w' => e = .returned (.int .i64 (findI xs id)) ∧ w = w' := by
  obtain ⟨_, h1, h2⟩ := h.fits
  unfold maxLen at h2
  have H := Lib.hid h
  clear h
  go_enter Tryz.func40, Tryz.ntmps40
  go_wp2
  go_loopw [5] (fun i wr => ∃ n : Nat, n ≤ xs.length ∧ i = .int .i64 (n : Int) ∧ Hid (findI xs id = firstI (fun x => decide (x.Id = id)) (xs.drop n) (n : Int)) ∧ wr = w) (fun i _ => xs.length - (intOf i).toNat)
  case atStart => exact ⟨0, Nat.zero_le _, rfl, rfl, rfl⟩
  case round =>
    obtain ⟨n, hn, rfl, HF, rfl⟩ := hrel
    by_cases hlt : n < xs.length
    · obtain ⟨x, hx⟩ : ∃ x, xs[n]? = some x := ⟨_, List.getElem?_eq_getElem hlt⟩
      have hdr : xs.drop n = x :: xs.drop (n + 1) := by
        rw [List.drop_eq_getElem_cons hlt]
        rw [List.getElem?_eq_getElem hlt] at hx
        rw [Option.some.inj hx]
      have HS := Lib.hid (show findI xs id = if decide (x.Id = id) then (n : Int) else firstI (fun x => decide (x.Id = id)) (xs.drop (n + 1)) ((n + 1 : Nat) : Int) by rw [HF.out, hdr]; rfl)
      obtain ⟨p0, ks, p2⟩ := x
      obtain ⟨kv, b, off, _, rfl, r1, r2, HC⟩ := RowIssuer.at H.out hx
      obtain ⟨c0, c1, c2⟩ := HC _ _ r2 (Below.refl _ _)
      clear HC hx hdr HF
      dsimp only at HS
      by_cases hq : p0 = id
      · subst hq
        go_wp2
        go_ret
        exact ⟨ret_i (by rw [HS.out]; simp), by trivial⟩
      · have hd : (p0 == id) = false := by rw [beq_eq_false_iff_ne]; exact hq
        have HQ := Lib.hid hq
        clear hq
        go_wp2
        refine ⟨⟨n + 1, by omega, by go_num, ?_, by first | rfl | trivial⟩, by simp only [intOf]; omega⟩
        have h7 := HS.out
        rw [decide_eq_false HQ.out] at h7
        exact h7
    · go_wp2
      go_ret
      obtain rfl : n = xs.length := by omega
      have h7 := HF.out
      rw [List.drop_of_length_le (Nat.le_refl _)] at h7
      exact ⟨ret_i h7.symm, rfl⟩
/-- A fact's numbers, in their order. -/
def factL (f : FactD) : List Int := [f.Kind, f.Subject, f.Value, f.Issuer, f.At, f.Until]
theorem factL_wf {f : FactD} (h : f.wf) : ∀ x ∈ factL f, (Lit.int .i64 x).wf = true := by
  obtain ⟨h0, h1, h2, h3, h4, h5⟩ := h
  intro x hx
  simp only [factL, List.mem_cons, List.not_mem_nil, or_false] at hx
  rcases hx with rfl | rfl | rfl | rfl | rfl | rfl <;> assumption
/-- A literal list of integers. -/
theorem spec_factInts (w : World) (f : FactD) (hwf : f.wf) :
    Calls Tryz.prog 77 #[f.val] w fun e w' => ∃ u, e = .returned u ∧ Own 3 .i64 w' w.heap.size w'.heap.size u (factL f) ∧ Below w.heap.size w w' := by
  obtain ⟨q0, q1, q2, q3, q4, q5⟩ := f
  rw [FactD.val_mk]
  go_enter Tryz.func77, Tryz.ntmps77
  go_wp2
  go_ret
  refine ⟨_, rfl, ?_, by go_grown⟩
  have hO := Own.lit 3 (w.alloc (.cells #[.int .i64 q0, .int .i64 q1, .int .i64 q2, .int .i64 q3, .int .i64 q4, .int .i64 q5] 28)) (factL ⟨q0, q1, q2, q3, q4, q5⟩) (factL_wf hwf) (by show 6 ≤ maxLen; decide)
  have hz : (w.alloc (.cells #[.int .i64 q0, .int .i64 q1, .int .i64 q2, .int .i64 q3, .int .i64 q4, .int .i64 q5] 28)).heap.size = w.heap.size + 1 := by simp
  have h9 := hO.wide (lo' := w.heap.size) (hi' := w.heap.size + 1 + 1) (by omega) (by omega)
  rw [hz] at h9
  simpa [factL] using h9
/-- What an issuer's kinds ask at a place: in range, and above the one before. -/
def kindAt (ks : List Int) (i : Nat) : Bool := match ks[i]? with
  | none => true
  | some k => decide (1 ≤ k ∧ k ≤ 4) && (i == 0 || match ks[i - 1]? with
    | none => true
    | some j => decide (j < k))
def kindsTo (ks : List Int) (n : Nat) : Bool := (List.range n).all (kindAt ks)
theorem kindsTo_succ (ks : List Int) (n : Nat) : kindsTo ks (n + 1) = (kindsTo ks n && kindAt ks n) := by simp [kindsTo, List.range_succ]
theorem kindsTo_le {ks : List Int} {k n : Nat} (h : k ≤ n) (hk : kindsTo ks k = false) : kindsTo ks n = false := by
  rw [kindsTo, List.all_eq_false] at hk ⊢
  obtain ⟨x, hx, hy⟩ := hk
  exact ⟨x, List.mem_range.2 (Nat.lt_of_lt_of_le (List.mem_range.1 hx) h), hy⟩
def issuerB (x : IssuerD) : Bool := kindsTo x.Kinds x.Kinds.length && (decide (0 ≤ x.Id ∧ x.Id ≤ 9) && validKey x.Secret)
set_option maxHeartbeats 4000000 in
theorem spec_isIssuer (w : World) (hi : Nat) (i s : Int) (kv : Value) (ks : List Int) (h : Row .i64 w hi kv ks) (hh : hi ≤ w.heap.size) :
    Calls Tryz.prog 74 #[.agg #[.int .i64 i, kv, .int .i64 s]] w fun e w' => e = .returned (.bool (issuerB ⟨i, ks, s⟩)) ∧ Below w.heap.size w w' := by
  obtain ⟨A, c, rfl, f1, f2, -⟩ := id h.form
  unfold maxLen at f2
  obtain ⟨W, hW⟩ : ∃ W, W = w.alloc (.cells #[.int .i64 i, .slice A ks.length c, .int .i64 s] 26) := ⟨_, rfl⟩
  have hB : Below w.heap.size w W := by rw [hW]; exact (Below.refl _ _).alloc (Nat.le_refl _) _
  have c0 : W.cell? ⟨w.heap.size, 0, none⟩ = some (.int .i64 i) := by rw [hW]; go_simp
  have c1 : W.cell? ⟨w.heap.size, 1, none⟩ = some (.slice A ks.length c) := by rw [hW]; go_simp
  have c2 : W.cell? ⟨w.heap.size, 2, none⟩ = some (.int .i64 s) := by rw [hW]; go_simp
  have hwW : w.heap.size < W.heap.size := by rw [hW]; simp
  have H := Lib.hid (h.below hB hh)
  clear h
  go_enter Tryz.func74, Tryz.ntmps74
  go_wp2_with fail
  rw [← hW]
  clear hW
  go_wp2
  go_loopw [3] (fun v wr => ∃ n : Nat, n ≤ ks.length ∧ v = .int .i64 (n : Int) ∧ Hid (kindsTo ks n = true) ∧ Below W.heap.size W wr) (fun v _ => ks.length - (intOf v).toNat)
  case atStart => exact ⟨0, Nat.zero_le _, rfl, rfl, Below.refl _ _⟩
  case round =>
    obtain ⟨n, hn, rfl, HK, hb⟩ := hrel
    have e0 := (hb.cell (p := ⟨w.heap.size, 0, none⟩) hwW).trans c0
    have e1 := (hb.cell (p := ⟨w.heap.size, 1, none⟩) hwW).trans c1
    have e2 := (hb.cell (p := ⟨w.heap.size, 2, none⟩) hwW).trans c2
    by_cases hlt : n < ks.length
    · obtain ⟨k, hk⟩ : ∃ k, ks[n]? = some k := ⟨_, List.getElem?_eq_getElem hlt⟩
      have H2 := Lib.hid (H.out.below hb (Nat.le_of_lt (Nat.lt_of_le_of_lt hh hwW)))
      obtain ⟨b, off, rfl, g1, g2, d0⟩ := Row.cellAt H2.out hk
      have HB := Lib.hid hb
      by_cases hr : 1 ≤ k ∧ k ≤ 4
      · have HL := Lib.hid (fun W => spec_l1In_yes k 1 4 W hr)
        by_cases hz : n = 0
        · subst hz
          have HF := Lib.hid (show kindsTo ks (0 + 1) = true by rw [kindsTo_succ, HK.out, kindAt, hk]; simp [hr])
          clear hr hk
          rw [Nat.add_zero] at d0
          go_wp2
          go_quiet (first | (go_at_call 100; refine Calls.quiet_of_same ((HL.out _).mono fun _ _ ⟨e1, e2⟩ => ⟨e1, e2.symm⟩)))
          go_wp2
          exact ⟨⟨1, by omega, rfl, HF.out, bDrew HB.out _⟩, by simp only [intOf]; omega⟩
        · have hk0 : n - 1 < ks.length := by omega
          obtain ⟨q, hq⟩ : ∃ q, ks[n - 1]? = some q := ⟨_, List.getElem?_eq_getElem hk0⟩
          obtain ⟨b', off', e0', _, _, d1⟩ := Row.cellAt H2.out hq
          injection e0' with e0'
          injection e0' with e1' e2'
          subst e1' e2'
          have HA := Lib.hid (show kindAt ks n = decide (q < k) by
            rw [kindAt, hk, hq]
            simp [hr, hz])
          have hw : IntKind.i64.wrap ((n : Int) - 1) = ((n - 1 : Nat) : Int) := by rw [IntKind.wrap_i64]; omega
          have hp : 0 < n := by omega
          have hp2 : decide (0 < n) = true := decide_eq_true hp
          have hj1 : (0 : Int) ≤ ((n - 1 : Nat) : Int) := by omega
          have hj2 : ((n - 1 : Nat) : Int) < (ks.length : Int) := by omega
          clear hr hk hq hk0
          generalize n - 1 = j at hw hj1 hj2 d1
          by_cases hqk : q < k
          · have hgt : decide (k ≤ q) = false := decide_eq_false (by omega)
            have HF := Lib.hid (show kindsTo ks (n + 1) = true by rw [kindsTo_succ, HK.out, HA.out, decide_eq_true hqk]; rfl)
            clear hqk
            go_wp2
            go_quiet (first | (go_at_call 100; refine Calls.quiet_of_same ((HL.out _).mono fun _ _ ⟨e1, e2⟩ => ⟨e1, e2.symm⟩)))
            go_wp2
            exact ⟨⟨n + 1, by omega, by go_num, HF.out, bDrew HB.out _⟩, by simp only [intOf]; omega⟩
          · have hgt : k ≤ q := by omega
            have HF := Lib.hid (show kindsTo ks ks.length = false from kindsTo_le (k := n + 1) (by omega) (by rw [kindsTo_succ, HA.out, decide_eq_false hqk, Bool.and_false]))
            clear hqk
            go_wp2
            go_quiet (first | (go_at_call 100; refine Calls.quiet_of_same ((HL.out _).mono fun _ _ ⟨e1, e2⟩ => ⟨e1, e2.symm⟩)))
            go_wp2
            go_ret
            refine ⟨ret_b ?_, bDrew (hB.trans (HB.out.mono hB.size)) _⟩
            unfold issuerB
            rw [HF.out]
            rfl
      · have HF := Lib.hid (show kindsTo ks ks.length = false from kindsTo_le (k := n + 1) (by omega) (by rw [kindsTo_succ, kindAt, hk]; simp [hr]))
        have HL := Lib.hid (fun W => spec_l1In_no k 1 4 W hr)
        clear hr hk
        go_wp2
        go_quiet (first | (go_at_call 100; refine Calls.quiet_of_same ((HL.out _).mono fun _ _ ⟨e1, e2⟩ => ⟨e1, e2.symm⟩)))
        go_wp2
        go_ret
        refine ⟨ret_b ?_, bDrew (hB.trans (HB.out.mono hB.size)) _⟩
        unfold issuerB
        rw [HF.out]
        rfl
    · obtain rfl : n = ks.length := by omega
      have HI := Lib.hid (show issuerB ⟨i, ks, s⟩ = (decide (0 ≤ i ∧ i ≤ 9) && validKey s) by unfold issuerB; dsimp only; rw [HK.out, Bool.true_and])
      have d8 := hB.trans (hb.mono hB.size)
      have HL := Lib.hid (fun W => spec_l1In i 0 9 W)
      go_wp2_with fail
      refine (HL.out _).mono ?_
      rintro e u ⟨rfl, rfl⟩
      by_cases hr : 0 ≤ i ∧ i ≤ 9
      · rw [decide_eq_true hr] at HI ⊢
        clear hr
        go_wp2_with fail
        refine (spec_valid s _).mono ?_
        rintro e u ⟨rfl, rfl⟩
        go_wp2
        go_ret
        exact ⟨ret_b (by rw [HI.out]; simp [validKey]), d8⟩
      · rw [decide_eq_false hr] at HI ⊢
        clear hr
        go_wp2
        go_ret
        exact ⟨ret_b HI.out.symm, d8⟩
end Go.Proofs.YtjfmmingkciapaaGreatDoor
