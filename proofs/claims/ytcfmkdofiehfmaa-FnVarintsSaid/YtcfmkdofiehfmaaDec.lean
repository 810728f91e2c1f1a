/- Contract of chapter 2's model: what DecodeInts returns. -/
import Derived.Test.YtcfmkdofiehfmaaEnc2
namespace Go.Proofs.Ytcfmkdofiehfmaa
open Go.ChangeShapes Go.WideShapes Go.ChangeAt Go.RowKit
set_option linter.unusedVariables false

/-- What DecodeInts decodes: so many integers from a place on, and the place behind them. -/
def decGo (l : List Int) : Nat → Nat → Option (List Int × Nat)
  | 0, a => some ([], a)
  | k + 1, a => match readOf l (a : Int) with
    | none => none
    | some (n, nx) => (decGo l k nx).map fun p => ((n : Int) :: p.1, p.2)
def decOf (l : List Int) (a c : Int) : Option (List Int × Nat) := if (0 ≤ c ∧ c ≤ 100) ∧ 0 ≤ a ∧ a ≤ (l.length : Int) then decGo l c.toNat a.toNat else none
theorem decGo_len (l : List Int) : ∀ (k a : Nat) (p : List Int × Nat), decGo l k a = some p → p.1.length = k
  | 0, a, p, h => by simp [decGo] at h; rw [← h]; rfl
  | k + 1, a, p, h => by
    rw [decGo] at h
    split at h
    · cases h
    · obtain ⟨q, hq, e⟩ := Option.map_eq_some_iff.1 h
      have := decGo_len l k _ q hq
      rw [← e]
      simp only [List.length_cons]
      omega
theorem decOf_le {l : List Int} {a c : Int} {p : List Int × Nat} (h : decOf l a c = some p) : p.1.length ≤ 100 := by
  unfold decOf at h
  split at h
  · have := decGo_len _ _ _ _ h
    omega
  · cases h
/-- DecodeInts's three results, the first a slice of its own. -/
def IntsRes (E : TypeId) (r : Option (List Int × Nat)) (w w' : World) (e : Ending) : Prop := match r with
  | some (l, nx) => ∃ u, e = .returned (.tuple #[u, .int .i64 (nx : Int), .bool true]) ∧ Own E .i64 w' w.heap.size w'.heap.size u l ∧ Below w.heap.size w w'
  | none => ∃ u, e = .returned (.tuple #[u, .int .i64 0, .bool false]) ∧ Own E .i64 w' w.heap.size w'.heap.size u [] ∧ Below w.heap.size w w'
/-- Behind what was read already. -/
def decOn (l : List Int) (acc : List Int) (k a : Nat) : Option (List Int × Nat) := (decGo l k a).map fun p => (acc ++ p.1, p.2)
theorem decOn_end (l acc : List Int) (a : Nat) : decOn l acc 0 a = some (acc, a) := by simp [decOn, decGo]
theorem decOn_none (l acc : List Int) (k a : Nat) (h : readOf l (a : Int) = none) : decOn l acc (k + 1) a = none := by simp [decOn, decGo, h]
theorem decOn_some (l acc : List Int) (k a n nx : Nat) (h : readOf l (a : Int) = some (n, nx)) : decOn l acc (k + 1) a = decOn l (acc ++ [(n : Int)]) k nx := by
  simp only [decOn, decGo, h, Option.map_map]
  congr 1
  funext p
  simp
set_option maxHeartbeats 600000 in
theorem spec_decode (w : World) (hi : Nat) (v : Value) (l : List Int) (a c : Int) (h : Row .u8 w hi v l) (hh : hi ≤ w.heap.size) (hn : l.length ≤ 1099511627776) :
    Calls Try.prog 37 #[v, .int .i64 a, .int .i64 c] w fun e w' => IntsRes 3 (decOf l a c) w w' e := by
  obtain ⟨i0, hi0, hz0, hz1, hz2⟩ := info_parts infoIntS
  have HR := Lib.hid h
  obtain ⟨⟨A, cp, rfl, r1, r2, _, r3⟩, _⟩ := h
  unfold maxLen at r2
  have hO := (Own.empty 3 .i64 w).wide (lo' := w.heap.size) (hi' := (w.alloc (.cells #[] 3)).heap.size) (Nat.le_refl _) (by simp)
  have hB := (Below.refl w.heap.size w).alloc (Nat.le_refl _) (.cells #[] 3)
  by_cases h1 : 0 ≤ c ∧ c ≤ 100
  · by_cases h2 : 0 ≤ a ∧ a ≤ (l.length : Int)
    · obtain ⟨C, rfl⟩ := Int.eq_ofNat_of_zero_le h1.1
      obtain ⟨B, rfl⟩ := Int.eq_ofNat_of_zero_le h2.1
      have hC : C ≤ 100 := by omega
      have HD := Lib.hid (show decOf l (B : Int) (C : Int) = decOn l [] C B by unfold decOf decOn; rw [if_pos ⟨h1, h2⟩]; simp)
      clear r3
      go_enter Try.func37, Try.ntmps37
      go_wp2_with (go_at_call 52; refine (spec_l1In _ _ _ _).mono ?_; rintro e w' ⟨rfl, rfl⟩)
      go_loopw [1, 9, 10] (fun q o i wr => ∃ (k B' : Nat) (acc : List Int), k ≤ C ∧ B' ≤ l.length ∧ i = .int .i64 (k : Int) ∧ q = .int .i64 (B' : Int) ∧ acc.length = k ∧ Hid (decOn l [] C B = decOn l acc (C - k) B') ∧ Own 3 .i64 wr w.heap.size wr.heap.size o acc ∧ Below w.heap.size w wr) (fun _ _ i _ => C - (intOf i).toNat)
      case atStart => exact ⟨0, B, [], Nat.zero_le _, by omega, rfl, rfl, rfl, rfl, hO, hB⟩
      case round =>
        obtain ⟨k, B', acc, hk, hB', rfl, rfl, hacc, HQ, hown, hb⟩ := hrel
        have HACC := Lib.hid hacc
        clear hacc
        by_cases hlt : k < C
        · have hrow := HR.out.below hb hh
          cases hrd : readOf l (B' : Int) with
          | none =>
            have HN := Lib.hid (show decOn l acc (C - k) B' = none by rw [show C - k = (C - (k + 1)) + 1 by omega]; exact decOn_none _ _ _ _ hrd)
            have HRD := Lib.hid hrd
            clear hrd
            go_wp2_with fail
            refine (spec_read wr hi _ l (B' : Int) hrow hn (by omega) (by omega)).mono ?_
            rintro e w2 ⟨rfl, hw⟩
            have hw := hw.symm
            subst hw
            rw [HRD.out]
            unfold readRes
            go_wp2
            go_ret3
            rw [HD.out, HQ.out, HN.out]
            exact ⟨_, rfl, (Own.empty 3 .i64 wr).wide hb.size (by simp), hb.alloc hb.size _⟩
          | some p =>
            obtain ⟨n, nx⟩ := p
            obtain ⟨g0, g1, g2, g3⟩ := readOf_bd hrd
            have HS := Lib.hid (show decOn l acc (C - k) B' = decOn l (acc ++ [(n : Int)]) (C - (k + 1)) nx by rw [show C - k = (C - (k + 1)) + 1 by omega]; exact decOn_some _ _ _ _ _ _ hrd)
            have HRD := Lib.hid hrd
            clear hrd
            have hO3 := hown.below (B := wr.heap.size) ((Below.refl _ wr).alloc (Nat.le_refl _) (.cells #[.int .i64 (n : Int)] 3)) (Nat.le_refl _)
            have hR3 := row_one .i64 3 wr (n : Int) (wf_i64 (by omega) (by omega))
            have hb3 := hb.alloc hb.size (.cells #[.int .i64 (n : Int)] 3)
            go_wp2_with fail
            refine (spec_read wr hi _ l (B' : Int) hrow hn (by omega) (by omega)).mono ?_
            rintro e w2 ⟨rfl, hw⟩
            have hw := hw.symm
            subst hw
            rw [HRD.out]
            unfold readRes
            have hle : acc.length + [(n : Int)].length ≤ 2199023255552 := by have := HACC.out; simp only [List.length_cons, List.length_nil]; omega
            have hsz : w.heap.size ≤ (wr.alloc (.cells #[.int .i64 (n : Int)] 3)).heap.size := by have := hb.size; simp; omega
            go_wp2_with (at_builtin; refine wpList_append_Own rfl _ _ 35 rfl 3 i0 (.int .i64 0) 8 Try.underlying35 hi0 hz0 hz1 hz2 rfl .i64 w.heap.size _ _ acc rfl hO3 _ _ [(n : Int)] rfl hR3 hle (by decide) hsz ?_; intro v2 w2 hown3 hb4)
            go_roundw
            case rel => exact ⟨k + 1, nx, acc ++ [(n : Int)], by omega, g2, by go_num, rfl, by rw [List.length_append, HACC.out]; rfl, Lib.hid (HQ.out.trans HS.out), hown3, hb3.trans hb4⟩
            case measure => simp only [intOf]; omega
        · obtain rfl : k = C := by omega
          go_wp2
          go_ret3
          rw [HD.out, HQ.out, Nat.sub_self, decOn_end]
          exact ⟨_, rfl, hown, hb⟩
    · have HD := Lib.hid (show decOf l a c = none by unfold decOf; rw [if_neg (fun e => h2 e.2)])
      have H1 := Lib.hid h1
      have H2 := Lib.hid h2
      clear h1 h2
      go_enter Try.func37, Try.ntmps37
      go_wp2_with fail
      refine (spec_l1In_yes c 0 100 _ H1.out).mono ?_
      rintro e w' ⟨rfl, rfl⟩
      go_wp2_with fail
      refine (spec_l1In_no a 0 (l.length : Int) _ H2.out).mono ?_
      rintro e w' ⟨rfl, rfl⟩
      go_wp2
      go_ret3
      rw [HD.out]
      exact ⟨_, rfl, hO, hB⟩
  · have HD := Lib.hid (show decOf l a c = none by unfold decOf; rw [if_neg (fun e => h1 e.1)])
    have H1 := Lib.hid h1
    clear h1
    go_enter Try.func37, Try.ntmps37
    go_wp2_with (go_at_call 52; refine (spec_l1In_no c 0 100 _ H1.out).mono ?_; rintro e w' ⟨rfl, rfl⟩)
    go_ret3
    rw [HD.out]
    exact ⟨_, rfl, hO, hB⟩
end Go.Proofs.Ytcfmkdofiehfmaa
