/- Contracts of chapter 1's numerals: what FormatInt and ParseInt of the program and of its model return. -/
import Derived.Test.YtmdmkdjeaffhaaaDoorMInts
import Derived.Test.YtmdmkdjeaffhaaaDoorShelf
import Derived.Test.YtmdmkdjeaffhaaaDoorNum
import Derived.Test.YtmdmkdjeaffhaaaDoorMText6
import Derived.Test.YtmdmkdjeaffhaaaDoorMTab
import Derived.WalkKit
import Derived.ProofKit
import Derived.OpenShut
import Derived.WalkLawsBesides
import Derived.WalkSpells
import Derived.LoopTactic
import Derived.Lib.Hide
import Derived.Below
import Derived.Laws.BytesArg
namespace Go.Proofs.YtmdmkdjeaffhaaaDoor
open Go.ChangeShapes Go.WideShapes Go.ChangeAt Go.RowKit
set_option linter.unusedVariables false

/-- The library's two errors lie in the world. -/
def HasErr (w : World) : Prop := (∃ te pe, w.cell? ⟨2, 0, none⟩ = some (.iface te pe)) ∧ (∃ te pe, w.cell? ⟨3, 0, none⟩ = some (.iface te pe))
theorem HasErr.kept {w w' : World} (h : HasErr w) (hb : Below w.heap.size w w') : HasErr w' := by
  obtain ⟨⟨a, b, h1⟩, ⟨c, d, h2⟩⟩ := h
  exact ⟨⟨a, b, (hb.cell (Lib.lt_of_cell h1)).trans h1⟩, ⟨c, d, (hb.cell (Lib.lt_of_cell h2)).trans h2⟩⟩
theorem below_bytes (w : World) (e : TypeId) (s : ByteArray) : Below w.heap.size w (Lib.bytesWorld w e s) :=
  ⟨rfl, rfl, rfl, by rw [Lib.bytesWorld_size]; omega, fun i hi => Lib.bytesWorld_at_old w e s i hi⟩

theorem atoi_ok (s : ByteArray) (hlim : s.size ≤ 281474976710656) (v : Int) (h : Lib.atoiAll s.data.toList = .ok v) (w : World) :
    Calls Tryd.prog 67 #[.string s] w fun e w' => e = .returned (.tuple #[.int .i64 v, .nilIface]) ∧ Below w.heap.size w w' :=
  (Tryd.strconv_Atoi_ok s (by omega) v h w).mono fun e w' ⟨he, hw⟩ => ⟨he, by
    rcases hw with rfl | ⟨t, rfl⟩
    · exact Below.refl _ _
    · exact below_bytes _ _ _⟩
theorem atoi_bad (s : ByteArray) (hlim : s.size ≤ 281474976710656) (h : ∀ v, Lib.atoiAll s.data.toList ≠ .ok v) (w : World) (hE : HasErr w) :
    Calls Tryd.prog 67 #[.string s] w fun e w' => ∃ q T p, e = .returned (.tuple #[.int .i64 q, .iface T (.pointer (some p))]) ∧ Below w.heap.size w w' := by
  obtain ⟨⟨a, b, h1⟩, ⟨c, d, h2⟩⟩ := hE
  generalize hk : Lib.atoiAll s.data.toList = k at h
  rcases k with v | _ | _
  · exact absurd rfl (h v)
  · exact (Any.strconv_Atoi_syntax Tryd.laysC172 s hlim hk _ w h1 (Or.inr ⟨a, b, rfl⟩)).mono fun e w' ⟨N, he, _, _, hw⟩ => ⟨_, _, _, he, hw⟩
  · exact (Tryd.strconv_Atoi_range s hlim hk _ w h2 (Or.inr ⟨c, d, rfl⟩)).mono fun e w' ⟨N, he, _, _, hw⟩ => ⟨_, _, _, he, hw⟩

theorem ret_pair {a b : Int} {x y : Bool} (h : a = b) (g : x = y) : Ending.returned (.tuple #[.int .i64 a, .bool x]) = .returned (.tuple #[.int .i64 b, .bool y]) := by rw [h, g]
set_option maxHeartbeats 1000000 in
theorem impl_parse (s : ByteArray) (hlim : s.size ≤ 281474976710656) (w : World) (hT : HasTab w) (hE : HasErr w) :
    Calls Tryd.prog 61 #[.string s] w fun e w' => e = .returned (.tuple #[.int .i64 (parsedVal s.data.toList), .bool (parsed s.data.toList)]) ∧ Below w.heap.size w w' := by
  by_cases hok : ∃ v, Lib.atoiAll s.data.toList = .ok v
  · obtain ⟨v, hv⟩ := hok
    obtain ⟨b0, b1⟩ := Lib.atoiAll_bounds hv
    have HV := Lib.hid hv
    clear hv
    by_cases hr : 0 ≤ v ∧ v ≤ 1000000000000
    · obtain ⟨r0, r1⟩ := hr
      go_enter Tryd.func61, Tryd.ntmps61
      go_wp2_with (first
        | (go_at_call 67; refine (atoi_ok s hlim v HV.out w).mono ?_; rintro e w1 ⟨rfl, hb1⟩)
        | (go_at_call 45; refine (impl_range _ _ _ _).mono ?_; rintro e w' ⟨rfl, rfl⟩)
        | (go_at_call 33; refine (impl_format _ _ b0 b1 (hT.kept hb1)).mono ?_; rintro e w2 ⟨rfl, hb2⟩))
      · go_ret2
        have hne : (!Lib.itoa v == s.toList) = true := by assumption
        rw [ByteArray.toList_eq] at hne
        have hp : parsed s.data.toList = false := by
          cases hp : parsed s.data.toList with
          | false => rfl
          | true =>
            have hx := atoi_of_parsed hp
            rw [HV.out] at hx
            injection hx.1 with hx1
            rw [← hx1] at hx
            rw [hx.2] at hne
            simp at hne
        exact ⟨ret_pair (parsedVal_no hp).symm hp.symm, hb1.trans (hb2.mono hb1.size)⟩
      · go_ret2
        have hne : (!Lib.itoa v == s.toList) = false := by assumption
        rw [ByteArray.toList_eq] at hne
        have hx := parsed_of_atoi (l := s.data.toList) (v := v) (by assumption) (by assumption) (by simpa using hne)
        exact ⟨ret_pair hx.2.symm hx.1.symm, hb1.trans (hb2.mono hb1.size)⟩
    · go_enter Tryd.func61, Tryd.ntmps61
      go_wp2_with (first
        | (go_at_call 67; refine (atoi_ok s hlim v HV.out w).mono ?_; rintro e w1 ⟨rfl, hb1⟩)
        | (go_at_call 45; refine (impl_range _ _ _ _).mono ?_; rintro e w' ⟨rfl, rfl⟩))
      go_ret2
      have hp : parsed s.data.toList = false := by
        cases hp : parsed s.data.toList with
        | false => rfl
        | true =>
          have hx := atoi_of_parsed hp
          rw [HV.out] at hx
          injection hx.1 with hx1
          have := parsedVal_bd s.data.toList
          omega
      exact ⟨ret_pair (parsedVal_no hp).symm hp.symm, hb1⟩
  · have HN := Lib.hid (show ∀ v, Lib.atoiAll s.data.toList ≠ .ok v from fun v hv => hok ⟨v, hv⟩)
    clear hok
    go_enter Tryd.func61, Tryd.ntmps61
    go_wp2_with (go_at_call 67; refine (atoi_bad s hlim HN.out w hE).mono ?_; rintro e w1 ⟨q, T, p, rfl, hb1⟩)
    go_ret2
    have hp : parsed s.data.toList = false := by
      cases hp : parsed s.data.toList with
      | false => rfl
      | true => exact absurd (atoi_of_parsed hp).1 (HN.out _)
    exact ⟨ret_pair (parsedVal_no hp).symm hp.symm, hb1⟩

/-- Does every byte before k stand for a digit? -/
theorem take_all {l : List UInt8} {k : Nat} (hk : k < l.length) (h : (l.take k).all isDig = true) : (l.take (k + 1)).all isDig = isDig l[k] := by
  rw [List.take_succ_eq_append_getElem hk, List.all_append, h]
  simp
set_option maxHeartbeats 1000000 in
theorem spec_parse (s : ByteArray) (hlim : s.size ≤ 281474976710656) (w : World) :
    Calls Tryd.prog 47 #[.string s] w fun e w' => e = .returned (.tuple #[.int .i64 (parsedVal s.data.toList), .bool (parsed s.data.toList)]) ∧ Below w.heap.size w w' := by
  have hsl : s.data.toList.length = s.size := Array.length_toList
  by_cases hr : 1 ≤ s.size ∧ s.size ≤ 13
  · obtain ⟨r0, r1⟩ := hr
    have r0' : (1 : Int) ≤ (s.size : Int) := by omega
    have r1' : (s.size : Int) ≤ 13 := by omega
    have HSL := Lib.hid hsl
    clear hsl
    go_enter Tryd.func47, Tryd.ntmps47
    go_wp2_with (go_at_call 41; refine (spec_l1In _ _ _ _).mono ?_; rintro e w' ⟨rfl, rfl⟩)
    go_loop [4, 5] (fun n i => ∃ k : Nat, k ≤ s.size ∧ i = .int .i64 k ∧ n = .int .i64 (digVal 0 (s.data.toList.take k) : Nat) ∧ Hid ((s.data.toList.take k).all isDig = true)) (fun _ i => s.size - (intOf i).toNat)
    case atStart => exact ⟨0, Nat.zero_le _, rfl, rfl, rfl⟩
    case round =>
      obtain ⟨k, hk, rfl, rfl, HA⟩ := hrel
      have hb : digVal 0 (s.data.toList.take k) < 10000000000000 := by
        have h1 := digVal_lt (s.data.toList.take k) 0 0 HA.out (by decide)
        have h2 : (s.data.toList.take k).length ≤ 13 := by have := List.length_take_le k s.data.toList; omega
        have h3 : 10 ^ (0 + (s.data.toList.take k).length) ≤ 10 ^ 13 := Nat.pow_le_pow_right (by decide) (by omega)
        omega
      by_cases hlt : k < s.size
      · have HT : Hid ((s.data.toList.take (k + 1)).all isDig = decide (48 ≤ s[k].toNat ∧ s[k].toNat ≤ 57)) := Lib.hid (take_all (by have := HSL.out; omega) HA.out)
        have HV : Hid (digVal 0 (s.data.toList.take (k + 1)) = digVal 0 (s.data.toList.take k) * 10 + (s[k].toNat - 48)) := Lib.hid (by
          rw [List.take_succ_eq_append_getElem (by have := HSL.out; omega), digVal_append, digVal_cons, digVal_nil]; rfl)
        by_cases hd : 48 ≤ s[k].toNat ∧ s[k].toNat ≤ 57
        · obtain ⟨d0, d1⟩ := hd
          have d0' : (48 : Int) ≤ (s[k].toNat : Int) := by omega
          have d1' : (s[k].toNat : Int) ≤ 57 := by omega
          go_wp2_with (go_at_call 41; refine (spec_l1In _ _ _ _).mono ?_; rintro e w' ⟨rfl, rfl⟩)
          go_round
          case rel => exact ⟨k + 1, by omega, by go_num, by rw [HV.out]; congr 1; omega, by unfold Hid; rw [HT.out]; simp [d0, d1]⟩
          case measure => simp [intOf]; omega
        · have HD := Lib.hid hd
          have HD' := Lib.hid (show ¬ ((48 : Int) ≤ (s[k].toNat : Int) ∧ (s[k].toNat : Int) ≤ 57) by omega)
          have hbb : (s[k].toNat : Int) ≤ 255 := by have := s[k].toNat_lt; omega
          clear hd
          go_wp2_with (go_at_call 41; refine (spec_l1In_no (s[k].toNat : Int) 48 57 _ HD'.out).mono ?_; rintro e w' ⟨rfl, rfl⟩)
          go_ret2
          have hp : parsed s.data.toList = false := by
            cases hp : parsed s.data.toList with
            | false => rfl
            | true =>
              have h1 : s.data.toList.all isDig = true := by
                unfold parsed at hp
                simp only [Bool.and_eq_true] at hp
                exact hp.1.1.2
              have h2 : (s.data.toList.take (k + 1)).all isDig = true := by
                rw [List.all_eq_true] at h1 ⊢
                exact fun x hx => h1 x (List.mem_of_mem_take hx)
              rw [HT.out] at h2
              exact absurd (of_decide_eq_true h2) HD.out
          exact ⟨ret_pair (parsedVal_no hp).symm hp.symm, Below.refl _ _⟩
      · obtain rfl : s.size = k := by omega
        have HK := Lib.hid (show s.data.toList.take s.size = s.data.toList from List.take_of_length_le (by have := HSL.out; omega))
        generalize hD : digVal 0 (s.data.toList.take s.size) = D at hb
        have HD := Lib.hid hD
        clear hD
        by_cases hm : D ≤ 1000000000000
        · go_wp2_with (go_at_call 28; refine (spec_format _ _ (by omega) (by omega)).mono ?_; rintro e w' ⟨rfl, hb1⟩)
          · go_ret2
            have hne : (!Lib.itoa (D : Int) == s.toList) = true := (show (1000000000000 : Int) < (D : Int) ∨ (!Lib.itoa (D : Int) == s.toList) = true by assumption).resolve_left (by omega)
            rw [ByteArray.toList_eq] at hne
            have hp : parsed s.data.toList = false := by
              cases hp : parsed s.data.toList with
              | false => rfl
              | true =>
                have hx := (atoi_of_parsed hp).2
                have hy : parsedVal s.data.toList = (D : Int) := by
                  have h3 := HD.out
                  rw [HK.out] at h3
                  unfold parsedVal
                  rw [if_pos hp, h3]
                rw [hy] at hx
                rw [hx] at hne
                simp at hne
            exact ⟨ret_pair (parsedVal_no hp).symm hp.symm, hb1⟩
          · go_ret2
            have hne : (!Lib.itoa (D : Int) == s.toList) = false := (show (D : Int) ≤ 1000000000000 ∧ (!Lib.itoa (D : Int) == s.toList) = false by assumption).2
            rw [ByteArray.toList_eq] at hne
            have hx := parsed_of_atoi (l := s.data.toList) (v := (D : Int)) (by omega) (by omega) (by simpa using hne)
            exact ⟨ret_pair hx.2.symm hx.1.symm, hb1⟩
        · go_wp2
          go_ret2
          have hp : parsed s.data.toList = false := by
            cases hp : parsed s.data.toList with
            | false => rfl
            | true =>
              unfold parsed at hp
              simp only [Bool.and_eq_true, decide_eq_true_eq] at hp
              have h3 := HD.out
              rw [HK.out] at h3
              have h4 := hp.1.2
              omega
          exact ⟨ret_pair (parsedVal_no hp).symm hp.symm, Below.refl _ _⟩
  · go_enter Tryd.func47, Tryd.ntmps47
    have hr' : ¬ ((1 : Int) ≤ (s.size : Int) ∧ (s.size : Int) ≤ 13) := by omega
    have HR := Lib.hid hr
    have HSL := Lib.hid hsl
    clear hr hsl
    go_wp2_with (go_at_call 41; refine (spec_l1In _ _ _ _).mono ?_; rintro e w' ⟨rfl, rfl⟩)
    go_ret2
    have hp : parsed s.data.toList = false := by
      cases hp : parsed s.data.toList with
      | false => rfl
      | true =>
        obtain ⟨u, hu, he⟩ := parsed_inv hp
        have h1 := decDigits_le 12 u (by omega)
        have h2 := decDigits_pos u
        rw [← he, HSL.out] at h1 h2
        exact absurd ⟨h2, h1⟩ HR.out
    exact ⟨ret_pair (parsedVal_no hp).symm hp.symm, Below.refl _ _⟩
end Go.Proofs.YtmdmkdjeaffhaaaDoor
