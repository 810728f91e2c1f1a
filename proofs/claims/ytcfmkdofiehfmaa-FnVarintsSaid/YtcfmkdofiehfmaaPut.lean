/- Contracts of the program's chapter 2: what is encoded (Clone, AppendUvarint, AppendBytes, EncodeInts), and EqualBytes. -/
import Derived.Test.YtcfmkdofiehfmaaEnc2
import Derived.Lib.SliceRun
namespace Go.Proofs.Ytcfmkdofiehfmaa
open Go.ChangeShapes Go.WideShapes Go.ChangeAt Go.RowKit
set_option linter.unusedVariables false

theorem impl_range_yes (n l h : Int) (w : World) (hy : l ≤ n ∧ n ≤ h) :
    Calls Try.prog 51 #[.int .i64 n, .int .i64 l, .int .i64 h] w fun e w' => e = .returned (.bool true) ∧ w = w' :=
  (impl_range n l h w).mono fun e w' he => ⟨by rw [he.1, decide_eq_true hy], he.2⟩
theorem impl_range_no (n l h : Int) (w : World) (hy : ¬(l ≤ n ∧ n ≤ h)) :
    Calls Try.prog 51 #[.int .i64 n, .int .i64 l, .int .i64 h] w fun e w' => e = .returned (.bool false) ∧ w = w' :=
  (impl_range n l h w).mono fun e w' he => ⟨by rw [he.1, decide_eq_false hy], he.2⟩

theorem own_nil (E : TypeId) (K : IntKind) (w : World) (lo hi : Nat) : Own E K w lo hi (.slice none 0 0) [] :=
  ⟨World.ownsRow_nil w lo E 1, fun k hk => by simp [Value.ownBlock] at hk, fun x hx => by cases hx⟩
/-- A copy that the call owns; nil stays nil. -/
theorem bytes_clone (w : World) (hi : Nat) (v : Value) (xs : List Int) (h : Row .u8 w hi v xs) (hh : hi ≤ w.heap.size) (hn : xs.length ≤ 1099511627776) :
    Calls Try.prog 46 #[v] w fun e w' => ∃ u, e = .returned u ∧ Own 5 .u8 w' w.heap.size w'.heap.size u xs ∧ Below w.heap.size w w' := by
  obtain ⟨i0, hi0, hz0, hz1, hz2⟩ := info_parts infoByteS
  have hA := (Below.refl w.heap.size w).alloc (Nat.le_refl _) (.cells #[] 5)
  have hR := h.below hA hh
  have hO := Own.empty 5 .u8 w
  have HR := Lib.hid hR
  obtain ⟨⟨A, c, rfl, r1, r2, r0, r3⟩, _⟩ := h
  rcases A with _ | ad
  · obtain rfl := r0 rfl
    have hl : xs = [] := by
      rcases Nat.eq_zero_or_pos xs.length with h0 | hp
      · exact List.length_eq_zero_iff.mp h0
      · obtain ⟨_, _, e1, _⟩ := r3 hp
        cases e1
    subst hl
    have hcmp := fun w : World => Lib.run_eql_slice_nil w 22 5 none 0 0 0 0 Try.underlying22
    go_enter Try.func46, Try.ntmps46
    go_wp2
    go_ret
    exact ⟨_, rfl, own_nil _ _ _ _ _, Below.refl _ _⟩
  · have hle : ([] : List Int).length + xs.length ≤ 2199023255552 := by simp; omega
    have hsz : w.heap.size ≤ (w.alloc (.cells #[] 5)).heap.size := by simp
    clear r3 r0
    have hcmp := fun w : World => Lib.run_eql_slice_nil w 22 5 (some ad) xs.length c 0 0 Try.underlying22
    go_enter Try.func46, Try.ntmps46
    go_wp2_with (at_builtin; refine wpList_append_Own rfl _ _ 22 rfl 5 i0 (.int .u8 0) 1 Try.underlying22 hi0 hz0 hz1 hz2 rfl .u8 w.heap.size _ (.slice (some ⟨w.heap.size, 0, none⟩) 0 0) [] rfl hO hi _ xs rfl HR.out hle (by decide) hsz ?_; intro v1 w1 hown hb1)
    go_ret
    exact ⟨v1, rfl, hown, hA.trans hb1⟩
set_option maxRecDepth 100000 in
set_option maxHeartbeats 1000000 in
/-- The varint of N is appended to a slice that the caller owns. -/
theorem impl_put (w : World) (lo hi : Nat) (v : Value) (xs : List Int) (N : Int) (h : Own 5 .u8 w lo hi v xs) (hlo : lo ≤ w.heap.size) (hn : xs.length ≤ 1099511627776) :
    Calls Try.prog 45 #[v, .int .i64 N] w fun e w' => ∃ u, e = .returned u ∧ Own 5 .u8 w' lo w'.heap.size u (xs ++ enc N) ∧ Below lo w w' := by
  obtain ⟨i0, hi0, hz0, hz1, hz2⟩ := info_parts infoByteS
  by_cases hr : 0 ≤ N ∧ N ≤ 1000000000000
  · obtain ⟨M, rfl⟩ := Int.eq_ofNat_of_zero_le hr.1
    have hM : M ≤ 1000000000000 := by omega
    have HE := Lib.hid (show enc (M : Int) = uv M by unfold enc; rw [if_pos hr]; simp)
    have HL := Lib.hid (uv_le 5 M (by omega))
    have hO : Own 5 .u8 w lo w.heap.size v xs := ⟨h.row, fun k hk => (h.lt k hk).2.2, h.wf⟩
    clear h
    go_enter Try.func45, Try.ntmps45
    go_wp2_with (go_at_call 51; refine (impl_range_yes _ _ _ _ hr).mono ?_; rintro e w' ⟨rfl, rfl⟩)
    go_loopw [0, 1] (fun o q wr => ∃ (m : Nat) (pre : List Int), m ≤ M ∧ q = .int .i64 (m : Int) ∧ Hid (uv M = pre ++ uv m) ∧ Own 5 .u8 wr lo wr.heap.size o (xs ++ pre) ∧ Below lo w wr) (fun _ q _ => (intOf q).toNat)
    case atStart => exact ⟨M, [], Nat.le_refl _, rfl, rfl, by simpa using hO, Below.refl _ _⟩
    case round =>
      obtain ⟨m, pre, hm, rfl, HU, hown2, hb⟩ := hrel
      have hlp : pre.length ≤ 6 := by
        have h5 := congrArg List.length HU.out
        rw [List.length_append] at h5
        have := HL.out
        omega
      have hlo2 : lo ≤ wr.heap.size := Nat.le_trans hlo hb.size
      have hO3 := hown2.below (B := wr.heap.size) ((Below.refl _ wr).alloc (Nat.le_refl _) (.cells #[.int .u8 (if m < 128 then (m : Int) else 128 + (m : Int) % 128)] 5)) (Nat.le_refl _)
      have hR3 := row_one .u8 5 wr (if m < 128 then (m : Int) else 128 + (m : Int) % 128) (by split <;> exact wf_u8 (by omega) (by omega))
      have hb3 := hb.alloc hlo2 (.cells #[.int .u8 (if m < 128 then (m : Int) else 128 + (m : Int) % 128)] 5)
      clear hown2
      by_cases hlt : m < 128
      · rw [if_pos hlt] at hO3 hR3 hb3
        have hle : (xs ++ pre).length + [(m : Int)].length ≤ 2199023255552 := by simp; omega
        have hsz : lo ≤ (wr.alloc (.cells #[.int .u8 (m : Int)] 5)).heap.size := by simp; omega
        go_wp2_with (at_builtin; refine wpList_append_Own rfl _ _ 22 rfl 5 i0 (.int .u8 0) 1 Try.underlying22 hi0 hz0 hz1 hz2 rfl .u8 lo _ _ (xs ++ pre) rfl hO3 _ _ [(m : Int)] rfl hR3 hle (by decide) hsz ?_; intro v2 w2 hown3 hb4)
        go_ret
        refine ⟨v2, rfl, ?_, hb3.trans hb4⟩
        rw [HE.out, HU.out, uv_small hlt, ← List.append_assoc]
        exact hown3
      · rw [if_neg hlt] at hO3 hR3 hb3
        have HB := Lib.hid (uv_big hlt)
        have hle : (xs ++ pre).length + [128 + (m : Int) % 128].length ≤ 2199023255552 := by simp; omega
        have hsz : lo ≤ (wr.alloc (.cells #[.int .u8 (128 + (m : Int) % 128)] 5)).heap.size := by simp; omega
        go_wp2_with (at_builtin; refine wpList_append_Own rfl _ _ 22 rfl 5 i0 (.int .u8 0) 1 Try.underlying22 hi0 hz0 hz1 hz2 rfl .u8 lo _ _ (xs ++ pre) rfl hO3 _ _ [128 + (m : Int) % 128] rfl hR3 hle (by decide) hsz ?_; intro v2 w2 hown3 hb4)
        go_roundw
        case rel =>
          refine ⟨m / 128, pre ++ [128 + (m : Int) % 128], by omega, by go_num, ?_, ?_, hb3.trans hb4⟩
          · unfold Hid
            rw [HU.out, HB.out, List.append_assoc]
            congr 2
            omega
          · rw [← List.append_assoc]
            exact hown3
        case measure => simp only [intOf]; omega
  · have HE := Lib.hid (show enc N = [] by unfold enc; rw [if_neg hr])
    have HN := Lib.hid hr
    have hO : Own 5 .u8 w lo w.heap.size v xs := ⟨h.row, fun k hk => (h.lt k hk).2.2, h.wf⟩
    clear hr h
    go_enter Try.func45, Try.ntmps45
    go_wp2_with (go_at_call 51; refine (impl_range_no _ _ _ _ HN.out).mono ?_; rintro e w' ⟨rfl, rfl⟩)
    go_ret
    exact ⟨_, rfl, by rw [HE.out, List.append_nil]; exact hO, Below.refl _ _⟩
theorem impl_append (w : World) (hi : Nat) (v : Value) (xs : List Int) (N : Int) (h : Row .u8 w hi v xs) (hh : hi ≤ w.heap.size) (hn : xs.length ≤ 1099511627776) :
    Calls Try.prog 14 #[v, .int .i64 N] w fun e w' => ∃ u, e = .returned u ∧ Own 5 .u8 w' w.heap.size w'.heap.size u (xs ++ enc N) ∧ Below w.heap.size w w' := by
  go_enter Try.func14, Try.ntmps14
  go_wp2_with fail
  refine (bytes_clone w hi v xs h hh hn).mono ?_
  rintro e w1 ⟨q, rfl, hown, hb⟩
  go_wp2_with fail
  refine (impl_put w1 w.heap.size _ q xs N hown hb.size hn).mono ?_
  rintro e w2 ⟨u, rfl, hown2, hb2⟩
  go_wp2
  go_ret
  exact ⟨u, rfl, hown2, hb.trans hb2⟩
theorem impl_appendBytes (w : World) (hi hi' : Nat) (v u : Value) (xs ys : List Int) (h : Row .u8 w hi v xs) (hh : hi ≤ w.heap.size) (hn : xs.length ≤ 1099511627776) (h' : Row .u8 w hi' u ys) (hh' : hi' ≤ w.heap.size) (hn' : ys.length ≤ 1099511627770) :
    Calls Try.prog 20 #[v, u] w fun e w' => ∃ r, e = .returned r ∧ Own 5 .u8 w' w.heap.size w'.heap.size r (xs ++ enc (ys.length : Int) ++ ys) ∧ Below w.heap.size w w' := by
  obtain ⟨i0, hi0, hz0, hz1, hz2⟩ := info_parts infoByteS
  have hr' := h'
  obtain ⟨⟨a, c, rfl, r1, r2, _, _⟩, _⟩ := h'
  unfold maxLen at r2
  have hel := enc_le (ys.length : Int)
  go_enter Try.func20, Try.ntmps20
  go_wp2_with fail
  refine (impl_append w hi v xs (ys.length : Int) h hh hn).mono ?_
  rintro e w1 ⟨q, rfl, hown, hb⟩
  have hr1 := hr'.below hb hh'
  have hle : (xs ++ enc (ys.length : Int)).length + ys.length ≤ 2199023255552 := by simp only [List.length_append]; omega
  go_wp2_with (at_builtin; refine wpList_append_Own rfl _ _ 22 rfl 5 i0 (.int .u8 0) 1 Try.underlying22 hi0 hz0 hz1 hz2 rfl .u8 w.heap.size _ q (xs ++ enc (ys.length : Int)) rfl hown _ _ ys rfl hr1 hle (by decide) hb.size ?_; intro v2 w2 hown2 hb2)
  go_ret
  exact ⟨v2, rfl, hown2, hb.trans hb2⟩
set_option maxHeartbeats 1000000 in
theorem impl_encode (w : World) (hi : Nat) (v : Value) (l : List Int) (h : Row .i64 w hi v l) (hh : hi ≤ w.heap.size) (hn : l.length ≤ 137438953472) :
    Calls Try.prog 23 #[v] w fun e w' => ∃ u, e = .returned u ∧ Own 5 .u8 w' w.heap.size w'.heap.size u (encAll l) ∧ Below w.heap.size w w' := by
  obtain ⟨⟨A, c, rfl, r1, r2, _, r3⟩, _⟩ := h
  unfold maxLen at r2
  have R3 := Lib.hid r3
  clear r3
  have hO := (Own.empty 5 .u8 w).wide (lo' := w.heap.size) (hi' := (w.alloc (.cells #[] 5)).heap.size) (Nat.le_refl _) (by simp)
  have hB := (Below.refl w.heap.size w).alloc (Nat.le_refl _) (.cells #[] 5)
  go_enter Try.func23, Try.ntmps23
  go_wp2
  go_loopw [3, 9] (fun o i wr => ∃ k : Nat, k ≤ l.length ∧ i = .int .i64 (k : Int) ∧ Own 5 .u8 wr w.heap.size wr.heap.size o (encAll (l.take k)) ∧ Below w.heap.size w wr) (fun _ i _ => l.length - (intOf i).toNat)
  case atStart => exact ⟨0, Nat.zero_le _, rfl, by simpa [encAll] using hO, hB⟩
  case round =>
    obtain ⟨k, hk, rfl, hown, hb⟩ := hrel
    by_cases hlt : k < l.length
    · obtain ⟨b, off, rfl, p1, p2, p3⟩ := R3.out (by omega)
      have hx := (hb.cell (p := ⟨b, off + k, none⟩) (by show b < _; omega)).trans (p3 k hlt)
      rw [show l.getD k 0 = l[k] by simp [List.getD, hlt]] at hx
      have HT := Lib.hid (encAll_take l k hlt)
      have hle := encAll_le (l.take k)
      have hlk : (l.take k).length ≤ l.length := List.length_take_le' ..
      generalize l[k] = x at hx HT
      clear p3
      go_wp2_with fail
      refine (impl_put wr w.heap.size _ _ (encAll (l.take k)) x hown hb.size (by omega)).mono ?_
      rintro e w2 ⟨u, rfl, hown2, hb2⟩
      go_wp2
      go_roundw
      case rel => exact ⟨k + 1, by omega, by go_num, by rw [HT.out]; exact hown2, hb.trans hb2⟩
      case measure => simp only [intOf]; omega
    · go_wp2
      go_ret
      refine ⟨_, rfl, ?_, hb⟩
      rwa [List.take_of_length_le (by omega)] at hown
theorem bytes_equal (w : World) (hi hi' : Nat) (v u : Value) (xs ys : List Int) (h : Row .u8 w hi v xs) (h' : Row .u8 w hi' u ys) :
    Calls Try.prog 53 #[v, u] w fun e w' => e = .returned (.bool (decide (xs = ys))) ∧ w' = w := by
  have c1 := conv_row w hi v xs h
  have c2 := conv_row w hi' u ys h'
  have HI := Lib.hid (fun e : strOfNums xs = strOfNums ys => nums_inj h.wf h'.wf e)
  go_enter Try.func53, Try.ntmps53
  go_wp2
  go_ret
  refine ⟨ret_b ?_, rfl⟩
  rw [ByteArray.toList_eq, ByteArray.toList_eq]
  by_cases e : xs = ys
  · rw [decide_eq_true e, e]
    simp
  · rw [decide_eq_false e, beq_eq_false_iff_ne]
    intro e2
    exact e (HI.out (ByteArray.ext (Array.toList_inj.1 e2)))
theorem impl_equal (w : World) (hi hi' : Nat) (v u : Value) (xs ys : List Int) (h : Row .u8 w hi v xs) (h' : Row .u8 w hi' u ys) :
    Calls Try.prog 40 #[v, u] w fun e w' => e = .returned (.bool (decide (xs = ys))) ∧ w' = w := by
  go_enter Try.func40, Try.ntmps40
  go_wp2_with fail
  refine (bytes_equal w hi hi' v u xs ys h h').mono ?_
  rintro e w1 ⟨rfl, rfl⟩
  go_wp2
  go_ret
  exact ⟨rfl, rfl⟩
end Go.Proofs.Ytcfmkdofiehfmaa
