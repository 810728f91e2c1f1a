/- Contracts of chapter 2's model: AppendBytes, ReadBytes, EncodeInts, DecodeInts, EqualBytes. -/
import Derived.Test.YtcfmkdofiehfmaaEnc
import Derived.Test.YtcfmkdofiehfmaaRead
import Derived.Test.YtcfmkdofiehfmaaIntSl
import Derived.Laws.BytesArg
namespace Go.Proofs.Ytcfmkdofiehfmaa
open Go.ChangeShapes Go.WideShapes Go.ChangeAt Go.RowKit
set_option linter.unusedVariables false

theorem spec_appendBytes (w : World) (hi hi' : Nat) (v u : Value) (xs ys : List Int) (h : Row .u8 w hi v xs) (hh : hi ≤ w.heap.size) (hn : xs.length ≤ 1099511627776) (h' : Row .u8 w hi' u ys) (hh' : hi' ≤ w.heap.size) (hn' : ys.length ≤ 1099511627770) :
    Calls Try.prog 31 #[v, u] w fun e w' => ∃ r, e = .returned r ∧ Own 5 .u8 w' w.heap.size w'.heap.size r (xs ++ enc (ys.length : Int) ++ ys) ∧ Below w.heap.size w w' := by
  obtain ⟨i0, hi0, hz0, hz1, hz2⟩ := info_parts infoByteS
  have hr' := h'
  obtain ⟨⟨a, c, rfl, r1, r2, _, _⟩, _⟩ := h'
  unfold maxLen at r2
  have hel := enc_le (ys.length : Int)
  go_enter Try.func31, Try.ntmps31
  go_wp2_with fail
  refine (spec_append w hi v xs (ys.length : Int) h hh hn).mono ?_
  rintro e w1 ⟨q, rfl, hown, hb⟩
  have hr1 := hr'.below hb hh'
  go_wp2_with (at_builtin; refine wpList_append_Own rfl _ _ 22 rfl 5 i0 (.int .u8 0) 1 Try.underlying22 hi0 hz0 hz1 hz2 rfl .u8 w.heap.size _ q (xs ++ enc (ys.length : Int)) rfl hown _ _ ys rfl hr1 (by simp only [List.length_append]; omega) (by decide) hb.size ?_; intro v2 w2 hown2 hb2)
  go_ret
  exact ⟨v2, rfl, hown2, hb.trans hb2⟩

/-- What ReadBytes reads. -/
def readBytesOf (l : List Int) (a most : Int) : Option (List Int × Nat) := match readOf l a with
  | some (n, nx) => if (n : Int) ≤ most ∧ n + nx ≤ l.length then some ((l.drop nx).take n, nx + n) else none
  | none => none
/-- ReadBytes's three results, the first a slice of its own. -/
def BytesRes (E : TypeId) (r : Option (List Int × Nat)) (w w' : World) (e : Ending) : Prop := match r with
  | some (l, nx) => ∃ u, e = .returned (.tuple #[u, .int .i64 (nx : Int), .bool true]) ∧ Own E .u8 w' w.heap.size w'.heap.size u l ∧ Below w.heap.size w w'
  | none => ∃ u, e = .returned (.tuple #[u, .int .i64 0, .bool false]) ∧ Own E .u8 w' w.heap.size w'.heap.size u [] ∧ Below w.heap.size w w'
theorem readBytesOf_le {l : List Int} {a most : Int} {p : List Int × Nat} (h : readBytesOf l a most = some p) : p.1.length ≤ l.length := by
  unfold readBytesOf at h
  split at h
  · split at h
    · injection h with h
      subst h
      simp only [List.length_take, List.length_drop]
      omega
    · cases h
  · cases h
theorem rd_bd : ∀ (f k n : Nat) (l : List Int) (p : Nat × Nat), rd f k n l = some p → k + 1 ≤ p.2 ∧ p.2 ≤ k + l.length ∧ p.1 ≤ 1000000000000
  | 0, _, _, _, _, h => by simp [rd] at h
  | f + 1, k, n, [], _, h => by simp [rd] at h
  | f + 1, k, n, x :: r, p, h => by
    rw [rd] at h
    split at h
    · split at h
      · cases h
      · injection h with h
        subst h
        simp only [List.length_cons]
        omega
    · have := rd_bd f (k + 1) _ r p h
      simp only [List.length_cons]
      omega
theorem readOf_bd {l : List Int} {a : Int} {n nx : Nat} (h : readOf l a = some (n, nx)) : 0 ≤ a ∧ a < nx ∧ nx ≤ l.length ∧ n ≤ 1000000000000 := by
  unfold readOf at h
  split at h
  · rename_i ha
    obtain ⟨p, hp, e⟩ := Option.map_eq_some_iff.1 h
    injection e with e1 e2
    have := rd_bd _ _ _ _ _ hp
    rw [List.length_drop] at this
    subst e1
    subst e2
    have h3 : a.toNat ≤ l.length := by
      rcases Nat.lt_or_ge l.length a.toNat with h4 | h4
      · rw [List.drop_eq_nil_of_le (by omega)] at hp
        simp [rd] at hp
      · exact h4
    omega
  · cases h
set_option maxHeartbeats 1000000 in
theorem spec_readBytes (w : World) (hi : Nat) (v : Value) (l : List Int) (a most : Int) (h : Row .u8 w hi v l) (hh : hi ≤ w.heap.size) (hn : l.length ≤ 1099511627776) (h0 : -9223372036854775808 ≤ a) (h1 : a ≤ 9223372036854775807) :
    Calls Try.prog 32 #[v, .int .i64 a, .int .i64 most] w fun e w' => BytesRes 5 (readBytesOf l a most) w w' e := by
  obtain ⟨i0, hi0, hz0, hz1, hz2⟩ := info_parts infoByteS
  have HR := Lib.hid h
  obtain ⟨⟨A, c, rfl, r1, r2, _, r3⟩, _⟩ := h
  unfold maxLen at r2
  have hE := Lib.hid (Own.empty 5 .u8 w)
  have hBa := (Below.refl w.heap.size w).alloc (Nat.le_refl _) (.cells #[] 5)
  have none_case : readBytesOf l a most = none → BytesRes 5 (readBytesOf l a most) w (w.alloc (.cells #[] 5)) (.returned (.tuple #[.slice (some ⟨w.heap.size, 0, none⟩) 0 0, .int .i64 0, .bool false])) := fun e => by
    rw [e]
    exact ⟨_, rfl, hE.out.wide (Nat.le_refl _) (by simp), hBa⟩
  cases hk : readOf l a with
  | none =>
    have HN := Lib.hid (none_case (by unfold readBytesOf; rw [hk]))
    clear none_case
    have HK := Lib.hid hk
    clear hk
    go_enter Try.func32, Try.ntmps32
    go_wp2_with fail
    refine (spec_read w hi _ l a HR.out hn h0 h1).mono ?_
    rintro e w1 ⟨rfl, rfl⟩
    rw [HK.out]
    unfold readRes
    go_wp2
    go_ret3
    exact HN.out
  | some p =>
    obtain ⟨n, nx⟩ := p
    obtain ⟨b0, b1, b2, b3⟩ := readOf_bd hk
    by_cases hc : (n : Int) ≤ most ∧ n + nx ≤ l.length
    · have HQ := Lib.hid (show readBytesOf l a most = some ((l.drop nx).take n, nx + n) by unfold readBytesOf; rw [hk]; exact if_pos hc)
      obtain ⟨c1, c2⟩ := hc
      have HK := Lib.hid hk
      clear hk none_case
      obtain ⟨b, off, rfl, _, _, _⟩ := r3 (by omega)
      clear r3
      have hbnd : (n : Int) + (nx : Int) ≤ (l.length : Int) := by omega
      by_cases hcn : c = nx
      · have hn0 : n = 0 := by omega
        subst hn0
        subst hcn
        have HSUB := Lib.hid (show Row .u8 (w.alloc (.cells #[] 5)) hi (.slice (some ⟨b, off, none⟩) 0 0) ((l.drop c).take 0) by rw [List.take_zero]; exact Row.zero _ _ _ _ _ (by decide))
        have hle : ([] : List Int).length + ((l.drop c).take 0).length ≤ 2199023255552 := by simp
        have hsz : w.heap.size ≤ (w.alloc (.cells #[] 5)).heap.size := by simp
        go_enter Try.func32, Try.ntmps32
        go_wp2_with fail
        refine (spec_read w hi _ l a HR.out hn h0 h1).mono ?_
        rintro e w1 ⟨rfl, hw⟩
        subst hw
        rw [HK.out]
        unfold readRes
        go_wp2_with (at_builtin; go_loud (refine wpList_append_Own rfl _ _ 22 rfl 5 i0 (.int .u8 0) 1 Try.underlying22 hi0 hz0 hz1 hz2 rfl .u8 _ _ _ [] rfl hE.out hi _ _ rfl HSUB.out hle (by decide) hsz ?_); intro v2 w2 hown2 hb2)
        go_ret3
        rw [HQ.out]
        exact ⟨v2, rfl, hown2, hBa.trans hb2⟩
      · have HSUB := Lib.hid (show Row .u8 (w.alloc (.cells #[] 5)) hi (.slice (some ⟨b, off + nx, none⟩) (nx + n - nx) (c - nx)) ((l.drop nx).take n) by
          rw [Nat.add_sub_cancel_left]
          exact (HR.out.sub nx n (by omega)).below hBa hh)
        have hle : ([] : List Int).length + ((l.drop nx).take n).length ≤ 2199023255552 := by rw [List.length_take, List.length_nil]; omega
        have hsz : w.heap.size ≤ (w.alloc (.cells #[] 5)).heap.size := by simp
        go_enter Try.func32, Try.ntmps32
        go_wp2_with fail
        refine (spec_read w hi _ l a HR.out hn h0 h1).mono ?_
        rintro e w1 ⟨rfl, hw⟩
        subst hw
        rw [HK.out]
        unfold readRes
        go_wp2_with (at_builtin; go_loud (refine wpList_append_Own rfl _ _ 22 rfl 5 i0 (.int .u8 0) 1 Try.underlying22 hi0 hz0 hz1 hz2 rfl .u8 _ _ _ [] rfl hE.out hi _ _ rfl HSUB.out hle (by decide) hsz ?_); intro v2 w2 hown2 hb2)
        go_ret3
        rw [HQ.out]
        exact ⟨v2, rfl, hown2, hBa.trans hb2⟩
    · have HN := Lib.hid (none_case (by unfold readBytesOf; rw [hk]; exact if_neg hc))
      have HK := Lib.hid hk
      clear hk none_case
      have hc2 : most < (n : Int) ∨ ((l.length : Int) < (n : Int) + (nx : Int) ∧ (n : Int) ≤ most) := by omega
      clear hc
      rcases hc2 with hc2 | ⟨hc2, hc3⟩
      all_goals
        go_enter Try.func32, Try.ntmps32
        go_wp2_with fail
        refine (spec_read w hi _ l a HR.out hn h0 h1).mono ?_
        rintro e w1 ⟨rfl, rfl⟩
        rw [HK.out]
        unfold readRes
        go_wp2
        go_ret3
        exact HN.out
/-- The varints of some integers, one behind the other. -/
def encAll (l : List Int) : List Int := l.flatMap enc
theorem encAll_le (l : List Int) : (encAll l).length ≤ 6 * l.length := by
  induction l with
  | nil => simp [encAll]
  | cons x l ih =>
    have := enc_le x
    simp only [encAll, List.flatMap_cons, List.length_append, List.length_cons] at ih ⊢
    omega
theorem encAll_take (l : List Int) (k : Nat) (hk : k < l.length) : encAll (l.take (k + 1)) = encAll (l.take k) ++ enc l[k] := by
  unfold encAll
  rw [List.take_succ_eq_append_getElem hk, List.flatMap_append]
  congr 1
  rw [List.flatMap_cons, List.flatMap_nil, List.append_nil]
set_option maxHeartbeats 1000000 in
theorem spec_encode (w : World) (hi : Nat) (v : Value) (l : List Int) (h : Row .i64 w hi v l) (hh : hi ≤ w.heap.size) (hn : l.length ≤ 137438953472) :
    Calls Try.prog 33 #[v] w fun e w' => ∃ u, e = .returned u ∧ Own 5 .u8 w' w.heap.size w'.heap.size u (encAll l) ∧ Below w.heap.size w w' := by
  have hwf := Lib.hid h.wf
  obtain ⟨⟨A, c, rfl, r1, r2, _, r3⟩, _⟩ := h
  unfold maxLen at r2
  have R3 := Lib.hid r3
  clear r3
  have hO := (Own.empty 5 .u8 w).wide (lo' := w.heap.size) (hi' := (w.alloc (.cells #[] 5)).heap.size) (Nat.le_refl _) (by simp)
  have hB := (Below.refl w.heap.size w).alloc (Nat.le_refl _) (.cells #[] 5)
  go_enter Try.func33, Try.ntmps33
  go_wp2
  go_loopw [3, 4] (fun o i wr => ∃ k : Nat, k ≤ l.length ∧ i = .int .i64 (k : Int) ∧ Own 5 .u8 wr w.heap.size wr.heap.size o (encAll (l.take k)) ∧ Below w.heap.size w wr) (fun _ i _ => l.length - (intOf i).toNat)
  case atStart => exact ⟨0, Nat.zero_le _, rfl, by simpa [encAll] using hO, hB⟩
  case round =>
    obtain ⟨k, hk, rfl, hown, hb⟩ := hrel
    by_cases hlt : k < l.length
    · obtain ⟨b, off, rfl, p1, p2, p3⟩ := R3.out (by omega)
      have hx := (hb.cell (p := ⟨b, off + k, none⟩) (by show b < _; omega)).trans (p3 k hlt)
      rw [show l.getD k 0 = l[k] by simp [List.getD, hlt]] at hx
      have HT := Lib.hid (encAll_take l k hlt)
      have hle := encAll_le (l.take k)
      have hlk : (l.take k).length ≤ l.length := List.length_take_le' ..
      generalize l[k] = x at hx HT
      clear p3
      go_wp2_with fail
      refine (spec_append wr wr.heap.size _ (encAll (l.take k)) x hown.read (Nat.le_refl _) (by omega)).mono ?_
      rintro e w2 ⟨u, rfl, hown2, hb2⟩
      go_wp2
      go_roundw
      case rel => exact ⟨k + 1, by omega, by go_num, by rw [HT.out]; exact hown2.wide hb.size (Nat.le_refl _), hb.trans (hb2.mono hb.size)⟩
      case measure => simp only [intOf]; omega
    · go_wp2
      go_ret
      refine ⟨_, rfl, ?_, hb⟩
      rwa [List.take_of_length_le (by omega)] at hown
theorem nums_inj {xs ys : List Int} (hx : ∀ x ∈ xs, (Lit.int .u8 x).wf = true) (hy : ∀ x ∈ ys, (Lit.int .u8 x).wf = true) (h : strOfNums xs = strOfNums ys) : xs = ys := by
  have h1 := congrArg (fun s : ByteArray => s.data.toList) h
  simp only [strOfNums_data] at h1
  induction xs generalizing ys with
  | nil => cases ys with
    | nil => rfl
    | cons y ys => simp at h1
  | cons x xs ih => cases ys with
    | nil => simp at h1
    | cons y ys =>
      simp only [List.map_cons, List.cons.injEq] at h1
      have bx := bounds_u8 (hx x (by simp))
      have bY := bounds_u8 (hy y (by simp))
      have e : x = y := by
        have h2 := congrArg UInt8.toNat h1.1
        rw [UInt8.toNat_ofNat', UInt8.toNat_ofNat'] at h2
        omega
      have e2 := ih (ys := ys) (fun q hq => hx q (by simp [hq])) (fun q hq => hy q (by simp [hq])) (by apply ByteArray.ext; apply Array.toList_inj.1; rw [strOfNums_data, strOfNums_data]; exact h1.2) h1.2
      rw [e, e2]
theorem conv_row (w : World) (hi : Nat) (v : Value) (xs : List Int) (h : Row .u8 w hi v xs) : (convert 22 9 v).run Try.prog w = .ok (.string (strOfNums xs)) w := by
  obtain ⟨⟨A, c, rfl, r1, r2, r0, r3⟩, _⟩ := h
  rcases A with _ | ad
  · have hl : xs = [] := by
      rcases Nat.eq_zero_or_pos xs.length with h0 | hp
      · exact List.length_eq_zero_iff.mp h0
      · obtain ⟨_, _, e1, _⟩ := r3 hp
        cases e1
    subst hl
    exact run_convert_bytes_nil w _ _ Try.underlying22 Try.underlying5 _ _ 9 Try.underlying9
  · by_cases hp : 0 < xs.length
    · obtain ⟨b, off, e1, _, _, r4⟩ := r3 hp
      injection e1 with e1
      subst e1
      exact run_convert_bytes_arg w _ _ Try.underlying22 Try.underlying5 b off _ c xs rfl r4 9 Try.underlying9
    · have hl : xs = [] := List.length_eq_zero_iff.mp (by omega)
      subst hl
      have hrun : (loadCells ad 0).run Try.prog w = .ok (([] : List Int).map (Value.int .u8)).toArray w := run_loadCells_list w ad [] (fun j u hj => by simp at hj)
      rw [List.length_nil, run_convert_bytes_string w _ _ 5 _ 0 c Try.underlying22 Try.underlying5 Try.underlying9, run_bytesToString w ad 0 c [] hrun]
      rfl
theorem spec_equal (w : World) (hi hi' : Nat) (v u : Value) (xs ys : List Int) (h : Row .u8 w hi v xs) (h' : Row .u8 w hi' u ys) :
    Calls Try.prog 39 #[v, u] w fun e w' => e = .returned (.bool (decide (xs = ys))) ∧ w' = w := by
  have c1 := conv_row w hi v xs h
  have c2 := conv_row w hi' u ys h'
  have HI := Lib.hid (fun e : strOfNums xs = strOfNums ys => nums_inj h.wf h'.wf e)
  go_enter Try.func39, Try.ntmps39
  go_wp2
  go_ret
  refine ⟨ret_b ?_, rfl⟩
  rw [ByteArray.toList_eq, ByteArray.toList_eq]
  by_cases e : xs = ys
  · rw [decide_eq_true e, e]
    simp
  · rw [decide_eq_false e, beq_eq_false_iff_ne]
    intro e2
    exact e (HI.out (ByteArray.ext (Array.toList_inj.1 e2)))
end Go.Proofs.Ytcfmkdofiehfmaa
