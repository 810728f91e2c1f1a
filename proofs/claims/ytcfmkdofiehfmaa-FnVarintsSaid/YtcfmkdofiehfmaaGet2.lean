/- Contracts of the program's chapter 2: DecodeInts, ReadUvarint, ReadBytes. -/
import Derived.Test.YtcfmkdofiehfmaaGet
namespace Go.Proofs.Ytcfmkdofiehfmaa
open Go.ChangeShapes Go.WideShapes Go.ChangeAt Go.RowKit
set_option linter.unusedVariables false

theorem impl_decode (w : World) (hi : Nat) (v : Value) (l : List Int) (a c : Int) (h : Row .u8 w hi v l) (hh : hi ≤ w.heap.size) (hn : l.length ≤ 1099511627776) :
    Calls Try.prog 24 #[v, .int .i64 a, .int .i64 c] w fun e w' => IntsRes 3 (decOf l a c) w w' e := by
  by_cases h1 : 0 ≤ c ∧ c ≤ 100
  · obtain ⟨C, rfl⟩ := Int.eq_ofNat_of_zero_le h1.1
    have hC : C ≤ 100 := by omega
    rw [decOf_many l a C hC]
    have hr := impl_reads w hi v l a C h hh hn hC
    cases hm : manyOf l a C with
    | none =>
      rw [hm] at hr
      clear hm
      go_enter Try.func24, Try.ntmps24
      go_wp2_with fail
      refine (impl_range_yes _ _ _ _ h1).mono ?_
      rintro e w' ⟨rfl, rfl⟩
      go_wp2_with fail
      refine hr.mono ?_
      rintro e w1 ⟨u, rfl, hown, hb⟩
      go_wp2
      go_ret3
      exact ⟨u, rfl, hown, hb⟩
    | some p =>
      obtain ⟨q, nx⟩ := p
      rw [hm] at hr
      clear hm
      go_enter Try.func24, Try.ntmps24
      go_wp2_with fail
      refine (impl_range_yes _ _ _ _ h1).mono ?_
      rintro e w' ⟨rfl, rfl⟩
      go_wp2_with fail
      refine hr.mono ?_
      rintro e w1 ⟨u, rfl, hown, hb⟩
      go_wp2
      go_ret3
      exact ⟨u, rfl, hown, hb⟩
  · have HD := Lib.hid (show decOf l a c = none by unfold decOf; rw [if_neg (fun e => h1 e.1)])
    have H1 := Lib.hid h1
    clear h1
    have hO := (Own.empty 3 .i64 w).wide (lo' := w.heap.size) (hi' := (w.alloc (.cells #[] 3)).heap.size) (Nat.le_refl _) (by simp)
    have hB := (Below.refl w.heap.size w).alloc (Nat.le_refl _) (.cells #[] 3)
    go_enter Try.func24, Try.ntmps24
    go_wp2_with fail
    refine (impl_range_no _ _ _ _ H1.out).mono ?_
    rintro e w' ⟨rfl, rfl⟩
    go_wp2
    go_ret3
    rw [HD.out]
    exact ⟨_, rfl, hO, hB⟩
theorem impl_read (w : World) (hi : Nat) (v : Value) (l : List Int) (a : Int) (h : Row .u8 w hi v l) (hh : hi ≤ w.heap.size) (hn : l.length ≤ 1099511627776) :
    Calls Try.prog 15 #[v, .int .i64 a] w fun e w' => e = .returned (readRes (readOf l a)) ∧ Below w.heap.size w w' := by
  have hr : Calls Try.prog 47 #[v, .int .i64 a, .int .i64 1] w fun e w' => IntsRes 3 (manyOf l a 1) w w' e := impl_reads w hi v l a 1 h hh hn (by decide)
  rw [many_one] at hr
  cases hm : readOf l a with
  | none =>
    rw [hm] at hr
    clear hm
    go_enter Try.func15, Try.ntmps15
    go_wp2_with fail
    refine hr.mono ?_
    rintro e w1 ⟨u, rfl, hown, hb⟩
    go_wp2
    go_ret3
    exact ⟨rfl, hb⟩
  | some p =>
    obtain ⟨n, nx⟩ := p
    rw [hm] at hr
    clear hm
    go_enter Try.func15, Try.ntmps15
    go_wp2_with fail
    refine hr.mono ?_
    rintro e w1 ⟨u, rfl, hown, hb⟩
    obtain ⟨⟨ao, co, rfl, q1, q2, _, q3⟩, _⟩ := hown.read
    obtain ⟨b, off, rfl, g1, g2, g3⟩ := q3 (by simp)
    have hx := g3 0 (by simp)
    rw [Nat.add_zero] at hx
    have hx : w1.cell? ⟨b, off, none⟩ = some (.int .i64 (n : Int)) := hx
    clear q3 g3 hown
    go_wp2
    go_ret3
    exact ⟨rfl, hb⟩
theorem Row.cap {K : IntKind} {w : World} {hi n c c' : Nat} {a : Addr} {xs : List Int} (h : Row K w hi (.slice (some a) n c) xs) (h1 : n ≤ c') (h2 : c' ≤ maxLen) : Row K w hi (.slice (some a) n c') xs := by
  obtain ⟨⟨a', c0, e, r1, r2, _, r3⟩, h4⟩ := h
  injection e with e1 e2 e3
  subst e1
  subst e2
  exact ⟨⟨_, c', rfl, h1, h2, (fun e => by cases e), r3⟩, h4⟩
set_option maxHeartbeats 1000000 in
theorem impl_readBytes (w : World) (hi : Nat) (v : Value) (l : List Int) (a most : Int) (h : Row .u8 w hi v l) (hh : hi ≤ w.heap.size) (hn : l.length ≤ 1099511627776) :
    Calls Try.prog 21 #[v, .int .i64 a, .int .i64 most] w fun e w' => BytesRes 5 (readBytesOf l a most) w w' e := by
  have HR := Lib.hid h
  have hr := impl_read w hi v l a h hh hn
  obtain ⟨⟨A, c, rfl, r1, r2, _, r3⟩, _⟩ := h
  have HM2 := Lib.hid r2
  unfold maxLen at r2
  have bad : ∀ w1, readBytesOf l a most = none → Below w.heap.size w w1 → BytesRes 5 (readBytesOf l a most) w (w1.alloc (.cells #[] 5)) (.returned (.tuple #[.slice (some ⟨w1.heap.size, 0, none⟩) 0 0, .int .i64 0, .bool false])) := fun w1 e hb => by
    rw [e]
    exact ⟨_, rfl, (Own.empty 5 .u8 w1).wide hb.size (by simp), hb.alloc hb.size _⟩
  cases hk : readOf l a with
  | none =>
    have HN := Lib.hid (fun w1 => bad w1 (by unfold readBytesOf; rw [hk]))
    rw [hk] at hr
    clear hk bad
    go_enter Try.func21, Try.ntmps21
    go_wp2_with fail
    refine hr.mono ?_
    rintro e w1 ⟨rfl, hb⟩
    unfold readRes
    go_wp2
    go_ret3
    exact HN.out w1 hb
  | some p =>
    obtain ⟨n, nx⟩ := p
    obtain ⟨b0, b1, b2, b3⟩ := readOf_bd hk
    by_cases hc : (n : Int) ≤ most ∧ n + nx ≤ l.length
    · have HQ := Lib.hid (show readBytesOf l a most = some ((l.drop nx).take n, nx + n) by unfold readBytesOf; rw [hk]; exact if_pos hc)
      obtain ⟨c1, c2⟩ := hc
      rw [hk] at hr
      clear hk bad
      obtain ⟨b, off, rfl, _, _, _⟩ := r3 (by omega)
      clear r3
      have hbnd : (n : Int) + (nx : Int) ≤ (l.length : Int) := by omega
      by_cases hn0 : n = 0
      · subst hn0
        have HS := Lib.hid (fun w1 => (show Row .u8 w1 hi (.slice (some ⟨b, off, none⟩) 0 0) ((l.drop nx).take 0) by rw [List.take_zero]; exact Row.zero _ _ _ _ _ (by decide)))
        go_enter Try.func21, Try.ntmps21
        go_wp2_with fail
        refine hr.mono ?_
        rintro e w1 ⟨rfl, hb⟩
        unfold readRes
        go_wp2_with fail
        refine (bytes_clone w1 hi _ _ (HS.out w1) (Nat.le_trans hh hb.size) (by simp)).mono ?_
        rintro e w2 ⟨u, rfl, hown, hb2⟩
        go_wp2
        go_ret3
        rw [HQ.out]
        exact ⟨u, rfl, hown.wide hb.size (Nat.le_refl _), hb.trans (hb2.mono hb.size)⟩
      · have HS := Lib.hid ((HR.out.sub nx n (by omega)).cap (c' := n) (Nat.le_refl _) (by have := HM2.out; omega))
        have hlen : ((l.drop nx).take n).length ≤ 1099511627776 := by rw [List.length_take]; omega
        go_enter Try.func21, Try.ntmps21
        go_wp2_with fail
        refine hr.mono ?_
        rintro e w1 ⟨rfl, hb⟩
        unfold readRes
        go_wp2_with fail
        refine (bytes_clone w1 hi _ _ (HS.out.below hb hh) (Nat.le_trans hh hb.size) hlen).mono ?_
        rintro e w2 ⟨u, rfl, hown, hb2⟩
        go_wp2
        go_ret3
        rw [HQ.out]
        exact ⟨u, rfl, hown.wide hb.size (Nat.le_refl _), hb.trans (hb2.mono hb.size)⟩
    · have HN := Lib.hid (fun w1 => bad w1 (by unfold readBytesOf; rw [hk]; exact if_neg hc))
      rw [hk] at hr
      clear hk bad
      have hc2 : most < (n : Int) ∨ ((l.length : Int) < (n : Int) + (nx : Int) ∧ (n : Int) ≤ most) := by omega
      clear hc
      rcases hc2 with hc2 | ⟨hc2, hc3⟩
      all_goals
        go_enter Try.func21, Try.ntmps21
        go_wp2_with fail
        refine hr.mono ?_
        rintro e w1 ⟨rfl, hb⟩
        unfold readRes
        go_wp2
        go_ret3
        exact HN.out w1 hb
end Go.Proofs.Ytcfmkdofiehfmaa
