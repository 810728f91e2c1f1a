/- readParts and ParseName (7a1659f). Condition: ParseName's text is no longer than what the laws draw. -/
import Derived.Test.YtlckjnjgbefmeaaDoorNamesI
namespace Go.Proofs.YtlckjnjgbefmeaaDoor
open Go.ChangeShapes Go.WideShapes Go.ChangeAt Go.RowKit
set_option linter.unusedVariables false
theorem zero_int (w : World) : (zeroValue 3).run Tryd.prog w = .ok (.int .i64 0) w := by kernel_rfl
theorem make_two (w : World) : (Instr.makeSlice 41 (.int .i64 2) (.int .i64 2)).run Tryd.prog w = .ok (.slice (some ⟨w.heap.size, 0, none⟩) 2 2) (w.alloc (.cells #[.int .i64 0, .int .i64 0] 3)) := by kernel_rfl
theorem impl_readPart_is {c k p : Int} (hk : part c = k) (hp : place c = p) (w : World) : Calls Tryd.prog 30 #[.int .i32 c] w fun e w' => e = .returned (.tuple #[.int .i64 k, .int .i64 p]) ∧ w = w' := by
  subst hk hp
  exact impl_readPart c w
/-- While readParts reads: its slice holds k and d, the reader stands at 'pos'. -/
structure Scan (w : World) (s : ByteArray) (pos : Nat) (k d : Int) (W : World) : Prop where
  blk : W.heap[w.heap.size]? = some (.cells #[.int .i64 k, .int .i64 d] 3)
  it : W.heap[w.heap.size + 1]? = some (.stringIter s pos)
  below : Below w.heap.size w W
section
variable {w W : World} {s : ByteArray} {pos : Nat} {k d : Int}
theorem Scan.start (w : World) (s : ByteArray) : Scan w s 0 0 0 ((w.alloc (.cells #[.int .i64 0, .int .i64 0] 3)).iter s 0) :=
  ⟨by show ((w.heap.push _).push _)[w.heap.size]? = _; simp [Array.getElem?_push], by show ((w.heap.push _).push _)[w.heap.size + 1]? = _; rw [show w.heap.size + 1 = (w.heap.push (Obj.cells #[.int .i64 0, .int .i64 0] 3)).size by simp]; exact Array.getElem?_push_size, ((Below.refl w.heap.size w).alloc (Nat.le_refl _) _).alloc (by simp) _⟩
theorem Scan.next (h : Scan w s pos k d W) (pos' : Nat) : Scan w s pos' k d (W.iterAt (w.heap.size + 1) s pos') :=
  ⟨(Lib.iterAt_other W _ _ s pos' (by omega)).trans h.blk, Lib.iterAt_heap W _ s pos pos' h.it, Lib.below_iterAt h.below (by omega) s pos'⟩
theorem Scan.set0 (h : Scan w s pos k d W) (x : Int) : Scan w s pos x d (W.setCell ⟨w.heap.size, 0, none⟩ (.int .i64 x)) := by
  have hb := h.blk
  exact ⟨by simp [World.setCell, Array.getElem?_modify, hb], (Below.heap_setCell W ⟨w.heap.size, 0, none⟩ _ _ (by show w.heap.size + 1 ≠ w.heap.size; omega)).trans h.it, h.below.setCell (p := ⟨w.heap.size, 0, none⟩) (Nat.le_refl _) _⟩
theorem Scan.set1 (h : Scan w s pos k d W) (x : Int) : Scan w s pos k x (W.setCell ⟨w.heap.size, 1, none⟩ (.int .i64 x)) := by
  have hb := h.blk
  exact ⟨by simp [World.setCell, Array.getElem?_modify, hb], (Below.heap_setCell W ⟨w.heap.size, 1, none⟩ _ _ (by show w.heap.size + 1 ≠ w.heap.size; omega)).trans h.it, h.below.setCell (p := ⟨w.heap.size, 1, none⟩) (Nat.le_refl _) _⟩
theorem Scan.cells (h : Scan w s pos k d W) : W.cell? ⟨w.heap.size, 0, none⟩ = some (.int .i64 k) ∧ W.cell? ⟨w.heap.size, 1, none⟩ = some (.int .i64 d) := by
  have hb := h.blk
  exact ⟨by simp [World.cell?, hb], by simp [World.cell?, hb]⟩
theorem Scan.free (h : Scan w s pos k d W) (i : Nat) : W.frozen? ⟨w.heap.size, i, none⟩ = false := by
  have hb := h.blk
  simp [World.frozen?, hb]
theorem Scan.clear (h : Scan w s pos k d W) : ∀ ty, (Builtin.clear_ #[41] ty #[.slice (some ⟨w.heap.size, 0, none⟩) 2 2]).run Tryd.prog W = .ok (.tuple #[]) (W.setCells w.heap.size 0 (List.replicate 2 (.int .i64 0))) := fun ty =>
  Lib.run_clear_slice W 41 3 ty (.int .i64 0) Tryd.underlying41 zero_int rfl rfl w.heap.size 0 2 2 (by decide) (fun j hj => by
    have hj' : j = 0 ∨ j = 1 := by omega
    rcases hj' with rfl | rfl
    · rw [show 0 + 0 = 0 from rfl, h.cells.1]; rfl
    · rw [show 0 + 1 = 1 from rfl, h.cells.2]; rfl) (fun j hj => h.free _)
theorem Scan.cleared (h : Scan w s pos k d W) : Scan w s pos 0 0 (W.setCells w.heap.size 0 (List.replicate 2 (.int .i64 0))) := (h.set0 0).set1 0
end
/-- The next rune, as the walk meets it. -/
theorem Scan.read {w W : World} {s : ByteArray} {pos : Nat} {k d : Int} (h : Scan w s pos k d W) (hp : pos < s.size) {c n : Nat} (hc : (Utf8.decode s pos).1 = c) (hn : (Utf8.decode s pos).2 = n) :
    ∃ W', (∀ ty, (Instr.next (.pointer (some ⟨w.heap.size + 1, 0, none⟩)) true ty).run Tryd.prog W = .ok (.tuple #[.bool true, .int .i64 (pos : Int), .int .i32 (c : Int)]) W') ∧ Scan w s (pos + n) k d W' := by
  subst hc hn
  exact ⟨_, fun ty => Lib.run_next_any_at W _ s pos ty h.it hp, h.next _⟩
theorem Scan.last {w W : World} {s : ByteArray} {pos : Nat} {k d : Int} (h : Scan w s pos k d W) (hp : ¬ pos < s.size) :
    ∀ ty, (Instr.next (.pointer (some ⟨w.heap.size + 1, 0, none⟩)) true ty).run Tryd.prog W = .ok (.tuple #[.bool false]) W :=
  fun ty => Lib.run_next_end_at W _ s pos ty h.it hp
/-- A first rune that is out of its place. -/
theorem parts_far (s : ByteArray) (h2 : s.size = 2) (c : Nat) (hc : (Utf8.decode s 0).1 = c) (p : Int) (hp : place c = p) (hne : p = 1 ∨ p = -1) (w : World) :
    Calls Tryd.prog 20 #[.string s] w fun e w' => e = .returned (.slice (some ⟨w.heap.size, 0, none⟩) 2 2) ∧ ∃ pos, Scan w s pos 0 0 w' := by
  have e2 : ((s.size : Int) != 2) = false := by rw [h2]; rfl
  have hmk := make_two w
  obtain ⟨n, hn⟩ : ∃ n, (Utf8.decode s 0).2 = n := ⟨_, rfl⟩
  obtain ⟨W1, hW1⟩ : ∃ W, W = (w.alloc (.cells #[.int .i64 0, .int .i64 0] 3)).iter s 0 := ⟨_, rfl⟩
  have sc : Scan w s 0 0 0 W1 := by rw [hW1]; exact Scan.start w s
  obtain ⟨W2, hnx, sc2⟩ := sc.read (by omega) hc hn
  have hq : ∃ q, part c = q := ⟨_, rfl⟩
  obtain ⟨q, hq⟩ := hq
  have HQ := Lib.hid hq
  have HP := Lib.hid hp
  have hcl := sc2.clear
  have SC := Lib.hid sc2.cleared
  clear hq hp hc hn sc sc2 h2
  go_enter Tryd.func20, Tryd.ntmps20
  rcases hne with rfl | rfl
  all_goals
    go_wp2
    refine wp_loop_rounds 3 ?_
    rw [← hW1]
    clear hW1
    rw [rounds_succ]
    go_wp2_with (go_at_call 30; refine (impl_readPart_is HQ.out HP.out _).mono ?_; rintro e w' ⟨rfl, rfl⟩)
    go_ret
    exact ⟨rfl, _, SC.out⟩
set_option maxHeartbeats 1000000 in
/-- A letter, and behind it a rune that is no digit. -/
theorem parts_half (s : ByteArray) (h2 : s.size = 2) (c c' : Nat) (hc : (Utf8.decode s 0).1 = c) (hn : (Utf8.decode s 0).2 = 1) (hc' : (Utf8.decode s 1).1 = c') (p : Int) (hp : place c = 0) (hp' : place c' = p) (hne : p = 0 ∨ p = -1) (w : World) :
    Calls Tryd.prog 20 #[.string s] w fun e w' => e = .returned (.slice (some ⟨w.heap.size, 0, none⟩) 2 2) ∧ ∃ pos, Scan w s pos 0 0 w' := by
  have e2 : ((s.size : Int) != 2) = false := by rw [h2]; rfl
  have hmk := make_two w
  obtain ⟨n, hn'⟩ : ∃ n, (Utf8.decode s 1).2 = n := ⟨_, rfl⟩
  obtain ⟨k, hk⟩ : ∃ k, part c = k := ⟨_, rfl⟩
  obtain ⟨q, hq⟩ : ∃ q, part c' = q := ⟨_, rfl⟩
  obtain ⟨W1, hW1⟩ : ∃ W, W = (w.alloc (.cells #[.int .i64 0, .int .i64 0] 3)).iter s 0 := ⟨_, rfl⟩
  have sc : Scan w s 0 0 0 W1 := by rw [hW1]; exact Scan.start w s
  obtain ⟨W2, hnx, sc2⟩ := sc.read (by omega) hc hn
  have x0 := sc2.cells.1
  have f0 := sc2.free 0
  obtain ⟨W3, hW3⟩ : ∃ W, W = W2.setCell ⟨w.heap.size, 0, none⟩ (.int .i64 k) := ⟨_, rfl⟩
  have sc3 : Scan w s 1 k 0 W3 := by rw [hW3]; exact sc2.set0 k
  obtain ⟨W4, hnx4, sc4⟩ := sc3.read (by omega) hc' hn'
  have HK := Lib.hid hk
  have HQ := Lib.hid hq
  have HP := Lib.hid hp
  have HP' := Lib.hid hp'
  have hcl := sc4.clear
  have SC := Lib.hid sc4.cleared
  clear hk hq hp hp' hc hn hc' hn' sc sc2 sc3 sc4 h2
  go_enter Tryd.func20, Tryd.ntmps20
  rcases hne with rfl | rfl
  all_goals
    go_wp2
    refine wp_loop_rounds 3 ?_
    rw [← hW1]
    clear hW1
    rw [rounds_succ]
    go_wp2_with (go_at_call 30; refine (impl_readPart_is HK.out HP.out _).mono ?_; rintro e w' ⟨rfl, rfl⟩)
    rw [← hW3]
    clear hW3 x0 f0
    rw [rounds_succ]
    go_wp2_with (go_at_call 30; refine (impl_readPart_is HQ.out HP'.out _).mono ?_; rintro e w' ⟨rfl, rfl⟩)
    go_ret
    exact ⟨rfl, _, SC.out⟩
set_option maxHeartbeats 1000000 in
/-- A letter, and behind it a digit. -/
theorem parts_full (s : ByteArray) (h2 : s.size = 2) (c c' : Nat) (hc : (Utf8.decode s 0).1 = c) (hn : (Utf8.decode s 0).2 = 1) (hc' : (Utf8.decode s 1).1 = c') (hn' : (Utf8.decode s 1).2 = 1) (k q : Int) (hp : place c = 0) (hk : part c = k) (hp' : place c' = 1) (hq : part c' = q) (w : World) :
    Calls Tryd.prog 20 #[.string s] w fun e w' => e = .returned (.slice (some ⟨w.heap.size, 0, none⟩) 2 2) ∧ ∃ pos, Scan w s pos k q w' := by
  have e2 : ((s.size : Int) != 2) = false := by rw [h2]; rfl
  have hmk := make_two w
  obtain ⟨W1, hW1⟩ : ∃ W, W = (w.alloc (.cells #[.int .i64 0, .int .i64 0] 3)).iter s 0 := ⟨_, rfl⟩
  have sc : Scan w s 0 0 0 W1 := by rw [hW1]; exact Scan.start w s
  obtain ⟨W2, hnx, sc2⟩ := sc.read (by omega) hc hn
  have x0 := sc2.cells.1
  have f0 := sc2.free 0
  obtain ⟨W3, hW3⟩ : ∃ W, W = W2.setCell ⟨w.heap.size, 0, none⟩ (.int .i64 k) := ⟨_, rfl⟩
  have sc3 : Scan w s 1 k 0 W3 := by rw [hW3]; exact sc2.set0 k
  obtain ⟨W4, hnx4, sc4⟩ := sc3.read (by omega) hc' hn'
  have x1 := sc4.cells.2
  have f1 := sc4.free 1
  obtain ⟨W5, hW5⟩ : ∃ W, W = W4.setCell ⟨w.heap.size, 1, none⟩ (.int .i64 q) := ⟨_, rfl⟩
  have sc5 : Scan w s 2 k q W5 := by rw [hW5]; exact sc4.set1 q
  have hnx6 := sc5.last (by omega)
  have HK := Lib.hid hk
  have HQ := Lib.hid hq
  have HP := Lib.hid hp
  have HP' := Lib.hid hp'
  have SC := Lib.hid sc5
  clear hk hq hp hp' hc hn hc' hn' sc sc2 sc3 sc4 sc5 h2
  go_enter Tryd.func20, Tryd.ntmps20
  go_wp2
  refine wp_loop_rounds 3 ?_
  rw [← hW1]
  clear hW1
  rw [rounds_succ]
  go_wp2_with (go_at_call 30; refine (impl_readPart_is HK.out HP.out _).mono ?_; rintro e w' ⟨rfl, rfl⟩)
  rw [← hW3]
  clear hW3 x0 f0
  rw [rounds_succ]
  go_wp2_with (go_at_call 30; refine (impl_readPart_is HQ.out HP'.out _).mono ?_; rintro e w' ⟨rfl, rfl⟩)
  rw [← hW5]
  clear hW5 x1 f1
  rw [rounds_succ]
  go_wp2
  go_ret
  exact ⟨rfl, _, SC.out⟩
/-- A text of another length. -/
theorem parts_other (s : ByteArray) (h2 : s.size ≠ 2) (hs : s.size ≤ 1048576) (w : World) :
    Calls Tryd.prog 20 #[.string s] w fun e w' => e = .returned (.slice (some ⟨w.heap.size, 0, none⟩) 2 2) ∧ w' = w.alloc (.cells #[.int .i64 0, .int .i64 0] 3) := by
  have e2 : ((s.size : Int) != 2) = true := by
    have : ((s.size : Int) == 2) = false := by rw [beq_eq_false_iff_ne]; omega
    simp [bne, this]
  have hmk := make_two w
  clear h2
  go_enter Tryd.func20, Tryd.ntmps20
  go_wp2
  go_ret
  exact ⟨rfl, rfl⟩
/-- The letter that stands for a kind, and the kind that a letter stands for. -/
theorem letter_of {c : Nat} (h : place c = 0) : 1 ≤ part c ∧ part c ≤ 4 ∧ (letter (part c)).toNat = c := by
  have hc : c = 112 ∨ c = 100 ∨ c = 103 ∨ c = 111 := by
    unfold place at h
    split at h
    · omega
    · split at h <;> omega
  rcases hc with rfl | rfl | rfl | rfl <;> exact ⟨by decide, by decide, by decide⟩
theorem digit_of {c : Nat} (h : place c = 1) : 48 ≤ c ∧ c ≤ 57 ∧ part c = (c : Int) - 48 := by
  unfold place at h
  split at h
  · omega
  · split at h
    · refine ⟨by omega, by omega, ?_⟩
      unfold part
      rw [if_neg (by omega), if_neg (by omega), if_neg (by omega), if_neg (by omega), if_pos (by omega)]
    · omega
theorem place_letter {k : Int} (h0 : 1 ≤ k) (h1 : k ≤ 4) : place ((letter k).toNat : Int) = 0 := by
  have : k = 1 ∨ k = 2 ∨ k = 3 ∨ k = 4 := by omega
  rcases this with rfl | rfl | rfl | rfl <;> decide
theorem place_three (c : Int) : place c = 0 ∨ place c = 1 ∨ place c = -1 := by
  unfold place
  split
  · exact .inl rfl
  · split
    · exact .inr (.inl rfl)
    · exact .inr (.inr rfl)
/-- A name's text, byte for byte. -/
theorem nameS_at {y : Int} (hy : isN y) {s : ByteArray} (he : nameS y = s) : ∃ h : s.size = 2, s[0] = letter (y / 10) ∧ s[1].toNat = 48 + (y % 10).toNat := by
  unfold nameS at he
  rw [if_pos hy] at he
  subst he
  refine ⟨rfl, rfl, ?_⟩
  show (UInt8.ofNat (48 + (y % 10).toNat)).toNat = _
  rw [UInt8.toNat_ofNat']
  have : (y % 10).toNat ≤ 9 := by omega
  omega
theorem bytes_two {s : ByteArray} (h : s.size = 2) : s = ⟨#[s[0], s[1]]⟩ := by
  apply ByteArray.ext
  apply Array.ext
  · exact h
  · intro i h1 h2
    have : i = 0 ∨ i = 1 := by simp at h2; omega
    rcases this with rfl | rfl <;> rfl
/-- What a byte says of the rune that is read there. -/
theorem rune_at (s : ByteArray) (pos : Nat) (h : pos < s.size) : ((s[pos]'h).toNat < 128 ∧ (Utf8.decode s pos).1 = (s[pos]'h).toNat ∧ (Utf8.decode s pos).2 = 1) ∨ (128 ≤ (s[pos]'h).toNat ∧ 128 ≤ (Utf8.decode s pos).1) := by
  by_cases ha : (s[pos]'h).toNat < 128
  · rw [decode_ascii s pos h ha]
    exact .inl ⟨ha, rfl, rfl⟩
  · exact .inr ⟨by omega, (decode_high s pos h (by omega)).1⟩
theorem place_high {c : Nat} (h : 128 ≤ c) : place c = -1 := by
  unfold place
  rw [if_neg (by omega), if_neg (by omega)]
def nameOf (r : Option Int) : Int := match r with
  | some x => x
  | none => -1
theorem none_far {s : ByteArray} {r : Option Int} (hr : IsParse s r) (h : ∀ h2 : 0 < s.size, place ((s[0]'h2).toNat : Int) ≠ 0) : r = none :=
  parse_none hr fun y h0 h1 he => by
    obtain ⟨h2, h3, _⟩ := nameS_at (show isN y from ⟨h0, by omega⟩) he
    have := h (by omega)
    rw [h3] at this
    exact this (place_letter (by omega) (by omega))
theorem none_half {s : ByteArray} {r : Option Int} (hr : IsParse s r) (h : ∀ h2 : 1 < s.size, place ((s[1]'h2).toNat : Int) ≠ 1) : r = none :=
  parse_none hr fun y h0 h1 he => by
    obtain ⟨h2, _, h3⟩ := nameS_at (show isN y from ⟨h0, by omega⟩) he
    apply h (by omega)
    rw [h3]
    unfold place
    have : 0 ≤ y % 10 ∧ y % 10 ≤ 9 := by omega
    rw [if_neg (by omega), if_pos (by omega)]
theorem some_full {s : ByteArray} {r : Option Int} (hr : IsParse s r) (h2 : s.size = 2) (hp : place ((s[0]'(by omega)).toNat : Int) = 0) (hq : place ((s[1]'(by omega)).toNat : Int) = 1) :
    r = some (part ((s[0]'(by omega)).toNat : Int) * (10 : Int) + part ((s[1]'(by omega)).toNat : Int)) ∧ (1 ≤ part ((s[0]'(by omega)).toNat : Int) ∧ part ((s[0]'(by omega)).toNat : Int) ≤ 4) ∧ 0 ≤ part ((s[1]'(by omega)).toNat : Int) ∧ part ((s[1]'(by omega)).toNat : Int) ≤ 9 := by
  obtain ⟨a0, a1, a2⟩ := letter_of hp
  obtain ⟨b0, b1, b2⟩ := digit_of hq
  generalize hk : part ((s[0]'(by omega)).toNat : Int) = k at *
  generalize hd : part ((s[1]'(by omega)).toNat : Int) = d at *
  refine ⟨parse_one hr (show isN _ from ⟨by omega, by omega⟩) ?_, ⟨a0, a1⟩, by omega, by omega⟩
  unfold nameS
  rw [if_pos (show isN (k * 10 + d) from ⟨by omega, by omega⟩), bytes_two h2, show (k * 10 + d) / 10 = k by omega, show (k * 10 + d) % 10 = d by omega]
  have e0 : letter k = s[0] := UInt8.toNat_inj.1 a2
  have e1 : UInt8.ofNat (48 + d.toNat) = s[1] := UInt8.toNat_inj.1 (by rw [UInt8.toNat_ofNat']; omega)
  rw [e0, e1]
theorem makeOf_none : makeOf 0 0 = -1 := by decide
/-- What readParts leaves makes the name, or none. -/
def Read (w : World) (r : Option Int) (e : Ending) (w' : World) : Prop := e = .returned (.slice (some ⟨w.heap.size, 0, none⟩) 2 2) ∧ ∃ k d : Int, makeOf k d = nameOf r ∧ w'.cell? ⟨w.heap.size, 0, none⟩ = some (.int .i64 k) ∧ w'.cell? ⟨w.heap.size, 1, none⟩ = some (.int .i64 d) ∧ Below w.heap.size w w'
theorem impl_readParts (s : ByteArray) (r : Option Int) (hr : IsParse s r) (hs : s.size ≤ 1048576) (w : World) :
    Calls Tryd.prog 20 #[.string s] w (Read w r) := by
  by_cases h2 : s.size = 2
  · have hfar : ∀ {p : Int}, place ((Utf8.decode s 0).1 : Int) = p → (p = 1 ∨ p = -1) → r = none → Calls Tryd.prog 20 #[.string s] w (Read w r) := fun {p} hp hne hr0 =>
      (parts_far s h2 _ rfl p hp hne w).mono fun e w' ⟨he, pos, sc⟩ => 
        ⟨he, 0, 0, by rw [hr0]; exact makeOf_none, sc.cells.1, sc.cells.2, sc.below⟩
    rcases rune_at s 0 (by omega) with ⟨ha, hc, hn⟩ | ⟨ha, hc⟩
    · have hcp : place ((Utf8.decode s 0).1 : Int) = place ((s[0]'(by omega)).toNat : Int) := by rw [hc]
      rcases place_three ((s[0]'(by omega)).toNat : Int) with hp | hp | hp
      · have hhalf : ∀ {p : Int}, place ((Utf8.decode s 1).1 : Int) = p → (p = 0 ∨ p = -1) → r = none → Calls Tryd.prog 20 #[.string s] w (Read w r) := fun {p} hp' hne hr0 =>
          (parts_half s h2 _ _ rfl hn rfl p (hcp.trans hp) hp' hne w).mono fun e w' ⟨he, pos, sc⟩ => 
            ⟨he, 0, 0, by rw [hr0]; exact makeOf_none, sc.cells.1, sc.cells.2, sc.below⟩
        rcases rune_at s 1 (by omega) with ⟨hb, hc', hn'⟩ | ⟨hb, hc'⟩
        · have hcp' : place ((Utf8.decode s 1).1 : Int) = place ((s[1]'(by omega)).toNat : Int) := by rw [hc']
          rcases place_three ((s[1]'(by omega)).toNat : Int) with hq | hq | hq
          · exact hhalf (hcp'.trans hq) (.inl rfl) (none_half hr fun _ => by rw [hq]; decide)
          · obtain ⟨hr1, hk, hd⟩ := some_full hr h2 hp hq
            refine (parts_full s h2 _ _ hc hn hc' hn' _ _ hp rfl hq rfl w).mono ?_
            rintro e w' ⟨he, pos, sc⟩
            refine ⟨he, _, _, ?_, sc.cells.1, sc.cells.2, sc.below⟩
            rw [hr1]
            unfold makeOf
            rw [if_pos ⟨hk, hd⟩]
            rfl
          · exact hhalf (hcp'.trans hq) (.inr rfl) (none_half hr fun _ => by rw [hq]; decide)
        · exact hhalf (place_high hc') (.inr rfl) (none_half hr fun _ => by rw [place_high hb]; decide)
      · exact hfar (hcp.trans hp) (.inl rfl) (none_far hr fun _ => by rw [hp]; decide)
      · exact hfar (hcp.trans hp) (.inr rfl) (none_far hr fun _ => by rw [hp]; decide)
    · exact hfar (place_high hc) (.inr rfl) (none_far hr fun _ => by rw [place_high ha]; decide)
  · refine (parts_other s h2 hs w).mono ?_
    rintro e w' ⟨he, rfl⟩
    have hr0 : r = none := parse_none hr fun y h0 h1 he => h2 (nameS_at (show isN y from ⟨h0, by omega⟩) he).1
    refine ⟨he, 0, 0, by rw [hr0]; exact makeOf_none, ?_, ?_, (Below.refl _ _).alloc (Nat.le_refl _) _⟩
    · rw [World.cell?_alloc_new]; rfl
    · rw [World.cell?_alloc_new]; rfl
theorem isN_nameOf {s : ByteArray} {r : Option Int} (hr : IsParse s r) : parseRes r = .tuple #[.int .i64 (nameOf r), .bool (decide (isN (nameOf r)))] := by
  cases r with
  | none => rfl
  | some x => unfold parseRes nameOf; rw [decide_eq_true hr.1]
set_option maxHeartbeats 1000000 in
theorem impl_parseName (s : ByteArray) (r : Option Int) (hr : IsParse s r) (hs : s.size ≤ 1048576) (w : World) : Calls Tryd.prog 7 #[.string s] w fun e w' => e = .returned (parseRes r) ∧ Below w.heap.size w w' := by
  have HR := Lib.hid hr
  obtain ⟨x, hx⟩ : ∃ x, nameOf r = x := ⟨_, rfl⟩
  have HE := Lib.hid (show parseRes r = .tuple #[.int .i64 x, .bool (decide (isN x))] by rw [isN_nameOf hr, hx])
  have HX := Lib.hid hx
  clear hr hx
  go_enter Tryd.func7, Tryd.ntmps7
  go_wp2_with (go_at_call 20; refine (impl_readParts s r HR.out hs w).mono ?_; rintro e w1 ⟨rfl, k, d, hm, x0, x1, hb⟩; have HM := Lib.hid (hm.trans HX.out); clear hm)
  go_region_with (go_at_call 9; refine (impl_makeName0 _ _ _).mono ?_; rintro e w' ⟨rfl, rfl⟩; rw [HM.out])
  all_goals
    go_wp2_with (go_at_call 12; refine (impl_isName0 _ _).mono ?_; rintro e w' ⟨rfl, rfl⟩)
    go_ret2
    exact ⟨congrArg Ending.returned HE.out.symm, by repeat (first | exact hb | apply Below.drew)⟩
end Go.Proofs.YtlckjnjgbefmeaaDoor
