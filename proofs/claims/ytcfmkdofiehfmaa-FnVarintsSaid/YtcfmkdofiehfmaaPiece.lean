/- Pieces of the laws FnVarints and FnByteStrings: mathematics of lists of varints, 'at', and what a region that draws its order keeps. -/
import Derived.Test.YtcfmkdofiehfmaaGet2
import Derived.Test.YtcfmkdofiehfmaaVar2
import Derived.Test.YtcfmkdofiehfmaaDraw2
import Derived.Test.YtcfmkdofiehfmaaSame
import Derived.Deep.RegionHeld3
namespace Go.Proofs.Ytcfmkdofiehfmaa
open Go.ChangeShapes Go.WideShapes Go.ChangeAt Go.RowKit
set_option linter.unusedVariables false

theorem enc_yes (N : Nat) (h : N ≤ 1000000000000) : enc (N : Int) = uv N := by unfold enc; rw [if_pos (by omega), Int.toNat_natCast]
theorem enc_no (n : Int) (h : ¬ (0 ≤ n ∧ n ≤ 1000000000000)) : enc n = [] := by unfold enc; rw [if_neg h]
/-- What AppendUvarint appends is read. -/
theorem readOf_app (b : List Int) (N : Nat) (h : N ≤ 1000000000000) : readOf (b ++ enc (N : Int)) (b.length : Int) = some (N, (b ++ enc (N : Int)).length) := by
  have := readOf_enc b N h []
  rw [List.append_nil] at this
  rw [enc_yes N h, this, List.length_append]
theorem readBytesOf_app (b d : List Int) (h : d.length ≤ 1000000000000) (most : Int) :
    readBytesOf (b ++ enc (d.length : Int) ++ d) (b.length : Int) most = if (d.length : Int) ≤ most then some (d, (b ++ enc (d.length : Int) ++ d).length) else none := by
  unfold readBytesOf
  rw [enc_yes _ h, readOf_enc b d.length h d]
  simp only [List.length_append]
  by_cases hm : (d.length : Int) ≤ most
  · rw [if_pos hm, if_pos ⟨hm, by omega⟩]
    have e : (b ++ uv d.length ++ d).drop (b.length + (uv d.length).length) = d := by
      rw [← List.length_append]
      exact List.drop_left
    rw [e, List.take_length]
  · rw [if_neg hm, if_neg (fun e => hm e.1)]
theorem decGo_enc : ∀ (l : List Int) (b : List Int), (∀ x ∈ l, 0 ≤ x ∧ x ≤ 1000000000000) →
    decGo (b ++ encAll l) l.length b.length = some (l, (b ++ encAll l).length) ∧ decGo (b ++ encAll l) (l.length + 1) b.length = none
  | [], b, _ => by
    constructor
    · simp [decGo, encAll]
    · rw [decGo]
      have : readOf (b ++ encAll []) (b.length : Int) = none := by
        have := readOf_none b
        simpa [encAll] using this
      rw [this]
  | x :: l, b, h => by
    obtain ⟨h0, h1⟩ := h x (by simp)
    obtain ⟨N, rfl⟩ := Int.eq_ofNat_of_zero_le h0
    have hN : N ≤ 1000000000000 := by omega
    have hA : b ++ encAll ((N : Int) :: l) = b ++ uv N ++ encAll l := by
      unfold encAll
      rw [List.flatMap_cons, enc_yes N hN, List.append_assoc]
    have hr := readOf_enc b N hN (encAll l)
    rw [← hA] at hr
    obtain ⟨i1, i2⟩ := decGo_enc l (b ++ uv N) (fun y hy => h y (by simp [hy]))
    rw [← hA, List.length_append] at i1 i2
    constructor
    · rw [List.length_cons, decGo, hr]
      simp only
      rw [i1]
      rfl
    · rw [List.length_cons, decGo, hr]
      simp only
      rw [i2]
      rfl
theorem decOf_enc (l : List Int) (hl : l.length ≤ 99) (h : ∀ x ∈ l, 0 ≤ x ∧ x ≤ 1000000000000) :
    decOf (encAll l) 0 (l.length : Int) = some (l, (encAll l).length) ∧ decOf (encAll l) 0 ((l.length : Int) + 1) = none := by
  obtain ⟨h1, h2⟩ := decGo_enc l [] h
  simp only [List.nil_append, List.length_nil] at h1 h2
  constructor
  · unfold decOf
    rw [if_pos (by omega), Int.toNat_natCast]
    exact h1
  · unfold decOf
    rw [if_pos (by omega), show ((l.length : Int) + 1).toNat = l.length + 1 by omega]
    exact h2
theorem mul_bd {a b A B : Int} (h0 : 0 ≤ a) (h1 : a ≤ A) (h2 : 0 ≤ b) (h3 : b ≤ B) : 0 ≤ a * b ∧ a * b ≤ A * B :=
  ⟨Int.mul_nonneg h0 h2, Int.mul_le_mul h1 h3 h2 (Int.le_trans h0 h1)⟩
/-- A byte of the input, or one that is reckoned in its stead. -/
theorem at_any (w : World) (hi : Nat) (v : Value) (xs : List Int) (i : Int) (h : Row .u8 w hi v xs) (hn : xs.length ≤ 1048576) (h0 : 0 ≤ i) (h1 : i ≤ 1000) :
    Calls Try.prog 22 #[v, .int .i64 i] w fun e w' => ∃ u : Int, 0 ≤ u ∧ u ≤ 255 ∧ e = .returned (.int .i64 u) ∧ w = w' := by
  have hwf := Lib.hid h.wf
  obtain ⟨⟨A, c, rfl, r1, r2, _, r3⟩, _⟩ := h
  unfold maxLen at r2
  obtain ⟨I, rfl⟩ := Int.eq_ofNat_of_zero_le h0
  by_cases hlt : I < xs.length
  · obtain ⟨b, off, rfl, _, _, p3⟩ := r3 (by omega)
    have hx := p3 I hlt
    rw [show xs.getD I 0 = xs[I] by simp [List.getD, hlt]] at hx
    obtain ⟨x0, x1⟩ := bounds_u8 (hwf.out _ (List.getElem_mem hlt))
    generalize xs[I] = x at hx x0 x1
    clear p3 r3
    go_enter Try.func22, Try.ntmps22
    go_wp2
    go_ret
    exact ⟨x, x0, x1, rfl, rfl⟩
  · clear r3
    go_enter Try.func22, Try.ntmps22
    go_wp2
    go_ret
    exact ⟨_, by omega, by omega, rfl, rfl⟩
/-- What stays behind each operation of the last statement of FnVarints. -/
structure Good (w : World) (hi : Nat) (v : Value) (l : List Int) (w' : World) : Prop where
  below : Below w.heap.size w w'
  size : hi ≤ w'.heap.size
  row : Row .u8 w' hi v l
theorem Good.drew {w w' : World} {hi : Nat} {v : Value} {l : List Int} (h : Good w hi v l w') : Good w hi v l w'.drew := ⟨h.below.drew, h.size, h.row.below (Below.refl _ w').drew h.size⟩
theorem Good.drewN {w w' : World} {hi : Nat} {v : Value} {l : List Int} (h : Good w hi v l w') (m : Nat) : Good w hi v l (w'.drewN m) := ⟨bDrew h.below m, h.size, h.row.drewN m⟩
theorem Good.go {w w' w2 : World} {hi : Nat} {v : Value} {l : List Int} (h : Good w hi v l w') (hb : Below w'.heap.size w' w2) : Good w hi v l w2 :=
  ⟨h.below.trans (hb.mono h.below.size), Nat.le_trans h.size hb.size, h.row.below hb h.size⟩
theorem Good.alloc {w w' : World} {hi : Nat} {v : Value} {l : List Int} (h : Good w hi v l w') (o : Obj) : Good w hi v l (w'.alloc o) := h.go ((Below.refl _ w').alloc (Nat.le_refl _) o)
theorem Good.go2 {w W w2 : World} {hi : Nat} {v : Value} {l : List Int} {o : Obj} (h : Good w hi v l (W.alloc o).drew) (hb : Below (W.heap.size + 1) (W.alloc o).drew w2) : Good w hi v l w2 :=
  h.go (by rw [show ((W.alloc o).drew).heap.size = W.heap.size + 1 by simp [World.drew]]; exact hb)
/-- AppendUvarint onto '[]byte{}', behind a draw. -/
theorem append_fresh (W : World) (k : Int) :
    Calls Try.prog 14 #[.slice (some ⟨W.heap.size, 0, none⟩) 0 0, .int .i64 k] (W.alloc (.cells #[] 5)).drew fun e w' => ∃ u, e = .returned u ∧ Own 5 .u8 w' (W.heap.size + 1) w'.heap.size u (enc k) ∧ Below (W.heap.size + 1) (W.alloc (.cells #[] 5)).drew w' := by
  have hs : ((W.alloc (.cells #[] 5)).drew).heap.size = W.heap.size + 1 := by simp [World.drew]
  have h := impl_append (W.alloc (.cells #[] 5)).drew (W.heap.size + 1) _ [] k ((Own.empty 5 .u8 W).read.below (Below.refl (W.heap.size + 1) _).drew (Nat.le_refl _)) (by rw [hs]; exact Nat.le_refl _) (by simp)
  rw [List.nil_append, hs] at h
  exact h
end Go.Proofs.Ytcfmkdofiehfmaa
