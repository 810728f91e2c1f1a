/- Some texts in one: Text1, Cond6, Text3. -/
import Derived.Test.YtmdmkdjeaffhaaaDoorTextM2
import Derived.Test.YtmdmkdjeaffhaaaDoorAbs
import Derived.Lib.Hide
import Derived.Test.YtmdmkdjeaffhaaaDoorMCond5
import Derived.Test.YtmdmkdjeaffhaaaDoorMText6
import Derived.Test.YtmdmkdjeaffhaaaDoorNumWalk
/- Text of conditions (chapter 16): contracts of the model: words, names. No condition but a text's size. -/
namespace Go.Proofs.YtmdmkdjeaffhaaaDoor
open Go.Lib Go.ChangeShapes Go.WideShapes Go.ChangeAt Go.RowKit
set_option linter.unusedVariables false

theorem byte_ne {c d : UInt8} (h : c ≠ d) : ((c.toNat : Int) != (d.toNat : Int)) = true ∧ ((c.toNat : Int) == (d.toNat : Int)) = false := by
  have h1 : (c.toNat : Int) ≠ (d.toNat : Int) := fun e => h (UInt8.toNat_inj.mp (by omega))
  exact ⟨bne_iff_ne.2 h1, beq_eq_false_iff_ne.2 h1⟩
/-- What a word is answered as: its text, and the place behind it and one blank. -/
def WordAt (s : ByteArray) (i : Nat) (wd : ByteArray) (nx : Nat) : Prop := wd.data.toList = wordL (s.data.toList.drop i) ∧ nx ≤ s.size ∧ s.data.toList.drop nx = restL (s.data.toList.drop i) ∧ wd.size ≤ s.size
theorem WordAt.of {s : ByteArray} {i k nx : Nat} (hik : i ≤ k) (hk : k ≤ s.size) (ha : ∀ j, i ≤ j → ∀ h : j < s.size, j < k → sepB s[j] = false) (he : ∀ h : k < s.size, sepB s[k] = true)
    (hn : (k < s.size ∧ nx = k + 1 ∧ ∀ h : k < s.size, s[k] = 32) ∨ (nx = k ∧ ∀ h : k < s.size, s[k] ≠ 32)) : WordAt s i (s.extract i k) nx := by
  have hl : s.data.toList.length = s.size := Array.length_toList
  have hg : ∀ j (h : j < s.data.toList.length), s.data.toList[j] = s[j]'(by omega) := fun j h => rfl
  obtain ⟨h1, h2⟩ := word_at (L := s.data.toList) hik (by omega) (fun j h0 h h' => by rw [hg]; exact ha j h0 (by omega) h') (fun h => by rw [hg]; exact he (by omega))
  refine ⟨?_, ?_, ?_, ?_⟩
  · rw [h1]
    show (s.extract i k).data.toList = _
    rw [ByteArray.data_extract, Array.toList_extract, List.extract]
  · rcases hn with ⟨h3, rfl, _⟩ | ⟨rfl, _⟩ <;> omega
  · rw [h2]
    rcases hn with ⟨h3, rfl, h4⟩ | ⟨rfl, h4⟩
    · rw [List.drop_eq_getElem_cons (show k < s.data.toList.length by omega), hg, h4 h3]
      rfl
    · by_cases h3 : nx < s.size
      · rw [List.drop_eq_getElem_cons (show nx < s.data.toList.length by omega), hg]
        show _ = if s[nx] == 32 then _ else _
        rw [if_neg (by simpa using h4 h3)]
      · rw [List.drop_of_length_le (by omega)]
        rfl
  · rw [ByteArray.size_extract]
    omega
set_option maxHeartbeats 2000000 in
set_option maxRecDepth 100000 in
theorem spec_word (s : ByteArray) (i : Nat) (w : World) (hs : s.size ≤ 1048576) (hi : i ≤ s.size) :
    Calls Tryd.prog 34 #[.string s, .int .i64 (i : Int)] w fun e w' => ∃ (wd : ByteArray) (nx : Nat), e = .returned (.tuple #[.string wd, .int .i64 (nx : Int)]) ∧ WordAt s i wd nx ∧ w = w' := by
  have i0 : (0 : Int) ≤ (i : Int) := by omega
  go_enter Tryd.func34, Tryd.ntmps34
  go_wp2_with fail
  go_loop [6] (fun j => ∃ k : Nat, i ≤ k ∧ k ≤ s.size ∧ j = .int .i64 (k : Int) ∧ Hid (∀ j, i ≤ j → ∀ h : j < s.size, j < k → sepB s[j] = false)) (fun j => s.size - (RowKit.intOf j).toNat)
  case atStart => exact ⟨i, Nat.le_refl _, hi, rfl, Lib.hid (fun j h0 _ h1 => absurd h0 (by omega))⟩
  case round =>
    obtain ⟨k, hk0, hk, rfl, HA⟩ := hrel
    have k0 : (0 : Int) ≤ (k : Int) := by omega
    by_cases hlt : k < s.size
    · by_cases h1 : s[k] = 32
      · have h1' : ((s[k].toNat : Int) != 32) = false := by rw [h1]; rfl
        have HW := Lib.hid (WordAt.of hk0 hk HA.out (fun _ => by rw [h1]; rfl) (.inl ⟨hlt, rfl, fun _ => h1⟩))
        go_wp2_with fail
        go_ret2
        exact ⟨_, k + 1, by go_num, HW.out, rfl⟩
      · have h1' : ((s[k].toNat : Int) != 32) = true := (byte_ne h1).1
        have h1e : ((s[k].toNat : Int) == 32) = false := (byte_ne h1).2
        by_cases h2 : s[k] = 40
        · have h2' : ((s[k].toNat : Int) != 40) = false := by rw [h2]; rfl
          have HW := Lib.hid (WordAt.of hk0 hk HA.out (fun _ => by rw [h2]; rfl) (.inr ⟨rfl, fun _ => h1⟩))
          clear h1 h2
          go_wp2_with fail
          go_ret2
          exact ⟨_, k, rfl, HW.out, rfl⟩
        · have h2' : ((s[k].toNat : Int) != 40) = true := (byte_ne h2).1
          by_cases h3 : s[k] = 41
          · have h3' : ((s[k].toNat : Int) != 41) = false := by rw [h3]; rfl
            have HW := Lib.hid (WordAt.of hk0 hk HA.out (fun _ => by rw [h3]; rfl) (.inr ⟨rfl, fun _ => h1⟩))
            clear h1 h2 h3
            go_wp2_with fail
            go_ret2
            exact ⟨_, k, rfl, HW.out, rfl⟩
          · have h3' : ((s[k].toNat : Int) != 41) = true := (byte_ne h3).1
            have HN := Lib.hid (show ∀ j, i ≤ j → ∀ h : j < s.size, j < k + 1 → sepB s[j] = false from fun j h0 h hj => by
              by_cases e : j = k
              · subst e
                simp [sepB, h1, h2, h3]
              · exact HA.out j h0 h (by omega))
            clear h1 h2 h3 h1e
            go_wp2_with fail
            go_round
            case rel => exact ⟨k + 1, by omega, by omega, by go_num, HN⟩
            case measure => simp only [RowKit.intOf]; omega
    · have HW := Lib.hid (WordAt.of hk0 hk HA.out (fun h => absurd h hlt) (.inr ⟨rfl, fun h => absurd h hlt⟩))
      go_wp2_with fail
      go_ret2
      exact ⟨_, k, rfl, HW.out, rfl⟩
end Go.Proofs.YtmdmkdjeaffhaaaDoor
/- Conditions (chapter 15): contracts of the model: not, and, or. No condition but the bounds of what came in. -/
namespace Go.Proofs.YtmdmkdjeaffhaaaDoor
open Go.ChangeShapes Go.WideShapes Go.ChangeAt Go.RowKit
set_option linter.unusedVariables false

/-- A slice literal of elements that own blocks themselves. -/
theorem owC_lit {w : World} {cs : List Cell} {vs : List Value} {f : List Nat} (E : TypeId) (n : Nat) (ho : owE w cs vs f) (nd : f.Nodup) (hn : n = 0 → cs = []) (hm : n ≤ maxLen) :
    owC (w.alloc (.cells vs.toArray E)) (.row n cs) (.slice (some ⟨w.heap.size, 0, none⟩) n n) (w.heap.size :: f) ∧ (w.heap.size :: f).Nodup := by
  refine ⟨?_, List.nodup_cons.2 ⟨fun h => Nat.lt_irrefl _ (owE.lt ho _ h), nd⟩⟩
  unfold owC
  refine .inr ⟨w.heap.size, n, vs.toArray, E, f, rfl, Nat.le_refl _, hm, blk_new w E vs.toArray, rfl, hn, ?_⟩
  have hl := owE.length ho
  have e : vs.toArray.toList.take cs.length = vs := by rw [← hl]; simp
  rw [e]
  exact owE.at ho ((Below.refl _ _).alloc (Nat.le_refl _) _)
def notD (x : CondD) : CondD := ⟨7, 0, 0, [x]⟩
def twoD (o : Int) (x y : CondD) : CondD := ⟨o, 0, 0, [x, y]⟩
theorem flat1 (x : CondD) : [x].flatMap CondD.c = CondD.c x := by simp
theorem flat2 (x y : CondD) : [x, y].flatMap CondD.c = CondD.c x ++ CondD.c y := by simp
theorem notD_size (x : CondD) : sizeD (notD x) = sizeD x + 1 := by unfold notD; rw [sizeD_mk, flat1]; unfold sizeD; simp; omega
theorem twoD_size (o : Int) (x y : CondD) : sizeD (twoD o x y) = sizeD x + sizeD y + 1 := by unfold twoD; rw [sizeD_mk, flat2, szE_append]; unfold sizeD; simp; omega
end Go.Proofs.YtmdmkdjeaffhaaaDoor
/- Text of conditions (chapter 16): contracts of the model: what a text is read as. No condition but a text's size. -/
namespace Go.Proofs.YtmdmkdjeaffhaaaDoor
open Go.Lib Go.ChangeShapes Go.WideShapes Go.ChangeAt Go.RowKit
set_option linter.unusedVariables false

set_option maxHeartbeats 1000000 in
/-- A number is read as a word is. -/
theorem spec_number (s : ByteArray) (i : Nat) (w : World) (hs : s.size ≤ 1048576) (hi : i ≤ s.size) :
    Calls Tryd.prog 35 #[.string s, .int .i64 (i : Int)] w fun e w' => ∃ (nx : Nat), e = .returned (.tuple #[.int .i64 (numL (wordL (s.data.toList.drop i))), .int .i64 (nx : Int)]) ∧ (nx ≤ s.size ∧ s.data.toList.drop nx = restL (s.data.toList.drop i)) ∧ Below w.heap.size w w' := by
  have HW := Lib.hid (spec_word s i w hs hi)
  have HL := Lib.hid (show ∀ (wd : ByteArray) (nx : Nat), WordAt s i wd nx → (nx ≤ s.size ∧ s.data.toList.drop nx = restL (s.data.toList.drop i)) ∧ wd.data.toList = wordL (s.data.toList.drop i) ∧ wd.size ≤ s.size from fun wd nx h => ⟨⟨h.2.1, h.2.2.1⟩, h.1, h.2.2.2⟩)
  obtain ⟨L, hL⟩ : ∃ L, wordL (s.data.toList.drop i) = L := ⟨_, rfl⟩
  obtain ⟨R, hR⟩ : ∃ R : Nat → Prop, (fun nx => nx ≤ s.size ∧ s.data.toList.drop nx = restL (s.data.toList.drop i)) = R := ⟨_, rfl⟩
  rw [hL] at HL ⊢
  have hR' : ∀ nx, (nx ≤ s.size ∧ s.data.toList.drop nx = restL (s.data.toList.drop i)) = R nx := fun nx => congrFun hR nx
  simp only [hR'] at HL ⊢
  obtain ⟨N, hN⟩ : ∃ N, numL L = N := ⟨_, rfl⟩
  rw [hN]
  have HNL := Lib.hid hN
  clear hL hR hR' hN
  go_enter Tryd.func35, Tryd.ntmps35
  go_wp2_with fail
  refine HW.out.mono ?_
  rintro e w1 ⟨wd, nx, rfl, hwd, rfl⟩
  obtain ⟨hr, he, hz⟩ := HL.out wd nx hwd
  subst he
  have HR := Lib.hid hr
  have HP := Lib.hid (spec_parse wd (by omega) w)
  clear hr hwd HL HW
  obtain ⟨p, hp⟩ : ∃ p, parsed wd.data.toList = p := ⟨_, rfl⟩
  have HN := Lib.hid (show N = if p = true then parsedVal wd.data.toList else -1 by rw [← HNL.out]; unfold numL; rw [hp])
  rw [hp] at HP
  generalize parsedVal wd.data.toList = V at HN HP
  clear hp hz HNL
  go_wp2_with fail
  refine HP.out.mono ?_
  rintro e w2 ⟨rfl, b2⟩
  cases p
  · go_wp2
    go_ret2
    exact ⟨nx, by rw [HN.out]; rfl, HR.out, b2⟩
  · go_wp2
    go_ret2
    exact ⟨nx, by rw [HN.out]; rfl, HR.out, b2⟩
theorem leaf_own {w : World} {o a b : Int} (h0 : (Lit.int .i64 o).wf = true) (h1 : (Lit.int .i64 a).wf = true) (h2 : (Lit.int .i64 b).wf = true) : owE w (CondD.c ⟨o, a, b, []⟩) [.int .i64 o, .int .i64 a, .int .i64 b, .slice none 0 0] [] :=
  CondD.ow_mk h0 h1 h2 (by show owC w (.row 0 []) _ _; unfold owC; exact .inl ⟨rfl, rfl, rfl, rfl⟩)
/-- What is answered: a condition of the call's own, and the place where it ends. -/
def Got16 (s : ByteArray) (w : World) (x : CondD) (t : List UInt8) (v : Value) (nx : Nat) (w' : World) : Prop :=
  ∃ (us : List Value) (fp : List Nat), v = .agg us.toArray ∧ owE w' (CondD.c x) us fp ∧ fp.Nodup ∧ (∀ k ∈ fp, w.heap.size ≤ k ∧ k < w'.heap.size) ∧ (nx ≤ s.size ∧ s.data.toList.drop nx = t) ∧ Below w.heap.size w w'
/-- How the model reads a condition. -/
def Reads16 (n : Nat) (s : ByteArray) : Prop := ∀ (i d : Nat) (w : World), i ≤ s.size → n + d = 16 →
  Calls Tryd.prog 21 #[.string s, .int .i64 (i : Int), .int .i64 (d : Int)] w fun e w' => ∃ (v : Value) (nx : Nat), e = .returned (.tuple #[v, .int .i64 (nx : Int)]) ∧ Got16 s w (prs n (s.data.toList.drop i)).1 (prs n (s.data.toList.drop i)).2 v nx w'
theorem got_zero (s : ByteArray) (w : World) : Got16 s w zeroC [] (.agg #[.int .i64 0, .int .i64 0, .int .i64 0, .slice none 0 0]) s.size (w.alloc (.cells #[.int .i64 0, .int .i64 0, .int .i64 0, .slice none 0 0] 29)) := by
  refine ⟨[.int .i64 0, .int .i64 0, .int .i64 0, .slice none 0 0], [], rfl, leaf_own rfl rfl rfl, List.nodup_nil, ?_, ⟨Nat.le_refl _, List.drop_of_length_le ?_⟩, (Below.refl _ _).alloc (Nat.le_refl _) _⟩
  · intro k hk
    cases hk
  · rw [Array.length_toList]
    exact Nat.le_refl _
set_option maxHeartbeats 4000000 in
set_option maxRecDepth 100000 in
theorem reads_zero (s : ByteArray) (hs : s.size ≤ 400) : Reads16 0 s := by
  intro i d w hi hd
  obtain rfl : d = 16 := by omega
  have hP : prs 0 (s.data.toList.drop i) = (zeroC, []) := by rw [prs]
  rw [hP]
  clear hP
  have HG := Lib.hid (got_zero s w)
  show Calls Tryd.prog 21 #[.string s, .int .i64 (i : Int), .int .i64 16] w fun e w' => ∃ (v : Value) (nx : Nat), e = .returned (.tuple #[v, .int .i64 (nx : Int)]) ∧ Got16 s w zeroC [] v nx w'
  by_cases hlt : i < s.size
  · go_enter Tryd.func21, Tryd.ntmps21
    go_wp2_with fail
    obtain ⟨⟨q0, q1, q2, q3⟩, -⟩ := cls_4 (blk_new w 29 #[.int .i64 0, .int .i64 0, .int .i64 0, .slice none 0 0])
    exact bodyPost_ret (v := .tuple #[.agg #[.int .i64 0, .int .i64 0, .int .i64 0, .slice none 0 0], .int .i64 (s.size : Int)]) (by simp [results, Tryd.results21, go_sem, q0, q1, q2, q3]) rfl ⟨_, s.size, rfl, HG.out⟩
  · go_enter Tryd.func21, Tryd.ntmps21
    go_wp2_with fail
    obtain ⟨⟨q0, q1, q2, q3⟩, -⟩ := cls_4 (blk_new w 29 #[.int .i64 0, .int .i64 0, .int .i64 0, .slice none 0 0])
    exact bodyPost_ret (v := .tuple #[.agg #[.int .i64 0, .int .i64 0, .int .i64 0, .slice none 0 0], .int .i64 (s.size : Int)]) (by simp [results, Tryd.results21, go_sem, q0, q1, q2, q3]) rfl ⟨_, s.size, rfl, HG.out⟩
end Go.Proofs.YtmdmkdjeaffhaaaDoor
