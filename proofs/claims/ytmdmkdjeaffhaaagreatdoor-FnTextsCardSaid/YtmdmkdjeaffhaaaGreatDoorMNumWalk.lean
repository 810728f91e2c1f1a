/- Some texts in one: Fmt, Tab, NumWalk. -/
import Derived.Test.YtmdmkdjeaffhaaaGreatDoorMZCond
import Derived.Test.YtmdmkdjeaffhaaaGreatDoorMNum
import Derived.Test.YtmdmkdjeaffhaaaGreatDoorMText2
import Derived.WalkKit
import Derived.ProofKit
import Derived.OpenShut
import Derived.WalkLawsBesides
import Derived.WalkSpells
import Derived.LoopTactic
import Derived.Lib.Hide
import Derived.Below
import Derived.Laws.BytesArg
import Derived.Test.YtmdmkdjeaffhaaaGreatDoorShelf
import Derived.Lib.LaidTab
import Derived.Stop.LaidErr
import Derived.Stop.Joined
import Derived.LaidMore
/- What FormatInt of the model returns, at every integer. No condition but the integer's range. -/
namespace Go.Proofs.YtmdmkdjeaffhaaaGreatDoor
open Go.ChangeShapes Go.WideShapes Go.ChangeAt Go.RowKit
set_option linter.unusedVariables false

set_option maxHeartbeats 1000000 in
set_option maxRecDepth 100000 in
theorem spec_format (n : Int) (w : World) (h0 : -9223372036854775808 ≤ n) (h1 : n ≤ 9223372036854775807) :
    Calls Tryz.prog 47 #[.int .i64 n] w fun e w' => e = .returned (.string ⟨(Lib.itoa n).toArray⟩) ∧ Below w.heap.size w w' := by
  by_cases hz : n = 0
  · subst hz
    go_enter Tryz.func47, Tryz.ntmps47
    go_wp2
    go_ret
    exact ⟨ret_str (by decide +kernel), Below.refl _ _⟩
  · have hz' : (n == 0) = false := by simpa using hz
    go_enter Tryz.func47, Tryz.ntmps47
    go_wp2
    rcases Int.lt_or_gt_of_ne hz with hn | hn
    · go_loopw [3, 4] (fun s x wr => ∃ (u : Nat) (l : List UInt8), x = .int .i64 (-(u : Int)) ∧ s = .string ⟨l.toArray⟩ ∧ n ≤ -(u : Int) ∧ Hid (leftDigits n.natAbs = leftDigits u ++ l) ∧ Below w.heap.size w wr) (fun _ x _ => (intOf x).natAbs)
      case atStart => exact ⟨n.natAbs, [], by rw [show -((n.natAbs : Nat) : Int) = n by omega], rfl, by omega, by unfold Hid; simp, Below.refl _ _⟩
      case round =>
        obtain ⟨u, l, rfl, rfl, hle, HD, hb⟩ := hrel
        have hl : l.length ≤ 20 := by
          have h2 := congrArg List.length HD.out
          have h3 := leftDigits_le n.natAbs (by omega)
          simp only [List.length_append] at h2
          omega
        by_cases hu : u = 0
        · subst hu
          go_wp2
          go_ret
          refine ⟨ret_str ?_, hb⟩
          have e0 : leftDigits n.natAbs = l := by rw [HD.out]; rfl
          rw [itoa_minus n hn, e0]
          apply ByteArray.ext
          simp
        · have e1 : (-(u : Int)).tmod 10 = -((u % 10 : Nat) : Int) := by rw [Int.neg_tmod]; rfl
          have e2 : (-(u : Int)).tdiv 10 = -((u / 10 : Nat) : Int) := by rw [Int.neg_tdiv]; rfl
          have hm : u % 10 ≤ 9 := by omega
          have HS := Lib.hid (leftDigits_step u hu l)
          have e3 : (48 + (u : Int) % 10).toNat = 48 + u % 10 := by omega
          have E3 := Lib.hid e3
          clear e3
          by_cases hd : u % 10 = 0
          · have cv := conv_one wr 48
            have hs : (strOfNums [48]).size = 1 := rfl
            go_wp2
            refine ⟨⟨u / 10, UInt8.ofNat (48 + u % 10) :: l, by go_num, ?_, by omega, ?_, hb.alloc hb.size _⟩, by simp only [intOf]; omega⟩
            · rw [str_cons _ (UInt8.ofNat (48 + u % 10)) l (by rw [hd]; rfl)]
            · unfold Hid
              rw [HD.out, HS.out]
          · have cv := conv_one wr (48 + (u : Int) % 10)
            have hs : (strOfNums [48 + (u : Int) % 10]).size = 1 := rfl
            go_wp2
            refine ⟨⟨u / 10, UInt8.ofNat (48 + u % 10) :: l, by go_num, ?_, by omega, ?_, hb.alloc hb.size _⟩, by simp only [intOf]; omega⟩
            · rw [str_cons _ (UInt8.ofNat (48 + u % 10)) l (by rw [E3.out])]
            · unfold Hid
              rw [HD.out, HS.out]
    · go_loopw [3, 4] (fun s x wr => ∃ (u : Nat) (l : List UInt8), x = .int .i64 (u : Int) ∧ s = .string ⟨l.toArray⟩ ∧ (u : Int) ≤ n ∧ Hid (leftDigits n.natAbs = leftDigits u ++ l) ∧ Below w.heap.size w wr) (fun _ x _ => (intOf x).toNat)
      case atStart => exact ⟨n.natAbs, [], by rw [show ((n.natAbs : Nat) : Int) = n by omega], rfl, by omega, by unfold Hid; simp, Below.refl _ _⟩
      case round =>
        obtain ⟨u, l, rfl, rfl, hle, HD, hb⟩ := hrel
        by_cases hu : u = 0
        · subst hu
          go_wp2
          go_ret
          refine ⟨ret_str ?_, hb⟩
          have e0 : leftDigits n.natAbs = l := by rw [HD.out]; rfl
          rw [itoa_plus n hn, e0]
        · have cv := conv_one wr (48 + (u : Int) % 10)
          have hl : l.length ≤ 20 := by
            have h2 := congrArg List.length HD.out
            have h3 := leftDigits_le n.natAbs (by omega)
            simp only [List.length_append] at h2
            omega
          have hs : (strOfNums [48 + (u : Int) % 10]).size = 1 := rfl
          go_wp2
          refine ⟨⟨u / 10, UInt8.ofNat (48 + u % 10) :: l, by go_num, ?_, by omega, ?_, hb.alloc hb.size _⟩, by simp only [intOf]; omega⟩
          · rw [str_cons _ (UInt8.ofNat (48 + u % 10)) l (by congr 1)]
          · unfold Hid
            rw [HD.out, leftDigits_step u hu]
end Go.Proofs.YtmdmkdjeaffhaaaGreatDoor
/- The table that the library's Itoa reads: that it lies in the world, what the listed variables give of it, and FormatInt of the program (c685cb1). Condition: the rows' own list of variables, tied by the given tie. -/
namespace Go.Proofs.YtmdmkdjeaffhaaaGreatDoor
open Go.ChangeShapes Go.WideShapes Go.ChangeAt Go.RowKit
set_option linter.unusedVariables false

/-- The table that the library's Itoa reads lies in the world. -/
def HasTab (w : World) : Prop := Lib.TabIs Tryz.prog w "internal/strconv.uint64pow10" .u64 Lib.pow10Tab
theorem HasTab.kept {w w' : World} (h : HasTab w) (hb : Below w.heap.size w w') : HasTab w' := by
  unfold HasTab Lib.TabIs at h ⊢
  unfold World.var? at h ⊢
  cases hg : Tryz.prog.globalNamed "internal/strconv.uint64pow10" with
  | none => simp [hg] at h
  | some g =>
    simp only [hg, Option.bind_some] at h ⊢
    have hlt : g < w.heap.size := by
      rcases Nat.lt_or_ge g w.heap.size with h' | h'
      · exact h'
      · simp [Array.getElem?_eq_none h'] at h
    rw [hb.block g hlt]
    exact h
theorem below_grow (w : World) (k : Nat) (os : Array Obj) : Below w.heap.size w (Sort.grow (w.drewN k) os) :=
  ⟨rfl, rfl, rfl, by show _ ≤ (w.heap ++ os).size; simp, fun i hi => by show (w.heap ++ os)[i]? = _; rw [Array.getElem?_append_left hi]⟩
theorem impl_format (n : Int) (w : World) (h0 : -9223372036854775808 ≤ n) (h1 : n ≤ 9223372036854775807) (hT : HasTab w) :
    Calls Tryz.prog 39 #[.int .i64 n] w fun e w' => e = .returned (.string ⟨(Lib.itoa n).toArray⟩) ∧ Below w.heap.size w w' := by
  go_enter Tryz.func39, Tryz.ntmps39
  go_wp2_with (go_at_call 56; refine (Tryz.strconv_Itoa n h0 h1 w hT).mono ?_; rintro e w' ⟨rfl, k, os, rfl⟩)
  go_ret
  exact ⟨rfl, below_grow _ _ _⟩

theorem gTab : Tryz.prog.globalNamed "internal/strconv.uint64pow10" = some 1 := by kernel_rfl
theorem gTabType : (Tryz.prog.globals[1]?).map (·.type) = some 122 := by kernel_rfl
theorem cTab : Tryz.prog.cellsOf 122 = 20 := by kernel_rfl
theorem cU64 : Tryz.prog.cellsOf 110 = 1 := by kernel_rfl
/-- Behind the two tables of bits stands the table of powers of ten. -/
theorem tab_of_laid {r : List (String × DataW Unit)} {a b : String × DataW Unit} {w : World} (h : laidMet Tryz.prog (a :: b :: ("internal/strconv.uint64pow10", Rows.laid_internal_strconv_uint64pow10) :: r) w) : HasTab w :=
  Lib.tabIs_of_head (rest := r) gTab gTabType Tryz.underlying122 Tryz.underlying110 cU64 cTab h.tail.tail
end Go.Proofs.YtmdmkdjeaffhaaaGreatDoor
/- Contracts of chapter 1's numerals: what FormatInt and ParseInt of the program and of its model return. -/
namespace Go.Proofs.YtmdmkdjeaffhaaaGreatDoor
open Go.ChangeShapes Go.WideShapes Go.ChangeAt Go.RowKit
set_option linter.unusedVariables false

/-- The library's two errors lie in the world. -/
def HasErr (w : World) : Prop := (∃ te pe, w.cell? ⟨2, 0, none⟩ = some (.iface te pe)) ∧ (∃ te pe, w.cell? ⟨3, 0, none⟩ = some (.iface te pe))
theorem HasErr.kept {w w' : World} (h : HasErr w) (hb : Below w.heap.size w w') : HasErr w' := by
  obtain ⟨⟨a, b, h1⟩, ⟨c, d, h2⟩⟩ := h
  exact ⟨⟨a, b, (hb.cell (Lib.lt_of_cell h1)).trans h1⟩, ⟨c, d, (hb.cell (Lib.lt_of_cell h2)).trans h2⟩⟩
theorem below_bytes (w : World) (e : TypeId) (s : ByteArray) : Below w.heap.size w (Lib.bytesWorld w e s) :=
  ⟨rfl, rfl, rfl, by rw [Lib.bytesWorld_size]; omega, fun i hi => Lib.bytesWorld_at_old w e s i hi⟩

theorem atoi_ok (s : ByteArray) (hlim : s.size ≤ 281474976710656) (v : Int) (h : Lib.atoiAll s.data.toList = .ok v) (w : World) :
    Calls Tryz.prog 71 #[.string s] w fun e w' => e = .returned (.tuple #[.int .i64 v, .nilIface]) ∧ Below w.heap.size w w' :=
  (Tryz.strconv_Atoi_ok s (by omega) v h w).mono fun e w' ⟨he, hw⟩ => ⟨he, by
    rcases hw with rfl | ⟨t, rfl⟩
    · exact Below.refl _ _
    · exact below_bytes _ _ _⟩
theorem atoi_bad (s : ByteArray) (hlim : s.size ≤ 281474976710656) (h : ∀ v, Lib.atoiAll s.data.toList ≠ .ok v) (w : World) (hE : HasErr w) :
    Calls Tryz.prog 71 #[.string s] w fun e w' => ∃ q T p, e = .returned (.tuple #[.int .i64 q, .iface T (.pointer (some p))]) ∧ Below w.heap.size w w' := by
  obtain ⟨⟨a, b, h1⟩, ⟨c, d, h2⟩⟩ := hE
  generalize hk : Lib.atoiAll s.data.toList = k at h
  rcases k with v | _ | _
  · exact absurd rfl (h v)
  · exact (Any.strconv_Atoi_syntax Tryz.laysC172 s hlim hk _ w h1 (Or.inr ⟨a, b, rfl⟩)).mono fun e w' ⟨N, he, _, _, hw⟩ => ⟨_, _, _, he, hw⟩
  · exact (Tryz.strconv_Atoi_range s hlim hk _ w h2 (Or.inr ⟨c, d, rfl⟩)).mono fun e w' ⟨N, he, _, _, hw⟩ => ⟨_, _, _, he, hw⟩

theorem ret_pair {a b : Int} {x y : Bool} (h : a = b) (g : x = y) : Ending.returned (.tuple #[.int .i64 a, .bool x]) = .returned (.tuple #[.int .i64 b, .bool y]) := by rw [h, g]
set_option maxHeartbeats 1000000 in
theorem impl_parse (s : ByteArray) (hlim : s.size ≤ 281474976710656) (w : World) (hT : HasTab w) (hE : HasErr w) :
    Calls Tryz.prog 65 #[.string s] w fun e w' => e = .returned (.tuple #[.int .i64 (parsedVal s.data.toList), .bool (parsed s.data.toList)]) ∧ Below w.heap.size w w' := by
  by_cases hok : ∃ v, Lib.atoiAll s.data.toList = .ok v
  · obtain ⟨v, hv⟩ := hok
    obtain ⟨b0, b1⟩ := Lib.atoiAll_bounds hv
    have HV := Lib.hid hv
    clear hv
    by_cases hr : 0 ≤ v ∧ v ≤ 1000000000000
    · obtain ⟨r0, r1⟩ := hr
      go_enter Tryz.func65, Tryz.ntmps65
      go_wp2_with (first
        | (go_at_call 71; refine (atoi_ok s hlim v HV.out w).mono ?_; rintro e w1 ⟨rfl, hb1⟩)
        | (go_at_call 43; refine (impl_range _ _ _ _).mono ?_; rintro e w' ⟨rfl, rfl⟩)
        | (go_at_call 39; refine (impl_format _ _ b0 b1 (hT.kept hb1)).mono ?_; rintro e w2 ⟨rfl, hb2⟩))
      · go_ret2
        have hne : (!Lib.itoa v == s.toList) = true := by assumption
        rw [ByteArray.toList_eq] at hne
        have hp : parsed s.data.toList = false := by
          cases hp : parsed s.data.toList with
          | false => rfl
          | true =>
            have hx := atoi_of_parsed hp
            rw [HV.out] at hx
            injection hx.1 with hx1
            rw [← hx1] at hx
            rw [hx.2] at hne
            simp at hne
        exact ⟨ret_pair (parsedVal_no hp).symm hp.symm, hb1.trans (hb2.mono hb1.size)⟩
      · go_ret2
        have hne : (!Lib.itoa v == s.toList) = false := by assumption
        rw [ByteArray.toList_eq] at hne
        have hx := parsed_of_atoi (l := s.data.toList) (v := v) (by assumption) (by assumption) (by simpa using hne)
        exact ⟨ret_pair hx.2.symm hx.1.symm, hb1.trans (hb2.mono hb1.size)⟩
    · go_enter Tryz.func65, Tryz.ntmps65
      go_wp2_with (first
        | (go_at_call 71; refine (atoi_ok s hlim v HV.out w).mono ?_; rintro e w1 ⟨rfl, hb1⟩)
        | (go_at_call 43; refine (impl_range _ _ _ _).mono ?_; rintro e w' ⟨rfl, rfl⟩))
      go_ret2
      have hp : parsed s.data.toList = false := by
        cases hp : parsed s.data.toList with
        | false => rfl
        | true =>
          have hx := atoi_of_parsed hp
          rw [HV.out] at hx
          injection hx.1 with hx1
          have := parsedVal_bd s.data.toList
          omega
      exact ⟨ret_pair (parsedVal_no hp).symm hp.symm, hb1⟩
  · have HN := Lib.hid (show ∀ v, Lib.atoiAll s.data.toList ≠ .ok v from fun v hv => hok ⟨v, hv⟩)
    clear hok
    go_enter Tryz.func65, Tryz.ntmps65
    go_wp2_with (go_at_call 71; refine (atoi_bad s hlim HN.out w hE).mono ?_; rintro e w1 ⟨q, T, p, rfl, hb1⟩)
    go_ret2
    have hp : parsed s.data.toList = false := by
      cases hp : parsed s.data.toList with
      | false => rfl
      | true => exact absurd (atoi_of_parsed hp).1 (HN.out _)
    exact ⟨ret_pair (parsedVal_no hp).symm hp.symm, hb1⟩

/-- Does every byte before k stand for a digit? -/
theorem take_all {l : List UInt8} {k : Nat} (hk : k < l.length) (h : (l.take k).all isDig = true) : (l.take (k + 1)).all isDig = isDig l[k] := by
  rw [List.take_succ_eq_append_getElem hk, List.all_append, h]
  simp
end Go.Proofs.YtmdmkdjeaffhaaaGreatDoor
