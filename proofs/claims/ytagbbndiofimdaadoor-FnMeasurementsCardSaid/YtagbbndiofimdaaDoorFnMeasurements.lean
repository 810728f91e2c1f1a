/-
  Proved here: for every input, a quote is good for its log only, and a register tells everything that was started.
  Conditions: those that the given row itself prints; none of our own.
-/
import Derived.Test.YtagbbndiofimdaaDoorCards
import Derived.Test.YtagbbndiofimdaaDoorTie
import Derived.Test.YtagbbndiofimdaaDoorMeasW
import Derived.Test.YtagbbndiofimdaaDoorMeasK
import Derived.Test.YtagbbndiofimdaaDoorDraw12b
import Derived.Test.YtagbbndiofimdaaDoorSame
import Derived.Test.YtagbbndiofimdaaDoorStep
import Derived.Test.YtagbbndiofimdaaDoorVars
import Derived.Test.YtagbbndiofimdaaDoorCryD
import Derived.Test.YtagbbndiofimdaaDoorPre
import Derived.WalkKit
import Derived.ProofKit
import Derived.OpenShut
import Derived.ShutString
import Derived.ChangeOld
import Derived.Below
import Derived.WalkLawsBesides
import Derived.WalkSpells
import Derived.LoopTactic
import Derived.Lib.Hide
import Derived.Deep.DeepCutAuto
import Derived.Handy
import Derived.Deep.RegionHeld3
import Derived.LaidMore
import Derived.Stop.Joined
import Derived.SevenTiedAt
namespace Go.Proofs.YtagbbndiofimdaaDoor.fnMeasurements
open Go.ChangeShapes Go.WideShapes Go.ChangeAt Go.RowKit
open Go.ChangeMaps (open_string shut_string)
set_option linter.unusedVariables false

theorem own : ownKnob Tryd.prog.godebug = none := by kernel_rfl
theorem laidOut : laidOutB Tryd.prog = true := by kernel_rfl

set_option maxHeartbeats 32000000 in
set_option maxRecDepth 100000 in
theorem walk (a0 : Option Addr) (len0 cap0 : Nat) (z0 : List Int) (w : World) (w0 : IsRow .u8 w a0 len0 cap0 z0) (hL : NoKey w) :
    Calls Tryd.prog 3 #[.slice a0 len0 cap0] w fun e w' => e = .returned (.bool true) ∧ Below w.heap.size w w' := by
  by_cases hbig : (len0 : Int) ≤ 1048576
  · obtain ⟨i0, hi0, hz0, hz1, hz2⟩ := info_parts infoIntS
    go_enter Tryd.func3, Tryd.ntmps3
    go_wp2_with (go_at_call 6; go_in)
    refine (draw_makeQuote w a0 len0 cap0 z0 w0).mono ?_
    rintro e w1 ⟨k, d, U, xs, n, t, ⟨hk, hd, hn, ht⟩, rfl, hlr, b1⟩
    obtain ⟨hxl, hxb, hrow⟩ := hlr
    obtain ⟨A, cp, rfl, -⟩ := id hrow.form
    have hK1 := hL.kept b1
    have HL := Lib.hid hL
    have hkw : (Lit.int .i64 k).wf = true := wf_i64 hk.1 hk.2
    have hdw : (Lit.int .i64 d).wf = true := wf_i64 (by omega) (by omega)
    have hnw : (Lit.int .i64 n).wf = true := wf_i64 (by omega) (by omega)
    have hnw1 : (Lit.int .i64 (n + 1)).wf = true := wf_i64 (by omega) (by omega)
    have htw : (Lit.int .i64 t).wf = true := wf_i64 ht.1 ht.2
    have hW1 : IntKind.i64.wrap (n + 1) = n + 1 := by rw [IntKind.wrap_i64]; omega
    have HROW := Lib.hid hrow
    have HXB := Lib.hid hxb
    have HQW := Lib.hid (madeQ_wf (k := k) (log := xs) hdw hnw htw)
    have CM := Lib.hid (impl_makeQuote k d n t w1 w1.heap.size cp A xs hrow (Nat.le_refl _) (by omega) hkw hdw hnw htw hK1)
    have HC1 := Lib.hid (fun h => check_self (k := k) (d := d) (n := n) (t := t) (log := xs) h)
    have HC2 := Lib.hid (fun h => check_nonce (k := k) (d := d) (n := n) (t := t) (log := xs) h)
    have HC3 := Lib.hid (fun h (i : Nat) (x : Int) hx h0 h1 => check_other (k := k) (d := d) (n := n) (t := t) (log := xs) (i := i) (x := x) h hx h0 h1)
    generalize makeQ k d xs n t = Q at HQW CM HC1 HC2 HC3
    generalize okQuote k d xs t = ok at CM HC1 HC2 HC3
    obtain ⟨q0, q1, q2, q3, q4⟩ := Q
    have hcm := CM.out
    rw [QuoteD.val_mk] at hcm
    have CC := Lib.hid (fun (W : World) (hb : Below w1.heap.size w1 W) (hi c : Nat) (a : Option Addr) (l : List Int) (N : Int) (h : Row .i64 W hi (.slice a l.length c) l) (hh : hi ≤ W.heap.size) (hl : l.length ≤ 4) (hN : (Lit.int .i64 N).wf = true) => show Calls Tryd.prog 9 #[.int .i64 k, .agg #[.int .i64 q0, .int .i64 q1, .int .i64 q2, .int .i64 q3, .int .i64 q4], .slice a l.length c, .int .i64 N, .int .i64 t, .int .i64 0] W _ from impl_checkQuote k N t 0 ⟨q0, q1, q2, q3, q4⟩ W hi c a l h hh hkw HQW.out hN (by omega) (hK1.kept hb))
    clear CM hrow hxb hkw hdw htw hK1 hk hd ht hL
    have hbn := hn
    clear hn
    go_wp2_with fail
    refine hcm.mono ?_
    rintro e w2 ⟨rfl, b2⟩
    obtain ⟨W3, hW3⟩ : ∃ W3, W3 = w2.alloc (.cells #[.int .i64 q0, .int .i64 q1, .int .i64 q2, .int .i64 q3, .int .i64 q4] 28) := ⟨_, rfl⟩
    have b3 : Below w2.heap.size w2 W3 := by rw [hW3]; exact (Below.refl _ _).alloc (Nat.le_refl _) _
    have hk3 : W3.heap[w2.heap.size]? = some (.cells #[.int .i64 q0, .int .i64 q1, .int .i64 q2, .int .i64 q3, .int .i64 q4] 28) := by rw [hW3]; exact blk_new _ _ _
    have d3 := b2.trans (b3.mono b2.size)
    go_upto_region 5 with fail
    rw [← hW3]
    generalize hF : w2.heap.size = F at hk3 ⊢
    clear hF hW3 b2 b3 hcm
    go_upto_if 35 with fail
    go_cut [] (fun wx => Hid (Below w1.heap.size w1 wx))
    case first =>
      cases ok
      · go_wp2
        go_meet
        exact Lib.hid d3
      · have hc1 := HC1.out rfl
        have hc2 := HC2.out rfl
        have HC3' := Lib.hid (HC3.out rfl)
        have hy := HROW.out.below d3 (Nat.le_refl _)
        have C1 := Lib.hid (hc1 ▸ CC.out W3 d3 w1.heap.size cp A xs n hy d3.size hxl hnw)
        have C2 := Lib.hid (fun (W : World) (hb : Below w1.heap.size w1 W) => hc2 ▸ CC.out W hb w1.heap.size cp A xs (n + 1) (HROW.out.below hb (Nat.le_refl _)) hb.size hxl hnw1)
        clear HC1 HC2 HC3 hc1 hc2 hy
        obtain ⟨⟨c0, c1, c2, c3, c4⟩, -⟩ := cls_5 hk3
        go_wp2_with fail
        refine C1.out.mono ?_
        rintro e w4 ⟨rfl, b4⟩
        have hk4 := blk_keep hk3 b4 (blk_lt hk3)
        have d4 := d3.trans (b4.mono d3.size)
        clear c0 c1 c2 c3 c4
        obtain ⟨⟨c0, c1, c2, c3, c4⟩, -⟩ := cls_5 hk4
        go_wp2_with fail
        refine (C2.out _ d4).mono ?_
        rintro e w5 ⟨rfl, b5⟩
        have hk5 := blk_keep hk4 b5 (blk_lt hk4)
        have d5 := d4.trans (b5.mono d4.size)
        clear c0 c1 c2 c3 c4 hk3 hk4 d3 d4 b4 b5 C1 C2
        go_wp2
        go_loopw [10] (fun i wx => ∃ j : Nat, j ≤ xs.length ∧ i = .int .i64 (j : Int) ∧ Hid (Below w1.heap.size w1 wx) ∧ Hid (wx.heap[F]? = some (.cells #[.int .i64 q0, .int .i64 q1, .int .i64 q2, .int .i64 q3, .int .i64 q4] 28))) (fun i _ => xs.length - (intOf i).toNat)
        case atStart => exact ⟨0, Nat.zero_le _, rfl, Lib.hid d5, Lib.hid hk5⟩
        case round =>
          obtain ⟨j, hj, rfl, hd6, hk6⟩ := hrel
          have d6 := hd6.out
          have hk6 := hk6.out
          by_cases hlt : j < xs.length
          · have hpos : 0 < xs.length := by omega
            have hA7 := (Below.refl wr.heap.size wr).alloc (Nat.le_refl _) (.cells #[] 3)
            have hR6 := HROW.out.below d6 (Nat.le_refl _)
            have hR7 := hR6.below hA7 d6.size
            have hO7 := Own.empty 3 .i64 wr
            have hle7 : ([] : List Int).length + xs.length ≤ 2199023255552 := by simp; omega
            have hsz7 : wr.heap.size ≤ (wr.alloc (.cells #[] 3)).heap.size := by simp
            obtain ⟨x, hx⟩ : ∃ x, xs[j]? = some x := ⟨_, List.getElem?_eq_getElem hlt⟩
            obtain ⟨hx0, hx1⟩ := HXB.out x (List.mem_of_getElem? hx)
            have hCF := HC3'.out j x hx hx0 hx1
            have hRF := Lib.hid (reg_other hx hx0 hx1)
            have W1 : IntKind.i64.wrap (x + 1) = x + 1 := by rw [IntKind.wrap_i64]; omega
            have hlen : (xs.set j (x + 1)).length = xs.length := List.length_set ..
            go_upto_region 12 with (at_builtin; refine wpList_append_Own rfl _ _ 24 rfl 3 i0 (.int .i64 0) 8 Tryd.underlying24 hi0 hz0 hz1 hz2 rfl .i64 wr.heap.size _ _ [] rfl hO7 _ _ xs rfl hR7 hle7 (by decide) hsz7 ?_; intro v8 w8 hown8 hb8)
            rw [List.nil_append] at hown8
            obtain ⟨g, c8, rfl, m1, m2, m3, m4, m5⟩ := hown8.form hpos
            have b68 := hA7.trans hb8
            have d8 := d6.trans (b68.mono d6.size)
            have hk8 := blk_keep hk6 b68 (blk_lt hk6)
            have hj8 : j < c8 := by omega
            have hcx := (hown8.row.cellAt j (by omega)).trans (show (xs.map (Value.int .i64))[j]? = some (.int .i64 x) by simp [hx])
            have hfx := hown8.row.frozenAt j
            have hst := hown8.set j (x + 1) (wf_i64 (by omega) (by omega))
            obtain ⟨W9, hW9⟩ : ∃ W9, W9 = w8.setCell ⟨g, j, none⟩ (.int .i64 (x + 1)) := ⟨_, rfl⟩
            have hg1 := Nat.le_trans d6.size m3
            have d9 : Below w1.heap.size w1 W9 := by rw [hW9]; exact d8.setCell (p := ⟨g, j, none⟩) hg1 _
            have hFg : F ≠ g := by have := blk_lt hk6; omega
            have hk9 : W9.heap[F]? = some (.cells #[.int .i64 q0, .int .i64 q1, .int .i64 q2, .int .i64 q3, .int .i64 q4] 28) := by rw [hW9]; exact (Below.heap_setCell w8 ⟨g, j, none⟩ _ F hFg).trans hk8
            rw [← hW9] at hst
            have hZ : W9.heap.size = w8.heap.size := by rw [hW9]; simp [World.setCell]
            have hxj : (x + 1) % 100 = x + 1 := by omega
            go_upto_region 13 with fail
            rw [← hW9]
            clear hW9 hcx hfx
            have hwn := hst.read
            have CO := Lib.hid (hCF ▸ CC.out W9 d9 w8.heap.size c8 (some ⟨g, 0, none⟩) (xs.set j (x + 1)) n (by rw [hlen]; exact hwn) (by omega) (by omega) hnw)
            rw [hlen] at CO
            obtain ⟨⟨c0, c1, c2, c3, c4⟩, -⟩ := cls_5 hk9
            go_wp2_with fail
            refine CO.out.mono ?_
            rintro e w10 ⟨rfl, b10⟩
            have d10 := d9.trans (b10.mono d9.size)
            have hk10 := blk_keep hk9 b10 (blk_lt hk9)
            clear c0 c1 c2 c3 c4 hk9 CO
            have hww := hwn.below b10 (by omega)
            have CRA := Lib.hid (impl_registerOf w10 w8.heap.size c8 (some ⟨g, 0, none⟩) (xs.set j (x + 1)) (by rw [hlen]; exact hww) (by have := b10.size; omega) (by omega))
            rw [hlen] at CRA
            have CRB := Lib.hid (fun (W : World) (hb : Below w1.heap.size w1 W) => impl_registerOf W w1.heap.size cp A xs (HROW.out.below hb (Nat.le_refl _)) hb.size (by omega))
            have hne : (regOf (xs.set j (x + 1)) == regOf xs) = false := by rw [beq_eq_false_iff_ne]; exact hRF.out
            generalize regOf (xs.set j (x + 1)) = r1 at CRA hne
            generalize regOf xs = r2 at CRB hne
            clear hww hwn hst hRF hCF
            go_wp2_with fail
            refine CRA.out.mono ?_
            rintro e w11 ⟨rfl, b11⟩
            have d11 := d10.trans (b11.mono d10.size)
            have hk11 := blk_keep hk10 b11 (blk_lt hk10)
            go_wp2_with fail
            refine (CRB.out _ d11).mono ?_
            rintro e w12 ⟨rfl, b12⟩
            have d12 := d11.trans (b12.mono d11.size)
            have hk12 := blk_keep hk11 b12 (blk_lt hk11)
            go_wp2
            exact ⟨⟨j + 1, by omega, by go_num, Lib.hid d12, Lib.hid hk12⟩, by simp only [intOf]; omega⟩
          · obtain rfl : j = xs.length := by omega
            go_wp2
            go_meet
            exact Lib.hid d6
    case rest =>
      have d4 := hcut.out
      have dW := b1.trans (d4.mono b1.size)
      clear hcut HC1 HC2 HC3 CC hk3 d3 HROW HXB hxl HQW hnw hnw1 hW1 hbn
      go_wp2_with fail
      refine (draw_isPrefixLog _ a0 len0 cap0 z0 (w0.below dW)).mono ?_
      rintro e w5 ⟨Ua, as', Ub, bs, rfl, ⟨hal, hab, hra⟩, ⟨hbl, hbb, hrb⟩, b5⟩
      have d5 := dW.trans (b5.mono dW.size)
      obtain ⟨Aa, ca, rfl, -⟩ := id hra.form
      obtain ⟨Ab, cb, rfl, hcb, -, -, hform⟩ := id hrb.form
      have HRA := Lib.hid hra
      have HRB := Lib.hid hrb
      have CP := Lib.hid (impl_isPrefixLog w5 w5.heap.size w5.heap.size ca cb Aa Ab as' bs hra hrb)
      have HYES := Lib.hid (fun h => prefix_yes (a := as') (b := bs) h)
      have HNO := Lib.hid (fun h hl => prefix_no (a := as') (b := bs) h hl)
      have HPOS := Lib.hid (fun h hl => prefix_pos (a := as') (b := bs) h hl)
      generalize prefixB as' bs = pb at CP HYES HNO HPOS
      have HFORM := Lib.hid hform
      clear hra hrb hab hbb hform
      go_wp2_with fail
      refine CP.out.mono ?_
      rintro e w6 ⟨rfl, b6⟩
      have d6 := d5.trans (b6.mono d5.size)
      clear CP
      cases pb
      · by_cases hgt : (bs.length : Int) < (as'.length : Int)
        · have hgt1 : decide ((bs.length : Int) < (as'.length : Int)) = true := decide_eq_true hgt
          clear HYES HNO HPOS HFORM
          go_wp2
          go_ret
          exact ⟨by first | rfl | simp [hgt1] | simp [hgt], d6⟩
        · have hgt1 : decide ((bs.length : Int) < (as'.length : Int)) = false := decide_eq_false hgt
          have hle : as'.length ≤ bs.length := by omega
          have hlec : as'.length ≤ cb := by omega
          have hlei : (as'.length : Int) ≤ (cb : Int) := by omega
          have hd := HNO.out rfl hle
          obtain ⟨B, off, rfl, -⟩ := HFORM.out (HPOS.out rfl hle)
          have CS := Lib.hid (same_ints w6 w5.heap.size w5.heap.size _ _ as' ((bs.drop 0).take as'.length) (HRA.out.below b6 (Nat.le_refl _)) ((HRB.out.below b6 (Nat.le_refl _)).sub 0 as'.length (by omega)))
          rw [List.drop_zero, hd] at CS
          clear HYES HNO HPOS HFORM hd
          go_wp2_with (go_at_call 14; refine CS.out.mono ?_; rintro e u ⟨rfl, m, rfl⟩)
          go_ret
          exact ⟨by first | rfl | simp, bDrew d6 m⟩
      · obtain ⟨hle, hreg⟩ := HYES.out rfl
        clear HYES HNO HPOS HFORM
        have CRA := Lib.hid (hreg ▸ impl_registerOf w6 w5.heap.size ca Aa as' (HRA.out.below b6 (Nat.le_refl _)) b6.size (by omega))
        clear hreg
        go_wp2_with fail
        refine CRA.out.mono ?_
        rintro e w7 ⟨rfl, b7⟩
        have d7 := b6.trans (b7.mono b6.size)
        clear CRA
        obtain ⟨r7, hr7⟩ : ∃ r, regOf (bs.take as'.length) = r := ⟨_, rfl⟩
        have HR7 := Lib.hid hr7
        rw [hr7]
        clear hr7
        go_wp2
        go_loopw [15, 14] (fun i r wx => ∃ j : Nat, j ≤ bs.length ∧ i = .int .i64 (j : Int) ∧ (∃ q, r = .int .i64 q ∧ Hid (q = regOf (bs.take j))) ∧ Hid (Below w5.heap.size w5 wx)) (fun i _ _ => bs.length - (intOf i).toNat)
        case atStart => exact ⟨as'.length, hle, rfl, ⟨r7, rfl, Lib.hid HR7.out.symm⟩, Lib.hid d7⟩
        case round =>
          obtain ⟨j, hj, rfl, ⟨q, rfl, HQ⟩, hd8⟩ := hrel
          have d8 := hd8.out
          by_cases hlt : j < bs.length
          · obtain ⟨x, hx⟩ : ∃ x, bs[j]? = some x := ⟨_, List.getElem?_eq_getElem hlt⟩
            have hr8 := HRB.out.below d8 (Nat.le_refl _)
            have hxw := hr8.wf x (List.mem_of_getElem? hx)
            have hqw : (Lit.int .i64 q).wf = true := by rw [HQ.out]; exact regOf_wf _
            have HS := Lib.hid (show hsh [q, x] = regOf (bs.take (j + 1)) by rw [regOf_take hx, ← HQ.out])
            have CE := Lib.hid (impl_extendRegister q x wr hqw hxw)
            generalize hsh [q, x] = q' at HS CE
            obtain ⟨b, off, rfl, g1, g2, c0⟩ := Row.cellAt hr8 hx
            clear hx hxw hqw hr8
            go_wp2_with fail
            refine CE.out.mono ?_
            rintro e u ⟨rfl, b9⟩
            have d9 := d8.trans (b9.mono d8.size)
            go_wp2
            exact ⟨⟨j + 1, by omega, by go_num, ⟨q', rfl, HS⟩, Lib.hid d9⟩, by simp only [intOf]; omega⟩
          · obtain rfl : j = bs.length := by omega
            have CRB := Lib.hid (impl_registerOf wr w5.heap.size cb Ab bs (HRB.out.below d8 (Nat.le_refl _)) d8.size (by omega))
            have hq := HQ.out
            rw [List.take_length] at hq
            rw [← hq] at CRB
            clear hq HQ
            go_wp2_with fail
            refine CRB.out.mono ?_
            rintro e u ⟨rfl, b9⟩
            have d9 := d8.trans (b9.mono d8.size)
            have hqq : (q == q) = true := beq_self_eq_true _
            go_wp2
            go_ret
            exact ⟨by first | rfl | simp, d5.trans (d9.mono d5.size)⟩
  · go_enter Tryd.func3, Tryd.ntmps3
    go_wp2_with (go_at_call 6; go_in)
    go_ret
    exact ⟨rfl, Below.refl _ _⟩

def laidL : List (String × DataW Unit) := [("loop.example/g00594/impl.errNoKey", Rows.laid_loop_example_g00594_impl_errNoKey)]
theorem door_met (os : Os) (args : Array Value) : laidMetH Tryd.prog laidL ((World.doorLaid Tryd.prog 400 os).forCall (fun _ _ => 0) ⟨#[], args, []⟩).memory :=
  laidMetH_of_parts3 (fuel := 8) (laidMet_of_run' 8 (by kernel_rfl) (by kernel_rfl)) (by kernel_rfl) (by kernel_rfl)
set_option maxRecDepth 100000 in
theorem lifted (os : Os) (started : os.Started) (H : Type) (enc : TypeId × Value → H) :
    ReturnsInHanded {} Tryd.checked os 3 .any (fun w args => (Rows.fnMeasurementsSpec.pre enc Tryd.prog Tryd.f3 [] false w args ∧ laidMetH Tryd.prog laidL w) ∧ sizedMet enc Tryd.prog Tryd.f3 (OpenSpec.ofChange Rows.fnMeasurementsSpec) false w args)
      (Rows.fnMeasurementsSpec.post enc Tryd.prog Tryd.f3 false true false false) := by
  refine returnsInHanded_of_change_and (C := Tryd.checked) (X := fun w _ => laidMetH Tryd.prog laidL w) (fun _ _ _ hh h => h.of_heap hh) own started (by kernel_rfl) Tryd.func3
    (ChangeSpec.witness_shaped (enc := enc) (C := Tryd.checked) (os := os) (X := fun w _ => laidMetH Tryd.prog laidL w) false (World.doorLaid Tryd.prog 400 os) #[.slice none 0 0] 8 rfl (World.shaped_of_RefB (by kernel_rfl) (by kernel_rfl)) (by kernel_rfl) (by kernel_rfl) (by kernel_rfl) (door_met os _)) ?_
  intro W base args ds gs before hval0 hW _ _ hL _
  have hval : ∀ (j : Nat) t v, Tryd.f3.params[j]? = some t → args[j]? = some v → Value.okWide Tryd.prog W .any base t v := hval0
  have hW' := hW
  obtain ⟨p, q, hA0, hV, rfl, hfz, hnd⟩ := hW
  have hA : DataW.TrodAll enc Tryd.prog W 0 (fun _ => true) true Tryd.f3.params.toList args.toList ds p := hA0
  rw [Tryd.params3] at hA hval
  obtain ⟨v0, vs0, d0, ds0, p0, q0, hargs, rfl, rfl, h0, r0⟩ := trodAll_cons hA
  obtain ⟨rfl, rfl, rfl⟩ := trodAll_nil r0
  obtain rfl : args = #[v0] := by cases args; simp_all
  have hV1 : DataW.TrodVars enc Tryd.prog W (fun _ => true) ["loop.example/g00594/impl.errNoKey"] gs q := hV
  have hvars := vars_tok (fun n hn => by
    simp only [List.mem_cons, List.not_mem_nil, or_false] at hn
    subst hn
    exact ⟨0, 63, _, by kernel_rfl, by kernel_rfl, Tryd.underlying63⟩) hV1
  obtain ⟨x0, y0, rfl, _, hV2⟩ := vars_cons hV1
  obtain ⟨rfl, _⟩ := trodVars_none hV2
  obtain ⟨a0, len0, cap0, rfl⟩ := okWide_slice Tryd.underlying22 (hval 0 22 v0 rfl rfl)
  have k0 := h0
  have lt0 : ∀ x ∈ p0, x.block < W.heap.size := by obtain ⟨m, hm⟩ := k0; exact DataW.trod_lt m _ _ _ hm
  obtain ⟨z0, w0⟩ : ∃ zs, IsRow .u8 W a0 len0 cap0 zs := by
    obtain ⟨fuel, hf⟩ := h0
    exact isRow_of Tryd.underlying22 Tryd.underlying5 (by kernel_rfl) hf
  clear hA0 hval0
  refine (walk a0 len0 cap0 z0 W w0 (key_of_laid (by rw [MakeChecks.laidMetH_plain _ _ _ (by kernel_rfl)] at hL; exact hL))).mono fun e W' ⟨he, bel⟩ => ?_
  subst he
  exact ⟨_, rfl, _, _, _, [], _, _, hW', trodAll_mk1 (shut_bool Tryd.underlying4 _), (trodAll_cons_mk (Below.trod laidOut (by kernel_rfl) (of_decide_eq_true (by kernel_rfl)) k0 bel lt0) trodAll_mk0), hvars W' bel _, bel.frame _, fun h => by cases h⟩

theorem over : Rows.fnMeasurementsRow.holds Tryd.pinned (OpenSpec.ofChange Rows.fnMeasurementsSpec) :=
  OpenClaim.holds_of_wide 3 Tryd.f3 rfl rfl rfl rfl rfl rfl rfl ⟨rfl, rfl, rfl, rfl, rfl⟩ rfl rfl rfl rfl rfl (by kernel_rfl) Tryd.func3 (by kernel_rfl)
    (of_decide_eq_true (by kernel_rfl)) (by unfold Func.isWrapper; first | (rw [if_pos (by decide +kernel)]; kernel_rfl) | (rw [if_neg (by decide +kernel)]; exact ⟨rfl, rfl⟩))
    (fun os started H enc _ => lifted os started H enc)

/-- for every input, a quote is good for its log only, and a register tells everything that was started. -/
theorem proved : Rows.FnMeasurementsCardSaid :=
  Claim7.holds_tied_plain_at .later [] [.sentinel] true (true, "27fc11213c54d3872fda49a361c1fe5e13dc9c41d9968bb8e7bb400241068373") true
    over (fun _ h => by cases h) (by kernel_rfl) (fun _ h => by cases h) fnMeasurements_row_tie rfl ⟨rfl, rfl⟩ (by kernel_rfl) rfl
    (fun f fn hf hfn => by
      obtain rfl : f = 3 := Option.some.inj ((show Tryd.prog.funcNamed "loop.example/g00594/laws.FnMeasurements" = some 3 by kernel_rfl).symm.trans hf) |>.symm
      obtain rfl : fn = Tryd.f3 := (Option.some.inj (Tryd.func3.symm.trans hfn)).symm
      exact ⟨by kernel_rfl, fun j t ht => by
      rw [Tryd.params3] at ht
      have hm : t ∈ [22] := by simpa using Array.mem_of_getElem? ht
      have hall : ([22].all fun u => !Tryd.prog.wantsStandIn u) = true := by kernel_rfl
      exact (show Tryd.prog.wantsStandIn t = false by simpa using List.all_eq_true.1 hall t hm)⟩)
    (by kernel_rfl)
#print axioms proved
end Go.Proofs.YtagbbndiofimdaaDoor.fnMeasurements
