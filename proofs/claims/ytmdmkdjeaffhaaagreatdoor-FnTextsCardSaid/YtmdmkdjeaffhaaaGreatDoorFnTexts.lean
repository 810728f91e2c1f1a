/-
  Proved here: for every input, conditions are parsed from their text, and from nothing else.
  Conditions: those that the given row itself prints; none of our own.
-/
import Derived.Test.YtmdmkdjeaffhaaaGreatDoorCards
import Derived.Test.YtmdmkdjeaffhaaaGreatDoorTie
import Derived.Test.YtmdmkdjeaffhaaaGreatDoorDraw16
import Derived.Test.YtmdmkdjeaffhaaaGreatDoorMTok1
import Derived.Test.YtmdmkdjeaffhaaaGreatDoorMTok6
import Derived.Test.YtmdmkdjeaffhaaaGreatDoorTok14
import Derived.Test.YtmdmkdjeaffhaaaGreatDoorMNode9
import Derived.Test.YtmdmkdjeaffhaaaGreatDoorLaid
import Derived.Test.YtmdmkdjeaffhaaaGreatDoorMCond1
import Derived.WalkKit
import Derived.ProofKit
import Derived.OpenShut
import Derived.ShutString
import Derived.ChangeOld
import Derived.Below
import Derived.WalkLawsBesides
import Derived.WalkSpells
import Derived.LoopTactic
import Derived.Lib.Hide
import Derived.Deep.DeepCutAuto
import Derived.Handy
import Derived.Deep.RegionHeld3
import Derived.LaidMore
import Derived.Stop.Joined
import Derived.SevenTiedAt
namespace Go.Proofs.YtmdmkdjeaffhaaaGreatDoor.fnTexts
open Go.ChangeShapes Go.WideShapes Go.ChangeAt Go.RowKit
open Go.ChangeMaps (open_string shut_string)
set_option linter.unusedVariables false

theorem own : ownKnob Tryz.prog.godebug = none := by kernel_rfl
theorem laidOut : laidOutB Tryz.prog = true := by kernel_rfl

set_option maxHeartbeats 16000000 in
set_option maxRecDepth 100000 in
theorem walk (a0 : Option Addr) (len0 cap0 : Nat) (z0 : List Int) (w : World) (w0 : IsRow .u8 w a0 len0 cap0 z0) (hL : HasTab w ∧ HasErr w) :
    Calls Tryz.prog 3 #[.slice a0 len0 cap0] w fun e w' => e = .returned (.bool true) ∧ Below w.heap.size w w' := by
  by_cases hbig : (len0 : Int) ≤ 1048576
  · have HK := Lib.hid (show Tabs w from hL)
    go_enter Tryz.func3, Tryz.ntmps3
    go_wp2_with (go_at_call 4; go_in)
    refine (draw_parseCond w a0 len0 cap0 z0 w0).mono ?_
    rintro e w1 ⟨s, rfl, hs1, b1⟩
    go_wp2_with fail
    refine (implX_parseCond w1 s (HK.out.kept b1)).mono ?_
    rintro e w2 ⟨xs, fx, rfl, hox, -, rgx, b2⟩
    obtain ⟨xo, xa, xb, xA, xn, xc, rfl⟩ := own_open hox
    have d2 := b1.trans (b2.mono b1.size)
    obtain ⟨V1, hV1⟩ : ∃ V, V = w2.alloc (.cells #[.int .i64 xo, .int .i64 xa, .int .i64 xb, .slice xA xn xc] 27) := ⟨_, rfl⟩
    have bV1 : Below w2.heap.size w2 V1 := by rw [hV1]; exact (Below.refl _ _).alloc (Nat.le_refl _) _
    have cV1 : V1.heap[w2.heap.size]? = some (.cells #[.int .i64 xo, .int .i64 xa, .int .i64 xb, .slice xA xn xc] 27) := by rw [hV1]; exact blk_new _ _ _
    have e1 := d2.trans (bV1.mono d2.size)
    have hrx := (hox.list (hi := w2.heap.size) (owE.lt hox)).below bV1 (Nat.le_refl _)
    have HX := Lib.hid cV1
    have HOK : Hid (∀ c, okText s.data.toList = c → ∃ D, parseD s.data.toList = D ∧ (c = true → textB D = s ∧ condB D = true)) := Lib.hid (fun c hc => ⟨_, rfl, fun h => parse_text (by rw [hc, h])⟩)
    have hsx := parse_sz s
    obtain ⟨ok, hok⟩ : ∃ c, okText s.data.toList = c := ⟨_, rfl⟩
    obtain ⟨DX, hDX, hXX⟩ := HOK.out ok hok
    rw [hDX] at hrx hsx hox
    rw [hok]
    have HXX := Lib.hid hXX
    have HRX := Lib.hid (show ∀ U : World, Below V1.heap.size V1 U → rdL U w2.heap.size (CondD.c DX) [.int .i64 xo, .int .i64 xa, .int .i64 xb, .slice xA xn xc] ∧ w2.heap.size ≤ U.heap.size from fun U hU => ⟨hrx.below hU bV1.size, Nat.le_trans bV1.size hU.size⟩)
    clear hXX hDX hok HOK hox rgx hrx cV1 b2 hs1
    go_upto_region 5 with fail
    rw [← hV1]
    clear hV1 bV1
    have hr1 := w0.below e1
    go_wp2_with fail
    refine (draw_formatCond V1 a0 len0 cap0 z0 hr1).mono ?_
    rintro e w3 ⟨y, ys, fy, rfl, hoy, hfy, hszy, b3⟩
    obtain ⟨yo, ya, yb, yA, yn, yc, rfl⟩ := own_open hoy
    have hsy : szE (CondD.c y) ≤ 100000000 := by unfold sizeD at hszy; omega
    have e3 := e1.trans (b3.mono e1.size)
    obtain ⟨V2, hV2⟩ : ∃ V, V = w3.alloc (.cells #[.int .i64 yo, .int .i64 ya, .int .i64 yb, .slice yA yn yc] 27) := ⟨_, rfl⟩
    have bV2 : Below w3.heap.size w3 V2 := by rw [hV2]; exact (Below.refl _ _).alloc (Nat.le_refl _) _
    have cV2 : V2.heap[w3.heap.size]? = some (.cells #[.int .i64 yo, .int .i64 ya, .int .i64 yb, .slice yA yn yc] 27) := by rw [hV2]; exact blk_new _ _ _
    have b13 := b3.trans (bV2.mono b3.size)
    have e4 := e1.trans (b13.mono e1.size)
    have hry := (hoy.list (hi := w3.heap.size) (owE.lt hoy)).below bV2 (Nat.le_refl _)
    have HY := Lib.hid cV2
    have HRY := Lib.hid (show ∀ U : World, Below V2.heap.size V2 U → rdL U w3.heap.size (CondD.c y) [.int .i64 yo, .int .i64 ya, .int .i64 yb, .slice yA yn yc] ∧ w3.heap.size ≤ U.heap.size from fun U hU => ⟨hry.below hU bV2.size, Nat.le_trans bV2.size hU.size⟩)
    have HB13 := Lib.hid b13
    obtain ⟨⟨p0, p1, p2, p3⟩, -⟩ := cls_4 cV2
    obtain ⟨cy, hcy⟩ : ∃ c, condB y = c := ⟨_, rfl⟩
    obtain ⟨T, hT⟩ : ∃ T, textB y = T := ⟨_, rfl⟩
    have CF := Lib.hid (implZ_formatCond V2 w3.heap.size y _ (HRY.out V2 (Below.refl _ _)).1 bV2.size hsy (HK.out.kept e4).1)
    rw [hT] at CF
    have HTY := Lib.hid (show cy = true → okText T.data.toList = true ∧ parseD T.data.toList = y ∧ T.size ≤ 400 ∧ T.data.toList ≠ [] from fun h => hT ▸ texts_ok (hcy.trans h))
    have HTN := Lib.hid (show cy = false → T = ⟨#[]⟩ from fun h => hT ▸ texts_no (hcy.trans h))
    have CIy := Lib.hid (fun (U : World) (hU : Below V2.heap.size V2 U) => show Calls Tryz.prog 9 #[.agg #[.int .i64 yo, .int .i64 ya, .int .i64 yb, .slice yA yn yc]] U fun e w' => e = .returned (.bool cy) ∧ Below U.heap.size U w' from hcy ▸ implZ_isCond U w3.heap.size y _ (HRY.out U hU).1 (HRY.out U hU).2 hsy)
    have CSy := Lib.hid (fun (U : World) (hU : Below V2.heap.size V2 U) => show Calls Tryz.prog 10 #[.agg #[.int .i64 yo, .int .i64 ya, .int .i64 yb, .slice yA yn yc]] U fun e w' => e = .returned (.bool cy) ∧ Below U.heap.size U w' from hcy ▸ spec_isCond U w3.heap.size y _ (HRY.out U hU).1 (HRY.out U hU).2)
    have CFx := Lib.hid (fun (U : World) (hU : Below V2.heap.size V2 U) => implZ_formatCond U w2.heap.size DX _ (HRX.out U (HB13.out.trans (hU.mono HB13.out.size))).1 (HRX.out U (HB13.out.trans (hU.mono HB13.out.size))).2 hsx (HK.out.kept (e4.trans (hU.mono e4.size))).1)
    have CIx := Lib.hid (fun (U : World) (hU : Below V2.heap.size V2 U) => implZ_isCond U w2.heap.size DX _ (HRX.out U (HB13.out.trans (hU.mono HB13.out.size))).1 (HRX.out U (HB13.out.trans (hU.mono HB13.out.size))).2 hsx)
    have HE4 := Lib.hid e4
    clear hoy hry cV2 hT hcy b3 b13
    go_upto_region 6 with fail
    rw [← hV2]
    clear hV2 bV2
    go_wp2_with fail
    refine CF.out.mono ?_
    rintro e w4 ⟨rfl, b4⟩
    have e5 := e4.trans (b4.mono e4.size)
    go_wp2_with fail
    refine (implX_parseCond w4 T (HK.out.kept e5)).mono ?_
    rintro e w5 ⟨zs, fz, rfl, hoz, -, rgz, b5⟩
    obtain ⟨zo, za, zb, zA, zn, zc, rfl⟩ := own_open hoz
    obtain ⟨V3, hV3⟩ : ∃ V, V = w5.alloc (.cells #[.int .i64 zo, .int .i64 za, .int .i64 zb, .slice zA zn zc] 27) := ⟨_, rfl⟩
    have bV3 : Below w5.heap.size w5 V3 := by rw [hV3]; exact (Below.refl _ _).alloc (Nat.le_refl _) _
    have cV3 : V3.heap[w5.heap.size]? = some (.cells #[.int .i64 zo, .int .i64 za, .int .i64 zb, .slice zA zn zc] 27) := by rw [hV3]; exact blk_new _ _ _
    have b45 := b4.trans (b5.mono b4.size)
    have b53 := b45.trans (bV3.mono b45.size)
    have hrz := (hoz.list (hi := w5.heap.size) (owE.lt hoz)).below bV3 (Nat.le_refl _)
    have hsz := parse_sz T
    have HZ := Lib.hid cV3
    have HB53 := Lib.hid b53
    obtain ⟨fine, hfine⟩ : ∃ c, okText T.data.toList = c := ⟨_, rfl⟩
    obtain ⟨DZ, hDZ⟩ : ∃ D, parseD T.data.toList = D := ⟨_, rfl⟩
    rw [hfine, hDZ] at HTY
    rw [hDZ] at hrz hsz hoz
    have HFN := Lib.hid (show T = ⟨#[]⟩ → fine = false from fun h => by rw [← hfine, h]; exact empty_no)
    rw [hfine]
    have CQ := Lib.hid (fun (U : World) (hU : Below V3.heap.size V3 U) => implZ_equalConds U w5.heap.size DZ _ y _ (hrz.below hU bV3.size) ((HRY.out U (HB53.out.trans (hU.mono HB53.out.size))).1.more (by have := b45.size; have := blk_lt HY.out; omega)) (Nat.le_trans bV3.size hU.size) hsz hsy)
    clear hoz rgz hrz hfine hDZ b5 b45 b4 e5
    go_upto_region 8 with fail
    rw [← hV3]
    clear hV3 bV3 p0 p1 p2 p3
    have KX := Lib.hid (show ∀ U : World, Below V3.heap.size V3 U → U.cell? ⟨w2.heap.size, 0, none⟩ = some (.int .i64 xo) ∧ U.cell? ⟨w2.heap.size, 1, none⟩ = some (.int .i64 xa) ∧ U.cell? ⟨w2.heap.size, 2, none⟩ = some (.int .i64 xb) ∧ U.cell? ⟨w2.heap.size, 3, none⟩ = some (.slice xA xn xc) from fun U hU => (cls_4 (blk_keep (blk_keep (blk_keep HX.out HB13.out (blk_lt HX.out)) HB53.out (by have := blk_lt HX.out; have := HB13.out.size; omega)) hU (by have := blk_lt HX.out; have := HB13.out.size; have := HB53.out.size; omega))).1)
    have KY := Lib.hid (show ∀ U : World, Below V3.heap.size V3 U → U.cell? ⟨w3.heap.size, 0, none⟩ = some (.int .i64 yo) ∧ U.cell? ⟨w3.heap.size, 1, none⟩ = some (.int .i64 ya) ∧ U.cell? ⟨w3.heap.size, 2, none⟩ = some (.int .i64 yb) ∧ U.cell? ⟨w3.heap.size, 3, none⟩ = some (.slice yA yn yc) from fun U hU => (cls_4 (blk_keep (blk_keep HY.out HB53.out (blk_lt HY.out)) hU (by have := blk_lt HY.out; have := HB53.out.size; omega))).1)
    have KZ := Lib.hid (show ∀ U : World, Below V3.heap.size V3 U → U.cell? ⟨w5.heap.size, 0, none⟩ = some (.int .i64 zo) ∧ U.cell? ⟨w5.heap.size, 1, none⟩ = some (.int .i64 za) ∧ U.cell? ⟨w5.heap.size, 2, none⟩ = some (.int .i64 zb) ∧ U.cell? ⟨w5.heap.size, 3, none⟩ = some (.slice zA zn zc) from fun U hU => (cls_4 (blk_keep HZ.out hU (blk_lt HZ.out))).1)
    have hR := Below.refl V3.heap.size V3
    clear cV3 b53
    cases ok
    · cases cy
      · have hTe := HTN.out rfl
        have hff := HFN.out hTe
        subst hTe
        subst hff
        obtain ⟨y0', y1', y2', y3'⟩ := KY.out V3 hR
        go_wp2_with fail
        refine (show Calls _ _ _ _ _ from CIy.out V3 (HB53.out.trans (hR.mono HB53.out.size))).mono ?_
        rintro e v3 ⟨rfl, c3⟩
        have d3 := hR.trans (c3.mono hR.size)
        have D3 := Lib.hid d3
        obtain ⟨y0, y1, y2, y3⟩ := KY.out v3 d3
        obtain ⟨g0, g1, g2, g3⟩ := KZ.out v3 d3
        clear d3 c3
        go_wp2_with fail
        refine (CSy.out v3 (HB53.out.trans (D3.out.mono HB53.out.size))).mono ?_
        rintro e v4 ⟨rfl, c4⟩
        go_wp2
        go_ret
        exact ⟨rfl, HE4.out.trans ((HB53.out.trans ((D3.out.trans (c4.mono D3.out.size)).mono HB53.out.size)).mono HE4.out.size)⟩
      · obtain ⟨hf, hz, hl4, hne⟩ := HTY.out rfl
        subst hf
        subst hz
        have hl5 : ¬ (400 : Int) < (T.size : Int) := by omega
        have hT0 : (T.toList == []) = false := by rw [ByteArray.toList_eq, beq_eq_false_iff_ne]; exact hne
        clear hl4 hne
        obtain ⟨y0', y1', y2', y3'⟩ := KY.out V3 hR
        go_wp2_with fail
        refine (show Calls _ _ _ _ _ from CIy.out V3 (HB53.out.trans (hR.mono HB53.out.size))).mono ?_
        rintro e v3 ⟨rfl, c3⟩
        have d3 := hR.trans (c3.mono hR.size)
        have D3 := Lib.hid d3
        obtain ⟨y0, y1, y2, y3⟩ := KY.out v3 d3
        obtain ⟨g0, g1, g2, g3⟩ := KZ.out v3 d3
        clear d3 c3
        go_wp2_with fail
        refine (CQ.out v3 D3.out).mono ?_
        rintro e v4 ⟨rfl, c4⟩
        rw [eqC_self]
        go_wp2
        go_ret
        exact ⟨rfl, HE4.out.trans ((HB53.out.trans ((D3.out.trans (c4.mono D3.out.size)).mono HB53.out.size)).mono HE4.out.size)⟩
    · cases cy
      · have hTe := HTN.out rfl
        have hff := HFN.out hTe
        subst hTe
        subst hff
        obtain ⟨hTX, hcX⟩ := HXX.out rfl
        have hss : (s.toList == s.toList) = true := by simp
        rw [hTX] at CFx
        rw [hcX] at CIx
        clear hTX hcX
        obtain ⟨x0, x1, x2, x3⟩ := KX.out V3 hR
        go_wp2_with fail
        refine (CFx.out V3 HB53.out).mono ?_
        rintro e v1 ⟨rfl, c1⟩
        obtain ⟨x0', x1', x2', x3'⟩ := KX.out v1 c1
        go_wp2_with fail
        refine (CIx.out v1 (HB53.out.trans (c1.mono HB53.out.size))).mono ?_
        rintro e v2 ⟨rfl, c2⟩
        have d2 := c1.trans (c2.mono c1.size)
        obtain ⟨y0', y1', y2', y3'⟩ := KY.out v2 d2
        go_wp2_with fail
        refine (show Calls _ _ _ _ _ from CIy.out v2 (HB53.out.trans (d2.mono HB53.out.size))).mono ?_
        rintro e v3 ⟨rfl, c3⟩
        have d3 := d2.trans (c3.mono d2.size)
        have D3 := Lib.hid d3
        obtain ⟨y0, y1, y2, y3⟩ := KY.out v3 d3
        obtain ⟨g0, g1, g2, g3⟩ := KZ.out v3 d3
        clear d3 c3
        go_wp2_with fail
        refine (CSy.out v3 (HB53.out.trans (D3.out.mono HB53.out.size))).mono ?_
        rintro e v4 ⟨rfl, c4⟩
        go_wp2
        go_ret
        exact ⟨rfl, HE4.out.trans ((HB53.out.trans ((D3.out.trans (c4.mono D3.out.size)).mono HB53.out.size)).mono HE4.out.size)⟩
      · obtain ⟨hf, hz, hl4, hne⟩ := HTY.out rfl
        subst hf
        subst hz
        have hl5 : ¬ (400 : Int) < (T.size : Int) := by omega
        have hT0 : (T.toList == []) = false := by rw [ByteArray.toList_eq, beq_eq_false_iff_ne]; exact hne
        clear hl4 hne
        obtain ⟨hTX, hcX⟩ := HXX.out rfl
        have hss : (s.toList == s.toList) = true := by simp
        rw [hTX] at CFx
        rw [hcX] at CIx
        clear hTX hcX
        obtain ⟨x0, x1, x2, x3⟩ := KX.out V3 hR
        go_wp2_with fail
        refine (CFx.out V3 HB53.out).mono ?_
        rintro e v1 ⟨rfl, c1⟩
        obtain ⟨x0', x1', x2', x3'⟩ := KX.out v1 c1
        go_wp2_with fail
        refine (CIx.out v1 (HB53.out.trans (c1.mono HB53.out.size))).mono ?_
        rintro e v2 ⟨rfl, c2⟩
        have d2 := c1.trans (c2.mono c1.size)
        obtain ⟨y0', y1', y2', y3'⟩ := KY.out v2 d2
        go_wp2_with fail
        refine (show Calls _ _ _ _ _ from CIy.out v2 (HB53.out.trans (d2.mono HB53.out.size))).mono ?_
        rintro e v3 ⟨rfl, c3⟩
        have d3 := d2.trans (c3.mono d2.size)
        have D3 := Lib.hid d3
        obtain ⟨y0, y1, y2, y3⟩ := KY.out v3 d3
        obtain ⟨g0, g1, g2, g3⟩ := KZ.out v3 d3
        clear d3 c3
        go_wp2_with fail
        refine (CQ.out v3 D3.out).mono ?_
        rintro e v4 ⟨rfl, c4⟩
        rw [eqC_self]
        go_wp2
        go_ret
        exact ⟨rfl, HE4.out.trans ((HB53.out.trans ((D3.out.trans (c4.mono D3.out.size)).mono HB53.out.size)).mono HE4.out.size)⟩
  · go_enter Tryz.func3, Tryz.ntmps3
    go_wp2_with (go_at_call 4; go_in)
    go_ret
    exact ⟨rfl, Below.refl _ _⟩

def laidL : List (String × DataW Unit) := [("math/bits.deBruijn32tab", Rows.laid_math_bits_deBruijn32tab), ("math/bits.deBruijn64tab", Rows.laid_math_bits_deBruijn64tab), ("internal/strconv.uint64pow10", Rows.laid_internal_strconv_uint64pow10), ("strconv.ErrRange", Rows.laid_strconv_ErrRange), ("strconv.ErrSyntax", Rows.laid_strconv_ErrSyntax)]
theorem door_met (os : Os) (args : Array Value) : laidMetH Tryz.prog laidL ((World.doorLaid Tryz.prog 400 os).forCall (fun _ _ => 0) ⟨#[], args, []⟩).memory :=
  laidMetH_of_parts3 (fuel := 8) (laidMet_of_run' 8 (by kernel_rfl) (by kernel_rfl)) (by kernel_rfl) (by kernel_rfl)
set_option maxRecDepth 100000 in
theorem lifted (os : Os) (started : os.Started) (H : Type) (enc : TypeId × Value → H) :
    ReturnsInHanded {} Tryz.checked os 3 .any (fun w args => (Rows.fnTextsSpec.pre enc Tryz.prog Tryz.f3 [] false w args ∧ laidMetH Tryz.prog laidL w) ∧ sizedMet enc Tryz.prog Tryz.f3 (OpenSpec.ofChange Rows.fnTextsSpec) false w args)
      (Rows.fnTextsSpec.post enc Tryz.prog Tryz.f3 false true false false) := by
  refine returnsInHanded_of_change_and (C := Tryz.checked) (X := fun w _ => laidMetH Tryz.prog laidL w) (fun _ _ _ hh h => h.of_heap hh) own started (by kernel_rfl) Tryz.func3
    (ChangeSpec.witness_shaped (enc := enc) (C := Tryz.checked) (os := os) (X := fun w _ => laidMetH Tryz.prog laidL w) false (World.doorLaid Tryz.prog 400 os) #[.slice none 0 0] 8 rfl (World.shaped_of_RefB (by kernel_rfl) (by kernel_rfl)) (by kernel_rfl) (by kernel_rfl) (by kernel_rfl) (door_met os _)) ?_
  intro W base args ds gs before hval0 hW _ _ hL _
  have hval : ∀ (j : Nat) t v, Tryz.f3.params[j]? = some t → args[j]? = some v → Value.okWide Tryz.prog W .any base t v := hval0
  have hW' := hW
  obtain ⟨p, q, hA0, hV, rfl, hfz, hnd⟩ := hW
  have hA : DataW.TrodAll enc Tryz.prog W 0 (fun _ => true) true Tryz.f3.params.toList args.toList ds p := hA0
  rw [Tryz.params3] at hA hval
  obtain ⟨v0, vs0, d0, ds0, p0, q0, hargs, rfl, rfl, h0, r0⟩ := trodAll_cons hA
  obtain ⟨rfl, rfl, rfl⟩ := trodAll_nil r0
  obtain rfl : args = #[v0] := by cases args; simp_all
  obtain ⟨rfl, rfl⟩ := trodVars_none hV
  obtain ⟨a0, len0, cap0, rfl⟩ := okWide_slice Tryz.underlying22 (hval 0 22 v0 rfl rfl)
  have k0 := h0
  have lt0 : ∀ x ∈ p0, x.block < W.heap.size := by obtain ⟨m, hm⟩ := k0; exact DataW.trod_lt m _ _ _ hm
  obtain ⟨z0, w0⟩ : ∃ zs, IsRow .u8 W a0 len0 cap0 zs := by
    obtain ⟨fuel, hf⟩ := h0
    exact isRow_of Tryz.underlying22 Tryz.underlying5 (by kernel_rfl) hf
  clear hA0 hval0
  refine (walk a0 len0 cap0 z0 W w0 (both_of_laid (by rw [MakeChecks.laidMetH_plain _ _ _ (by kernel_rfl)] at hL; exact hL))).mono fun e W' ⟨he, bel⟩ => ?_
  subst he
  exact ⟨_, rfl, _, _, _, [], _, [], hW', trodAll_mk1 (shut_bool Tryz.underlying4 _), (trodAll_cons_mk (Below.trod laidOut (by kernel_rfl) (of_decide_eq_true (by kernel_rfl)) k0 bel lt0) trodAll_mk0), rfl, bel.frame _, fun h => by cases h⟩

theorem over : Rows.fnTextsRow.holds Tryz.pinned (OpenSpec.ofChange Rows.fnTextsSpec) :=
  OpenClaim.holds_of_wide 3 Tryz.f3 rfl rfl rfl rfl rfl rfl rfl ⟨rfl, rfl, rfl, rfl, rfl⟩ rfl rfl rfl rfl rfl (by kernel_rfl) Tryz.func3 (by kernel_rfl)
    (of_decide_eq_true (by kernel_rfl)) (by unfold Func.isWrapper; first | (rw [if_pos (by decide +kernel)]; kernel_rfl) | (rw [if_neg (by decide +kernel)]; exact ⟨rfl, rfl⟩))
    (fun os started H enc _ => lifted os started H enc)

/-- for every input, conditions are parsed from their text, and from nothing else. -/
theorem proved : Rows.FnTextsCardSaid :=
  Claim7.holds_tied_plain_at .later [] [.data, .data, .data, .sentinel, .sentinel] true (true, "8f6d3e18925b6864422ca490fe05d0e1ab9926299acda9daeaa330396018d789") true
    over (fun _ h => by cases h) (by kernel_rfl) (fun _ h => by cases h) fnTexts_row_tie rfl ⟨rfl, rfl⟩ (by kernel_rfl) rfl
    (fun f fn hf hfn => by
      obtain rfl : f = 3 := Option.some.inj ((show Tryz.prog.funcNamed "loop.example/g00594/laws.FnTexts" = some 3 by kernel_rfl).symm.trans hf) |>.symm
      obtain rfl : fn = Tryz.f3 := (Option.some.inj (Tryz.func3.symm.trans hfn)).symm
      exact ⟨by kernel_rfl, fun j t ht => by
      rw [Tryz.params3] at ht
      have hm : t ∈ [22] := by simpa using Array.mem_of_getElem? ht
      have hall : ([22].all fun u => !Tryz.prog.wantsStandIn u) = true := by kernel_rfl
      exact (show Tryz.prog.wantsStandIn t = false by simpa using List.all_eq_true.1 hall t hm)⟩)
    (by kernel_rfl)
#print axioms proved
end Go.Proofs.YtmdmkdjeaffhaaaGreatDoor.fnTexts
