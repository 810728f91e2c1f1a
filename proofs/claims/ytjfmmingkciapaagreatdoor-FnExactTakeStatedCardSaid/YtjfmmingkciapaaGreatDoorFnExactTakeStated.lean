/-
  Proved here: at every list of issuers, list of facts and list of statements TakeStated answers as its model, leaves its arguments as they were, and its answer owns its memory.
  Conditions: those that the given row itself prints; none of our own.
-/
import Derived.Test.YtjfmmingkciapaaGreatDoorCards
import Derived.Test.YtjfmmingkciapaaGreatDoorTie
import Derived.Test.YtjfmmingkciapaaGreatDoorTake
import Derived.Test.YtjfmmingkciapaaGreatDoorIssM
import Derived.Test.YtjfmmingkciapaaGreatDoorIssO
import Derived.Test.YtjfmmingkciapaaGreatDoorIssZ
import Derived.Test.YtjfmmingkciapaaGreatDoorVars
import Derived.Test.YtjfmmingkciapaaGreatDoorCryD
import Derived.WalkKit
import Derived.ProofKit
import Derived.OpenShut
import Derived.ShutString
import Derived.ChangeOld
import Derived.Below
import Derived.WalkLawsBesides
import Derived.WalkSpells
import Derived.LoopTactic
import Derived.Lib.Hide
import Derived.Deep.DeepCutAuto
import Derived.Handy
import Derived.Deep.RegionHeld3
import Derived.LaidMore
import Derived.Stop.Joined
import Derived.SevenTiedAt
namespace Go.Proofs.YtjfmmingkciapaaGreatDoor.fnExactTakeStated
open Go.ChangeShapes Go.WideShapes Go.ChangeAt Go.RowKit
open Go.ChangeMaps (open_string shut_string)
set_option linter.unusedVariables false

theorem own : ownKnob Tryz.prog.godebug = none := by kernel_rfl
theorem laidOut : laidOutB Tryz.prog = true := by kernel_rfl

set_option maxHeartbeats 16000000 in
set_option maxRecDepth 100000 in
theorem walk (a0 : Option Addr) (cap0 : Nat) (xs0 : List IssuerD) (a1 : Option Addr) (cap1 : Nat) (xs1 : List FactD) (a2 : Option Addr) (cap2 : Nat) (xs2 : List StatedD) (w : World) (w0 : RowIssuer w w.heap.size (.slice a0 xs0.length cap0) xs0 ∧ ∀ x ∈ xs0, x.wf) (w1 : RowFact w w.heap.size (.slice a1 xs1.length cap1) xs1 ∧ ∀ x ∈ xs1, x.wf) (w2 : RowStated w w.heap.size (.slice a2 xs2.length cap2) xs2 ∧ ∀ x ∈ xs2, x.wf) (hL : NoKey w) :
    Calls Tryz.prog 4 #[.slice a0 xs0.length cap0, .slice a1 xs1.length cap1, .slice a2 xs2.length cap2] w fun e w' => e = .returned (.bool true) ∧ Below w.heap.size w w' := by
  obtain ⟨hA0, hW0⟩ := w0
  obtain ⟨hA1, hW1⟩ := w1
  obtain ⟨hc1, hm1⟩ := hA1.fits
  have hmx1 : xs1.length ≤ maxLen := Nat.le_trans hc1 hm1
  clear hc1 hm1
  obtain ⟨hA2, hW2⟩ := w2
  obtain ⟨hc2, hm2⟩ := hA2.fits
  have hmx2 : xs2.length ≤ maxLen := Nat.le_trans hc2 hm2
  clear hc2 hm2
  have HL := Lib.hid hL
  have HWI := Lib.hid (show ∀ x ∈ xs0, (Lit.int .i64 x.Id).wf = true ∧ (Lit.int .i64 x.Secret).wf = true from hW0)
  have HWS := Lib.hid (show ∀ y ∈ xs2, y.Fact.wf from fun y hy => ⟨(hW2 y hy).1, (hW2 y hy).2.1, (hW2 y hy).2.2.1, (hW2 y hy).2.2.2.1, (hW2 y hy).2.2.2.2.1, (hW2 y hy).2.2.2.2.2.1⟩)
  clear hL
  clear hW0
  clear hW1
  clear hW2
  have Bw : Below w.heap.size w w := Below.refl _ _
  go_enter Tryz.func4, Tryz.ntmps4
  go_wp2_with fail
  refine (sz_IssuerS w w.heap.size _ _ xs0 (1048576) (hA0.below IssuerR.fine Bw (Nat.le_refl _)) Bw.size (by omega) (by omega)).mono ?_
  rintro e u1_ ⟨q0, rfl, ⟨q0_a, q0_b⟩, hq0, bu1_⟩
  have HQ0 := Lib.hid hq0
  clear hq0
  have su1_ : w.heap.size ≤ u1_.heap.size := bu1_.size
  have Bu1_ := Bw.trans (bu1_.mono Bw.size)
  by_cases hz0 : 0 ≤ q0
  · obtain ⟨hn0, hk0⟩ := HQ0.out hz0
    have HK0 := Lib.hid hk0
    have hz0_n : ¬ q0 < 0 := by omega
    clear hk0
    by_cases hbig1 : (xs1.length : Int) ≤ q0
    · skip
      go_wp2_with fail
      refine (sz_FactS_yes _ _ _ (q0) _ (by omega) (by omega) hmx1 (by omega)).mono ?_
      rintro e wz ⟨rfl, hz⟩
      have hz := hz.symm
      subst hz
      by_cases hbig2 : (xs2.length : Int) ≤ q0 - (xs1.length : Int)
      · skip
        go_wp2_with fail
        refine (sz_StatedS_yes _ _ _ (q0 - (xs1.length : Int)) _ (by omega) (by omega) hmx2 (by omega)).mono ?_
        rintro e wz ⟨rfl, hz⟩
        have hz := hz.symm
        subst hz
        have hgl : (takeS xs0 xs2 xs1).1.length ≤ 1048576 := takeS_len _ _ _ _ (by decide) (by omega)
        have hgc : (takeS xs0 xs2 xs1).2 ≤ xs2.length := takeS_count _ _ _
        go_wp2_with fail
        refine (to_IssuerS u1_ w.heap.size _ xs0 (hA0.below IssuerR.fine Bu1_ (Nat.le_refl _)) Bu1_.size hn0 HK0.out).mono ?_
        rintro e u2_ ⟨t0, kvt0, rfl, lt0, ot0, ot0_s, bu2_⟩
        have su2_ : u1_.heap.size ≤ u2_.heap.size := bu2_.size
        have Bu2_ := Bu1_.trans (bu2_.mono Bu1_.size)
        have ot0_r := ot0.reads lt0 ot0_s
        obtain ⟨_, _, ft0, _⟩ := id ot0_r
        obtain ⟨_, At0, ct0, rfl, -⟩ := ft0
        go_wp2_with fail
        refine (to_FactS u2_ w.heap.size _ xs1 (hA1.below Bu2_ (Nat.le_refl _)) Bu2_.size (by omega)).mono ?_
        rintro e u3_ ⟨t1, rfl, ot1, bu3_⟩
        have su3_ : u2_.heap.size ≤ u3_.heap.size := bu3_.size
        have Bu3_ := Bu2_.trans (bu3_.mono Bu2_.size)
        have ot0 := ot0.below bu3_ (by omega) ot0_s
        have ot0_r := ot0_r.below IssuerR.fine bu3_ (by omega)
        obtain ⟨_, At1, ct1, rfl, _⟩ := id ot1.read
        go_wp2_with fail
        refine (to_StatedS u3_ w.heap.size _ xs2 (hA2.below Bu3_ (Nat.le_refl _)) Bu3_.size (by omega)).mono ?_
        rintro e u4_ ⟨t2, rfl, ot2, bu4_⟩
        have su4_ : u3_.heap.size ≤ u4_.heap.size := bu4_.size
        have Bu4_ := Bu3_.trans (bu4_.mono Bu3_.size)
        have ot0 := ot0.below bu4_ (by omega) ot0_s
        have ot0_r := ot0_r.below IssuerR.fine bu4_ (by omega)
        have ot1 := ot1.below bu4_ (by omega)
        obtain ⟨_, At2, ct2, rfl, _⟩ := id ot2.read
        go_wp2_with fail
        refine (spec_takeStated u4_ u2_.heap.size u3_.heap.size u4_.heap.size _ _ _ _ _ _ xs0 xs1 xs2 ot0_r ot1.read ot2.read (by omega) (by omega) (by omega) HWI.out HWS.out (by omega)).mono ?_
        rintro e u5_ ⟨r, rfl, or, bu5_⟩
        have su5_ : u4_.heap.size ≤ u5_.heap.size := bu5_.size
        have Bu5_ := Bu4_.trans (bu5_.mono Bu4_.size)
        have ot0 := ot0.below bu5_ (by omega) ot0_s
        have ot0_r := ot0_r.below IssuerR.fine bu5_ (by omega)
        have ot1 := ot1.below bu5_ (by omega)
        have ot2 := ot2.below bu5_ (by omega)
        go_wp2_with fail
        refine (to_IssuerS u5_ w.heap.size _ xs0 (hA0.below IssuerR.fine Bu5_ (Nat.le_refl _)) Bu5_.size hn0 HK0.out).mono ?_
        rintro e u6_ ⟨x0, kvx0, rfl, lx0, ox0, ox0_s, bu6_⟩
        have su6_ : u5_.heap.size ≤ u6_.heap.size := bu6_.size
        have Bu6_ := Bu5_.trans (bu6_.mono Bu5_.size)
        have or := or.below bu6_ (by omega)
        have ox0_r := ox0.reads lx0 ox0_s
        obtain ⟨_, _, fx0, _⟩ := id ox0_r
        obtain ⟨_, Ax0, cx0, rfl, -⟩ := fx0
        go_wp2_with fail
        refine (to_FactS u6_ w.heap.size _ xs1 (hA1.below Bu6_ (Nat.le_refl _)) Bu6_.size (by omega)).mono ?_
        rintro e u7_ ⟨x1, rfl, ox1, bu7_⟩
        have su7_ : u6_.heap.size ≤ u7_.heap.size := bu7_.size
        have Bu7_ := Bu6_.trans (bu7_.mono Bu6_.size)
        have or := or.below bu7_ (by omega)
        have ox0 := ox0.below bu7_ (by omega) ox0_s
        have ox0_r := ox0_r.below IssuerR.fine bu7_ (by omega)
        obtain ⟨_, Ax1, cx1, rfl, _⟩ := id ox1.read
        go_wp2_with fail
        refine (to_StatedS u7_ w.heap.size _ xs2 (hA2.below Bu7_ (Nat.le_refl _)) Bu7_.size (by omega)).mono ?_
        rintro e u8_ ⟨x2, rfl, ox2, bu8_⟩
        have su8_ : u7_.heap.size ≤ u8_.heap.size := bu8_.size
        have Bu8_ := Bu7_.trans (bu8_.mono Bu7_.size)
        have or := or.below bu8_ (by omega)
        have ox0 := ox0.below bu8_ (by omega) ox0_s
        have ox0_r := ox0_r.below IssuerR.fine bu8_ (by omega)
        have ox1 := ox1.below bu8_ (by omega)
        obtain ⟨_, Ax2, cx2, rfl, _⟩ := id ox2.read
        go_wp2_with fail
        refine (impl_takeStated u8_ u6_.heap.size u7_.heap.size u8_.heap.size _ _ _ _ _ _ xs0 xs1 xs2 ox0_r ox1.read ox2.read (by omega) (by omega) (by omega) HWI.out HWS.out (by omega) (HL.out.kept Bu8_)).mono ?_
        rintro e u9_ ⟨g, rfl, og, bu9_⟩
        have su9_ : u8_.heap.size ≤ u9_.heap.size := bu9_.size
        have Bu9_ := Bu8_.trans (bu9_.mono Bu8_.size)
        have or := or.below bu9_ (by omega)
        have ox0 := ox0.below bu9_ (by omega) ox0_s
        have ox0_r := ox0_r.below IssuerR.fine bu9_ (by omega)
        have ox1 := ox1.below bu9_ (by omega)
        have ox2 := ox2.below bu9_ (by omega)
        go_wp2_with fail
        refine (eq_FactS u9_ _ _ _ _ _ _ og.read or.read).mono ?_
        rintro e u10_ ⟨rfl, bu10_⟩
        have su10_ : u9_.heap.size ≤ u10_.heap.size := bu10_.size
        have Bu10_ := Bu9_.trans (bu10_.mono Bu9_.size)
        have or := or.below bu10_ (by omega)
        have ox0 := ox0.below bu10_ (by omega) ox0_s
        have ox0_r := ox0_r.below IssuerR.fine bu10_ (by omega)
        have ox1 := ox1.below bu10_ (by omega)
        have ox2 := ox2.below bu10_ (by omega)
        have og := og.below bu10_ (by omega)
        go_wp2_with fail
        refine (to_IssuerS u10_ w.heap.size _ xs0 (hA0.below IssuerR.fine Bu10_ (Nat.le_refl _)) Bu10_.size hn0 HK0.out).mono ?_
        rintro e u11_ ⟨y0, kvy0, rfl, ly0, oy0, oy0_s, bu11_⟩
        have su11_ : u10_.heap.size ≤ u11_.heap.size := bu11_.size
        have Bu11_ := Bu10_.trans (bu11_.mono Bu10_.size)
        have or := or.below bu11_ (by omega)
        have ox0 := ox0.below bu11_ (by omega) ox0_s
        have ox0_r := ox0_r.below IssuerR.fine bu11_ (by omega)
        have ox1 := ox1.below bu11_ (by omega)
        have ox2 := ox2.below bu11_ (by omega)
        have og := og.below bu11_ (by omega)
        have oy0_r := oy0.reads ly0 oy0_s
        obtain ⟨_, _, fy0, _⟩ := id oy0_r
        obtain ⟨_, Ay0, cy0, rfl, -⟩ := fy0
        go_wp2_with fail
        refine (eq_IssuerS u11_ _ _ _ _ _ _ ox0_r oy0_r (by omega) (by omega)).mono ?_
        rintro e u12_ ⟨rfl, bu12_⟩
        have su12_ : u11_.heap.size ≤ u12_.heap.size := bu12_.size
        have Bu12_ := Bu11_.trans (bu12_.mono Bu11_.size)
        have or := or.below bu12_ (by omega)
        have ox0 := ox0.below bu12_ (by omega) ox0_s
        have ox0_r := ox0_r.below IssuerR.fine bu12_ (by omega)
        have ox1 := ox1.below bu12_ (by omega)
        have ox2 := ox2.below bu12_ (by omega)
        have og := og.below bu12_ (by omega)
        have oy0 := oy0.below bu12_ (by omega) oy0_s
        have oy0_r := oy0_r.below IssuerR.fine bu12_ (by omega)
        go_wp2_with fail
        refine (to_FactS u12_ w.heap.size _ xs1 (hA1.below Bu12_ (Nat.le_refl _)) Bu12_.size (by omega)).mono ?_
        rintro e u13_ ⟨y1, rfl, oy1, bu13_⟩
        have su13_ : u12_.heap.size ≤ u13_.heap.size := bu13_.size
        have Bu13_ := Bu12_.trans (bu13_.mono Bu12_.size)
        have or := or.below bu13_ (by omega)
        have ox0 := ox0.below bu13_ (by omega) ox0_s
        have ox0_r := ox0_r.below IssuerR.fine bu13_ (by omega)
        have ox1 := ox1.below bu13_ (by omega)
        have ox2 := ox2.below bu13_ (by omega)
        have og := og.below bu13_ (by omega)
        obtain ⟨_, Ay1, cy1, rfl, _⟩ := id oy1.read
        go_wp2_with fail
        refine (eq_FactS u13_ _ _ _ _ _ _ ox1.read oy1.read).mono ?_
        rintro e u14_ ⟨rfl, bu14_⟩
        have su14_ : u13_.heap.size ≤ u14_.heap.size := bu14_.size
        have Bu14_ := Bu13_.trans (bu14_.mono Bu13_.size)
        have or := or.below bu14_ (by omega)
        have ox0 := ox0.below bu14_ (by omega) ox0_s
        have ox0_r := ox0_r.below IssuerR.fine bu14_ (by omega)
        have ox1 := ox1.below bu14_ (by omega)
        have ox2 := ox2.below bu14_ (by omega)
        have og := og.below bu14_ (by omega)
        have oy1 := oy1.below bu14_ (by omega)
        go_wp2_with fail
        refine (to_StatedS u14_ w.heap.size _ xs2 (hA2.below Bu14_ (Nat.le_refl _)) Bu14_.size (by omega)).mono ?_
        rintro e u15_ ⟨y2, rfl, oy2, bu15_⟩
        have su15_ : u14_.heap.size ≤ u15_.heap.size := bu15_.size
        have Bu15_ := Bu14_.trans (bu15_.mono Bu14_.size)
        have or := or.below bu15_ (by omega)
        have ox0 := ox0.below bu15_ (by omega) ox0_s
        have ox0_r := ox0_r.below IssuerR.fine bu15_ (by omega)
        have ox1 := ox1.below bu15_ (by omega)
        have ox2 := ox2.below bu15_ (by omega)
        have og := og.below bu15_ (by omega)
        obtain ⟨_, Ay2, cy2, rfl, _⟩ := id oy2.read
        go_wp2_with fail
        refine (eq_StatedS u15_ _ _ _ _ _ _ ox2.read oy2.read).mono ?_
        rintro e u16_ ⟨rfl, bu16_⟩
        have su16_ : u15_.heap.size ≤ u16_.heap.size := bu16_.size
        have Bu16_ := Bu15_.trans (bu16_.mono Bu15_.size)
        have or := or.below bu16_ (by omega)
        have ox0 := ox0.below bu16_ (by omega) ox0_s
        have ox0_r := ox0_r.below IssuerR.fine bu16_ (by omega)
        have ox1 := ox1.below bu16_ (by omega)
        have ox2 := ox2.below bu16_ (by omega)
        have og := og.below bu16_ (by omega)
        have oy2 := oy2.below bu16_ (by omega)
        go_wp2_with fail
        refine (mark_IssuerS u16_ _ _ _ _ _ (1) ox0 lx0 ox0_s (by omega) hn0 HK0.out (by omega) (by omega)).mono ?_
        rintro e u17_ ⟨mx0, rfl, mx0_a, mx0_b, qu17_⟩
        have su17_ : u16_.heap.size ≤ u17_.heap.size := Nat.le_of_eq qu17_.2.2.symm
        have Bu17_ := Bu16_.trans (qu17_.1.mono (by exact Bu5_.size))
        have or := or.keep (w' := u17_) (fun k h1 h2 h3 => by first | exact qu17_.1.block k (by omega) | exact qu17_.2.1 k (by omega))
        have ox1 := ox1.keep (w' := u17_) (fun k h1 h2 h3 => by first | exact qu17_.1.block k (by omega) | exact qu17_.2.1 k (by omega))
        have ox2 := ox2.keep (w' := u17_) (fun k h1 h2 h3 => by first | exact qu17_.1.block k (by omega) | exact qu17_.2.1 k (by omega))
        have og := og.keep (w' := u17_) (fun k h1 h2 h3 => by first | exact qu17_.1.block k (by omega) | exact qu17_.2.1 k (by omega))
        go_wp2_with fail
        refine (mark_FactS u17_ _ _ _ _ (mx0) ox1 (by omega) (by omega) (by omega)).mono ?_
        rintro e u18_ ⟨rfl, ou18_, qu18_⟩
        have su18_ : u17_.heap.size ≤ u18_.heap.size := qu18_.1.size
        have Bu18_ := Bu17_.trans (wroteC_below qu18_ ox1 (by omega) (by exact Bu17_.size))
        have or := or.wrote ox1 qu18_ (by omega)
        have ox2 := ox2.wrote ox1 qu18_ (by omega)
        have og := og.wrote ox1 qu18_ (by omega)
        have ox1 := ou18_
        go_wp2_with fail
        refine (mark_StatedS u18_ _ _ _ _ (mx0 + 6 * (xs1.length : Int)) ox2 (by omega) (by omega) (by omega)).mono ?_
        rintro e u19_ ⟨rfl, ou19_, qu19_⟩
        have su19_ : u18_.heap.size ≤ u19_.heap.size := qu19_.1.size
        have Bu19_ := Bu18_.trans (wroteC_below qu19_ ox2 (by omega) (by exact Bu18_.size))
        have or := or.wrote ox2 qu19_ (by omega)
        have ox1 := ox1.wrote ox2 qu19_ (by omega)
        have og := og.wrote ox2 qu19_ (by omega)
        have ox2 := ou19_
        go_wp2_with fail
        refine (eq_FactS u19_ _ _ _ _ _ _ og.read or.read).mono ?_
        rintro e u20_ ⟨rfl, bu20_⟩
        have su20_ : u19_.heap.size ≤ u20_.heap.size := bu20_.size
        have Bu20_ := Bu19_.trans (bu20_.mono Bu19_.size)
        have or := or.below bu20_ (by omega)
        have og := og.below bu20_ (by omega)
        go_wp2_with fail
        refine (mark_FactS u20_ _ _ _ _ (1) og (by omega) (by omega) (by omega)).mono ?_
        rintro e u21_ ⟨rfl, ou21_, qu21_⟩
        have su21_ : u20_.heap.size ≤ u21_.heap.size := qu21_.1.size
        have Bu21_ := Bu20_.trans (wroteC_below qu21_ og (by omega) (by exact Bu20_.size))
        have or := or.wrote og qu21_ (by omega)
        have og := ou21_
        go_wp2_with fail
        refine (held_FactS u21_ _ _ 1 _ og.read (by omega) (by decide) (by decide)).mono ?_
        rintro e u22_ ⟨rfl, hw⟩
        have hw := hw.symm
        subst hw
        go_wp2_with fail
        refine (to_IssuerS u21_ w.heap.size _ xs0 (hA0.below IssuerR.fine Bu21_ (Nat.le_refl _)) Bu21_.size hn0 HK0.out).mono ?_
        rintro e u23_ ⟨z0, kvz0, rfl, lz0, oz0, oz0_s, bu23_⟩
        have su23_ : u21_.heap.size ≤ u23_.heap.size := bu23_.size
        have Bu23_ := Bu21_.trans (bu23_.mono Bu21_.size)
        have or := or.below bu23_ (by omega)
        have og := og.below bu23_ (by omega)
        have oz0_r := oz0.reads lz0 oz0_s
        obtain ⟨_, _, fz0, _⟩ := id oz0_r
        obtain ⟨_, Az0, cz0, rfl, -⟩ := fz0
        go_wp2_with fail
        refine (to_FactS u23_ w.heap.size _ xs1 (hA1.below Bu23_ (Nat.le_refl _)) Bu23_.size (by omega)).mono ?_
        rintro e u24_ ⟨z1, rfl, oz1, bu24_⟩
        have su24_ : u23_.heap.size ≤ u24_.heap.size := bu24_.size
        have Bu24_ := Bu23_.trans (bu24_.mono Bu23_.size)
        have or := or.below bu24_ (by omega)
        have og := og.below bu24_ (by omega)
        have oz0 := oz0.below bu24_ (by omega) oz0_s
        have oz0_r := oz0_r.below IssuerR.fine bu24_ (by omega)
        obtain ⟨_, Az1, cz1, rfl, _⟩ := id oz1.read
        go_wp2_with fail
        refine (to_StatedS u24_ w.heap.size _ xs2 (hA2.below Bu24_ (Nat.le_refl _)) Bu24_.size (by omega)).mono ?_
        rintro e u25_ ⟨z2, rfl, oz2, bu25_⟩
        have su25_ : u24_.heap.size ≤ u25_.heap.size := bu25_.size
        have Bu25_ := Bu24_.trans (bu25_.mono Bu24_.size)
        have or := or.below bu25_ (by omega)
        have og := og.below bu25_ (by omega)
        have oz0 := oz0.below bu25_ (by omega) oz0_s
        have oz0_r := oz0_r.below IssuerR.fine bu25_ (by omega)
        have oz1 := oz1.below bu25_ (by omega)
        obtain ⟨_, Az2, cz2, rfl, _⟩ := id oz2.read
        go_wp2_with fail
        refine (impl_takeStated u25_ u23_.heap.size u24_.heap.size u25_.heap.size _ _ _ _ _ _ xs0 xs1 xs2 oz0_r oz1.read oz2.read (by omega) (by omega) (by omega) HWI.out HWS.out (by omega) (HL.out.kept Bu25_)).mono ?_
        rintro e u26_ ⟨h, rfl, oh, bu26_⟩
        have su26_ : u25_.heap.size ≤ u26_.heap.size := bu26_.size
        have Bu26_ := Bu25_.trans (bu26_.mono Bu25_.size)
        have or := or.below bu26_ (by omega)
        have og := og.below bu26_ (by omega)
        have oz0 := oz0.below bu26_ (by omega) oz0_s
        have oz0_r := oz0_r.below IssuerR.fine bu26_ (by omega)
        have oz1 := oz1.below bu26_ (by omega)
        have oz2 := oz2.below bu26_ (by omega)
        go_wp2_with fail
        refine (eq_FactS u26_ _ _ _ _ _ _ oh.read or.read).mono ?_
        rintro e u27_ ⟨rfl, bu27_⟩
        have su27_ : u26_.heap.size ≤ u27_.heap.size := bu27_.size
        have Bu27_ := Bu26_.trans (bu27_.mono Bu26_.size)
        have or := or.below bu27_ (by omega)
        have og := og.below bu27_ (by omega)
        have oz0 := oz0.below bu27_ (by omega) oz0_s
        have oz0_r := oz0_r.below IssuerR.fine bu27_ (by omega)
        have oz1 := oz1.below bu27_ (by omega)
        have oz2 := oz2.below bu27_ (by omega)
        have oh := oh.below bu27_ (by omega)
        go_wp2_with fail
        refine (held_FactS u27_ _ _ 1 _ og.read (by omega) (by decide) (by decide)).mono ?_
        rintro e u28_ ⟨rfl, hw⟩
        have hw := hw.symm
        subst hw
        go_wp2
        go_ret
        exact ⟨rfl, Bu27_⟩
      · skip
        go_wp2_with fail
        refine (sz_StatedS_no _ _ _ (q0 - (xs1.length : Int)) _ (by omega) (by omega) hmx2 (by omega)).mono ?_
        rintro e wz ⟨rfl, hz⟩
        have hz := hz.symm
        subst hz
        go_wp2
        go_ret
        exact ⟨rfl, Bu1_⟩
    · skip
      go_wp2_with fail
      refine (sz_FactS_no _ _ _ (q0) _ (by omega) (by omega) hmx1 (by omega)).mono ?_
      rintro e wz ⟨rfl, hz⟩
      have hz := hz.symm
      subst hz
      go_wp2
      go_ret
      exact ⟨rfl, Bu1_⟩
  · have hz0_n : q0 < 0 := by omega
    go_wp2
    go_ret
    exact ⟨rfl, Bu1_⟩

def laidL : List (String × DataW Unit) := [("loop.example/g00594/impl.errNoKey", Rows.laid_loop_example_g00594_impl_errNoKey)]
theorem door_met (os : Os) (args : Array Value) : laidMetH Tryz.prog laidL ((World.doorLaid Tryz.prog 400 os).forCall (fun _ _ => 0) ⟨#[], args, []⟩).memory :=
  laidMetH_of_parts3 (fuel := 8) (laidMet_of_run' 8 (by kernel_rfl) (by kernel_rfl)) (by kernel_rfl) (by kernel_rfl)
set_option maxRecDepth 100000 in
theorem lifted (os : Os) (started : os.Started) (H : Type) (enc : TypeId × Value → H) :
    ReturnsInHanded {} Tryz.checked os 4 .any (fun w args => (Rows.fnExactTakeStatedSpec.pre enc Tryz.prog Tryz.f4 [] false w args ∧ laidMetH Tryz.prog laidL w) ∧ sizedMet enc Tryz.prog Tryz.f4 (OpenSpec.ofChange Rows.fnExactTakeStatedSpec) false w args)
      (Rows.fnExactTakeStatedSpec.post enc Tryz.prog Tryz.f4 false true false false) := by
  refine returnsInHanded_of_change_and (C := Tryz.checked) (X := fun w _ => laidMetH Tryz.prog laidL w) (fun _ _ _ hh h => h.of_heap hh) own started (by kernel_rfl) Tryz.func4
    (ChangeSpec.witness_shaped (enc := enc) (C := Tryz.checked) (os := os) (X := fun w _ => laidMetH Tryz.prog laidL w) false (World.doorLaid Tryz.prog 400 os) #[.slice none 0 0, .slice none 0 0, .slice none 0 0] 8 rfl (World.shaped_of_RefB (by kernel_rfl) (by kernel_rfl)) (by kernel_rfl) (by kernel_rfl) (by kernel_rfl) (door_met os _)) ?_
  intro W base args ds gs before hval0 hW _ _ hL _
  have hval : ∀ (j : Nat) t v, Tryz.f4.params[j]? = some t → args[j]? = some v → Value.okWide Tryz.prog W .any base t v := hval0
  have hW' := hW
  obtain ⟨p, q, hA0, hV, rfl, hfz, hnd⟩ := hW
  have hA : DataW.TrodAll enc Tryz.prog W 0 (fun _ => true) true Tryz.f4.params.toList args.toList ds p := hA0
  rw [Tryz.params4] at hA hval
  obtain ⟨v0, vs0, d0, ds0, p0, q0, hargs, rfl, rfl, h0, r0⟩ := trodAll_cons hA
  obtain ⟨v1, vs1, d1, ds1, p1, q1, rfl, rfl, rfl, h1, r1⟩ := trodAll_cons r0
  obtain ⟨v2, vs2, d2, ds2, p2, q2, rfl, rfl, rfl, h2, r2⟩ := trodAll_cons r1
  obtain ⟨rfl, rfl, rfl⟩ := trodAll_nil r2
  obtain rfl : args = #[v0, v1, v2] := by cases args; simp_all
  have hV1 : DataW.TrodVars enc Tryz.prog W (fun _ => true) ["loop.example/g00594/impl.errNoKey"] gs q := hV
  have hvars := vars_tok (fun n hn => by
    simp only [List.mem_cons, List.not_mem_nil, or_false] at hn
    subst hn
    exact ⟨0, 120, _, by kernel_rfl, by kernel_rfl, Tryz.underlying120⟩) hV1
  obtain ⟨x0, y0, rfl, _, hV2⟩ := vars_cons hV1
  obtain ⟨rfl, _⟩ := trodVars_none hV2
  obtain ⟨a0, len0, cap0, rfl⟩ := okWide_slice Tryz.underlying49 (hval 0 49 v0 rfl rfl)
  have k0 := h0
  have lt0 : ∀ x ∈ p0, x.block < W.heap.size := by obtain ⟨m, hm⟩ := k0; exact DataW.trod_lt m _ _ _ hm
  obtain ⟨xs0, hl0, w0⟩ : ∃ xs : List IssuerD, len0 = xs.length ∧ (RowIssuer W W.heap.size (.slice a0 len0 cap0) xs ∧ ∀ x ∈ xs, x.wf) := by
    obtain ⟨fuel, hf⟩ := h0
    exact rowIss_of 9 Tryz.underlying49 (by kernel_rfl) (by kernel_rfl) Tryz.underlying3 Tryz.underlying24 (by kernel_rfl) hf
  subst hl0
  obtain ⟨a1, len1, cap1, rfl⟩ := okWide_slice Tryz.underlying50 (hval 1 50 v1 rfl rfl)
  have k1 := h1
  have lt1 : ∀ x ∈ p1, x.block < W.heap.size := by obtain ⟨m, hm⟩ := k1; exact DataW.trod_lt m _ _ _ hm
  obtain ⟨xs1, hl1, w1⟩ : ∃ xs : List FactD, len1 = xs.length ∧ (RowFact W W.heap.size (.slice a1 len1 cap1) xs ∧ ∀ x ∈ xs, x.wf) := by
    obtain ⟨fuel, hf⟩ := h1
    exact rowC_of (ts := [3, 3, 3, 3, 3, 3]) 9 Tryz.underlying50 (by kernel_rfl) (by kernel_rfl) rfl (by decide) FactD.cells_len (fun vs lv => by
      obtain ⟨x, hx, hw⟩ := FactD.of_leaves Tryz.underlying3 lv
      exact ⟨x, agg_inj hx, hw⟩) hf
  subst hl1
  obtain ⟨a2, len2, cap2, rfl⟩ := okWide_slice Tryz.underlying51 (hval 2 51 v2 rfl rfl)
  have k2 := h2
  have lt2 : ∀ x ∈ p2, x.block < W.heap.size := by obtain ⟨m, hm⟩ := k2; exact DataW.trod_lt m _ _ _ hm
  obtain ⟨xs2, hl2, w2⟩ : ∃ xs : List StatedD, len2 = xs.length ∧ (RowStated W W.heap.size (.slice a2 len2 cap2) xs ∧ ∀ x ∈ xs, x.wf) := by
    obtain ⟨fuel, hf⟩ := h2
    exact rowC_of (ts := [3, 3, 3, 3, 3, 3, 3]) 9 Tryz.underlying51 (by kernel_rfl) (by kernel_rfl) rfl (by decide) StatedD.cells_len (fun vs lv => by
      obtain ⟨x, hx, hw⟩ := StatedD.of_leaves Tryz.underlying3 lv
      exact ⟨x, agg_inj hx, hw⟩) hf
  subst hl2
  clear hA0 hval0
  refine (walk a0 cap0 xs0 a1 cap1 xs1 a2 cap2 xs2 W w0 w1 w2 (key_of_laid (by rw [MakeChecks.laidMetH_plain _ _ _ (by kernel_rfl)] at hL; exact hL))).mono fun e W' ⟨he, bel⟩ => ?_
  subst he
  exact ⟨_, rfl, _, _, _, [], _, _, hW', trodAll_mk1 (shut_bool Tryz.underlying4 _), (trodAll_cons_mk (Below.trod laidOut (by kernel_rfl) (of_decide_eq_true (by kernel_rfl)) k0 bel lt0) (trodAll_cons_mk (Below.trod laidOut (by kernel_rfl) (of_decide_eq_true (by kernel_rfl)) k1 bel lt1) (trodAll_cons_mk (Below.trod laidOut (by kernel_rfl) (of_decide_eq_true (by kernel_rfl)) k2 bel lt2) trodAll_mk0))), hvars W' bel _, bel.frame _, fun h => by cases h⟩

theorem over : Rows.fnExactTakeStatedRow.holds Tryz.pinned (OpenSpec.ofChange Rows.fnExactTakeStatedSpec) :=
  OpenClaim.holds_of_wide 4 Tryz.f4 rfl rfl rfl rfl rfl rfl rfl ⟨rfl, rfl, rfl, rfl, rfl⟩ rfl rfl rfl rfl rfl (by kernel_rfl) Tryz.func4 (by kernel_rfl)
    (of_decide_eq_true (by kernel_rfl)) (by unfold Func.isWrapper; first | (rw [if_pos (by decide +kernel)]; kernel_rfl) | (rw [if_neg (by decide +kernel)]; exact ⟨rfl, rfl⟩))
    (fun os started H enc _ => lifted os started H enc)

/-- at every list of issuers, list of facts and list of statements TakeStated answers as its model, leaves its arguments as they were, and its answer owns its memory. -/
theorem proved : Rows.FnExactTakeStatedCardSaid :=
  Claim7.holds_tied_plain_at .later [] [.sentinel] true (true, "7d175811168abca5207d7067ed6444b3ed948c2d4a6fa09aacfa8a0072ee318e") true
    over (fun _ h => by cases h) (by kernel_rfl) (fun _ h => by cases h) fnExactTakeStated_row_tie rfl ⟨rfl, rfl⟩ (by kernel_rfl) rfl
    (fun f fn hf hfn => by
      obtain rfl : f = 4 := Option.some.inj ((show Tryz.prog.funcNamed "loop.example/g00594/laws.FnExactTakeStated" = some 4 by kernel_rfl).symm.trans hf) |>.symm
      obtain rfl : fn = Tryz.f4 := (Option.some.inj (Tryz.func4.symm.trans hfn)).symm
      exact ⟨by kernel_rfl, fun j t ht => by
      rw [Tryz.params4] at ht
      have hm : t ∈ [49, 50, 51] := by simpa using Array.mem_of_getElem? ht
      have hall : ([49, 50, 51].all fun u => !Tryz.prog.wantsStandIn u) = true := by kernel_rfl
      exact (show Tryz.prog.wantsStandIn t = false by simpa using List.all_eq_true.1 hall t hm)⟩)
    (by kernel_rfl)
#print axioms proved
end Go.Proofs.YtjfmmingkciapaaGreatDoor.fnExactTakeStated
