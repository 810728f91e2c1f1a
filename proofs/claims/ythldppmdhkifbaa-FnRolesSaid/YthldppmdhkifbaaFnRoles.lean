/-
  Proved here: for every input, who has a role has all under it, and above every role of pairs in order there is one on top.
  Conditions: those that the given row itself prints; none of our own.
-/
import Derived.Test.YthldppmdhkifbaaMRoleH
import Derived.Test.YthldppmdhkifbaaRoleL
import Derived.Test.YthldppmdhkifbaaRoleA
import Derived.Test.YthldppmdhkifbaaRole1
import Derived.Test.YthldppmdhkifbaaDraw14
import Derived.Test.YthldppmdhkifbaaRoleW
import Derived.Test.YthldppmdhkifbaaMIncludesT
import Derived.WalkKit
import Derived.ProofKit
import Derived.OpenShut
import Derived.ShutString
import Derived.ChangeOld
import Derived.Below
import Derived.WalkLawsBesides
import Derived.WalkSpells
import Derived.LoopTactic
import Derived.Lib.Hide
import Derived.Deep.DeepCutAuto
import Derived.Handy
import Derived.Deep.RegionHeld3
namespace Go.Proofs.Ythldppmdhkifbaa.fnRoles
open Go.ChangeShapes Go.WideShapes Go.ChangeAt Go.RowKit
open Go.ChangeMaps (open_string shut_string)
set_option linter.unusedVariables false

theorem own : ownKnob Try.prog.godebug = none := by kernel_rfl
theorem laidOut : laidOutB Try.prog = true := by kernel_rfl

set_option maxHeartbeats 8000000 in
set_option maxRecDepth 100000 in
theorem walk (a0 : Option Addr) (len0 cap0 : Nat) (z0 : List Int) (w : World) (w0 : IsRow .u8 w a0 len0 cap0 z0) :
    Calls Try.prog 3 #[.slice a0 len0 cap0] w fun e w' => e = .returned (.bool true) ∧ Below w.heap.size w w' := by
  by_cases hbig : (len0 : Int) ≤ 1048576
  · go_enter Try.func3, Try.ntmps3
    go_wp2_with (go_at_call 11; go_in)
    refine (draw_hasRole w a0 len0 cap0 z0 w0 (by omega)).mono ?_
    rintro e w1 ⟨u, ls, v, xs, p, r, now, age, rfl, hp, hst, hb1⟩
    obtain ⟨_, A, cA, rfl, _⟩ := id hp.2
    obtain ⟨_, A2, c2, rfl, _⟩ := id hst.2.2
    have hll := hp.1
    have hxl := hst.1
    have HP := Lib.hid hp.2
    have HS := Lib.hid hst.2.2
    clear hp hst
    have CR := Lib.hid (fun (W : World) (hb : Below w1.heap.size w1 W) => show Calls Try.prog 13 #[.slice A ls.length cA, .slice A2 xs.length c2, .int .i64 p, .int .i64 now, .int .i64 age] W fun e w' => ∃ B q, e = .returned (.slice B (Role.ofL (Role.prs ls) (valsF xs 1 p now age)).length q) ∧ Hid (Row .i64 w' w'.heap.size (.slice B (Role.ofL (Role.prs ls) (valsF xs 1 p now age)).length q) (Role.ofL (Role.prs ls) (valsF xs 1 p now age))) ∧ Below W.heap.size W w' from
      (impl_rolesOf W w1.heap.size w1.heap.size cA c2 A A2 ls xs p now age (HP.out.below hb (Nat.le_refl _)) hb.size (HS.out.below hb (Nat.le_refl _)) hb.size (by omega)).mono fun e w' ⟨u, he, ho, hb⟩ => by
        obtain ⟨B, q, hu, -⟩ := ho.read.form
        subst hu
        exact ⟨B, q, he, Lib.hid ho.read, hb⟩)
    have CU := Lib.hid (fun (W : World) (hb : Below w1.heap.size w1 W) (t : Int) => show Calls Try.prog 14 #[.slice A ls.length cA, .int .i64 t] W fun e w' => ∃ B q, e = .returned (.slice B (Role.underL (Role.prs ls) t).length q) ∧ Hid (Row .i64 w' w'.heap.size (.slice B (Role.underL (Role.prs ls) t).length q) (Role.underL (Role.prs ls) t)) ∧ Below W.heap.size W w' from
      (impl_rolesUnder W w1.heap.size cA A ls t (HP.out.below hb (Nat.le_refl _)) hb.size).mono fun e w' ⟨u, he, ho, hb⟩ => by
        obtain ⟨B, q, hu, -⟩ := ho.read.form
        subst hu
        exact ⟨B, q, he, Lib.hid ho.read, hb⟩)
    have CS := Lib.hid (fun (W : World) (hb : Below w1.heap.size w1 W) (t : Int) => show Calls Try.prog 15 #[.slice A ls.length cA, .int .i64 t] W fun e w' => ∃ B q, e = .returned (.slice B (Role.underL (Role.prs ls) t).length q) ∧ Below W.heap.size W w' from
      (spec_rolesUnder W w1.heap.size cA A ls t (HP.out.below hb (Nat.le_refl _)) hb.size).mono fun e w' ⟨u, he, ho, hb⟩ => by
        obtain ⟨B, q, hu, -⟩ := ho.read.form
        subst hu
        exact ⟨B, q, he, hb⟩)
    have CT := Lib.hid (fun (W : World) (hb : Below w1.heap.size w1 W) => show Calls Try.prog 19 #[.slice A ls.length cA] W fun e w' => ∃ B q, e = .returned (.slice B (Role.topL (Role.prs ls)).length q) ∧ Hid (Row .i64 w' w'.heap.size (.slice B (Role.topL (Role.prs ls)).length q) (Role.topL (Role.prs ls))) ∧ Below W.heap.size W w' from
      (impl_topRoles W w1.heap.size cA A ls (HP.out.below hb (Nat.le_refl _)) hb.size).mono fun e w' ⟨u, he, ho, hb⟩ => by
        obtain ⟨B, q, hu, -⟩ := ho.read.form
        subst hu
        exact ⟨B, q, he, Lib.hid ho.read, hb⟩)
    obtain ⟨pb, hpb⟩ : ∃ pb, Role.pairsB (Role.prs ls) = pb := ⟨_, rfl⟩
    have CA := Lib.hid (fun (W : World) (hb : Below w1.heap.size w1 W) => show Calls Try.prog 18 #[.slice A ls.length cA] W fun e w' => e = .returned (.bool pb) ∧ Below W.heap.size W w' from hpb ▸ impl_arePairs W w1.heap.size cA A ls (HP.out.below hb (Nat.le_refl _)) hb.size)
    obtain ⟨h, hh⟩ : ∃ h, hasI (Role.ofL (Role.prs ls) (valsF xs 1 p now age)) r = h := ⟨_, rfl⟩
    have CH := Lib.hid (fun (W : World) (hb : Below w1.heap.size w1 W) => show Calls Try.prog 16 #[.slice A ls.length cA, .slice A2 xs.length c2, .int .i64 p, .int .i64 r, .int .i64 now, .int .i64 age] W fun e w' => e = .returned (.bool h) ∧ Below W.heap.size W w' from
      hh ▸ impl_hasRole W w1.heap.size w1.heap.size cA c2 A A2 ls xs p r now age (HP.out.below hb (Nat.le_refl _)) hb.size (HS.out.below hb (Nat.le_refl _)) hb.size (by omega))
    have HHU := Lib.hid (show h = true → ∀ x ∈ Role.underL (Role.prs ls) r, hasI (Role.ofL (Role.prs ls) (valsF xs 1 p now age)) x = true from fun e x hx => has_under (hh.trans e) hx)
    have HCV := Lib.hid (show pb = true → ∀ n : Nat, n < 6 → coverTo (Role.prs ls) (n : Int) (Role.topL (Role.prs ls)).length = true from fun e n hn => cover_all (hpb.trans e) hn)
    have HCS := Lib.hid (fun (k : Nat) (t : Int) (n : Int) (ht : (Role.topL (Role.prs ls))[k]? = some t) => cover_succ (r := n) ht)
    have CC := Lib.hid (fun (W : World) (B : Option Addr) (q hi : Nat) (l : List Int) (n : Int) (b : Bool) (hb : hasI l n = b) (h : Row .i64 W hi (.slice B l.length q) l) => show Calls Try.prog 17 #[.slice B l.length q, .int .i64 n] W fun e w' => e = .returned (.bool b) ∧ Below W.heap.size W w' from hb ▸ laws_contains W hi q B l n h)
    have CUr := Lib.hid (fun W hb => CU.out W hb r)
    have CSr := Lib.hid (fun W hb => CS.out W hb r)
    have hul := Role.underL_len (Role.prs ls) r
    have hal : (Role.ofL (Role.prs ls) (valsF xs 1 p now age)).length ≤ 6 := Role.rolesL_len _
    have htl : (Role.topL (Role.prs ls)).length ≤ 6 := Role.rolesL_len _
    generalize Role.ofL (Role.prs ls) (valsF xs 1 p now age) = ALL at CR hh HHU hal
    have HH := Lib.hid hh
    clear hpb hh CS HP HS
    generalize Role.topL (Role.prs ls) = TOP at CT HCS HCV htl
    generalize Role.underL (Role.prs ls) r = UND at CUr CSr HHU hul
    go_wp2_with fail
    refine (CR.out _ (Below.refl _ _)).mono ?_
    rintro e w2 ⟨B2, q2, rfl, HALL, b2⟩
    go_wp2_with fail
    refine (CUr.out _ b2).mono ?_
    rintro e w3 ⟨B3, q3, rfl, HUND, b3⟩
    have d3 := b2.trans (b3.mono b2.size)
    have hq3 : UND.length ≤ q3 ∧ q3 ≤ maxLen := by
      obtain ⟨_, _, e, h1, h2, _⟩ := HUND.out.form
      injection e with _ _ e3
      subst e3
      exact ⟨h1, h2⟩
    unfold maxLen at hq3
    go_wp2_with fail
    refine (CSr.out _ d3).mono ?_
    rintro e w4 ⟨B4, q4, rfl, b4⟩
    have d4 := d3.trans (b4.mono d3.size)
    go_wp2_with fail
    refine (CH.out _ d4).mono ?_
    rintro e w5 ⟨rfl, b5⟩
    have d5 := d4.trans (b5.mono d4.size)
    have f5 : Below w3.heap.size w3 w5 := b4.trans (b5.mono b4.size)
    have g5 : Below w2.heap.size w2 w5 := b3.trans (f5.mono b3.size)
    go_wp2_with fail
    refine (CC.out _ _ _ _ ALL r h HH.out (HALL.out.below g5 (Nat.le_refl _))).mono ?_
    rintro e w6 ⟨rfl, b6⟩
    have f6 := f5.trans (b6.mono f5.size)
    clear d3 d4 d5 f5 g5 b4 b5 b6
    go_upto_block 0 with fail
    go_cut [11] (fun _ wx => Hid (Below w3.heap.size w3 wx))
    case first =>
      go_wp2_with fail
      go_loopw [11] (fun i wr => ∃ k : Nat, k ≤ UND.length ∧ i = .int .i64 (k : Int) ∧ Hid (Below w3.heap.size w3 wr)) (fun i _ => UND.length - (intOf i).toNat)
      case atStart => exact ⟨0, Nat.zero_le _, rfl, Lib.hid f6⟩
      case round =>
        obtain ⟨k, hk, rfl, hf⟩ := hrel
        by_cases hlt : k < UND.length
        · go_wp2_with fail
          refine (CC.out _ _ _ _ ALL r h HH.out (HALL.out.below (b3.trans (hf.out.mono b3.size)) (Nat.le_refl _))).mono ?_
          rintro e u ⟨rfl, c1⟩
          have f7 := hf.out.trans (c1.mono hf.out.size)
          cases h
          · go_wp2
            go_meet
            exact Lib.hid f7
          · obtain ⟨x, hx⟩ : ∃ x, UND[k]? = some x := ⟨_, List.getElem?_eq_getElem hlt⟩
            have HX := Lib.hid (HHU.out (by simp) x (List.mem_of_getElem? hx))
            obtain ⟨b, off, rfl, g1, g2, c0⟩ := Row.cellAt (HUND.out.below f7 (Nat.le_refl _)) hx
            have HF7 := Lib.hid f7
            clear hx f7
            go_wp2_with fail
            refine (CC.out _ _ _ _ ALL x true HX.out (HALL.out.below (b3.trans (HF7.out.mono b3.size)) (Nat.le_refl _))).mono ?_
            rintro e u2 ⟨rfl, c2⟩
            go_wp2
            exact ⟨⟨k + 1, by omega, by go_num, Lib.hid (HF7.out.trans (c2.mono HF7.out.size))⟩, by simp only [intOf]; omega⟩
        · go_wp2
          go_meet
          exact hf
    case rest =>
      have f7 := hcut.out
      have d7 : Below w1.heap.size w1 wc := (b2.trans (b3.mono b2.size)).trans (f7.mono (Nat.le_trans b2.size b3.size))
      clear f7 hcut f6
      go_wp2_with fail
      refine (CA.out _ d7).mono ?_
      rintro e w8 ⟨rfl, b8⟩
      have d8 := d7.trans (b8.mono d7.size)
      cases pb
      · go_wp2
        go_ret
        exact ⟨rfl, hb1.trans (d8.mono hb1.size)⟩
      · go_wp2_with fail
        refine (CT.out _ d8).mono ?_
        rintro e w9 ⟨B9, q9, rfl, HTOP, b9⟩
        have d9 := d8.trans (b9.mono d8.size)
        have hq9 : TOP.length ≤ q9 ∧ q9 ≤ maxLen := by
          obtain ⟨_, _, e, h1, h2, _⟩ := HTOP.out.form
          injection e with _ _ e3
          subst e3
          exact ⟨h1, h2⟩
        unfold maxLen at hq9
        go_wp2
        go_loopw [13] (fun i wr => ∃ n : Nat, n ≤ 6 ∧ i = .int .i64 (n : Int) ∧ Hid (Below w9.heap.size w9 wr)) (fun i _ => 6 - (intOf i).toNat)
        case atStart => exact ⟨0, Nat.zero_le _, rfl, Lib.hid (Below.refl _ _)⟩
        case round =>
          obtain ⟨n, hn, rfl, hf⟩ := hrel
          by_cases hlt : n < 6
          · have HV := Lib.hid (HCV.out (by simp) n hlt)
            go_wp2
            generalize decide ((n : Int) ≤ 5) = d5
            go_loopw [14, 15] (fun c i wr => ∃ k : Nat, k ≤ TOP.length ∧ i = .int .i64 (k : Int) ∧ c = .bool (coverTo (Role.prs ls) (n : Int) k) ∧ Hid (Below w9.heap.size w9 wr)) (fun _ i _ => TOP.length - (intOf i).toNat)
            case atStart => exact ⟨0, Nat.zero_le _, rfl, rfl, hf⟩
            case round =>
              clear hf
              obtain ⟨k, hk, rfl, rfl, hf⟩ := hrel
              by_cases hlk : k < TOP.length
              · obtain ⟨t, ht⟩ : ∃ t, TOP[k]? = some t := ⟨_, List.getElem?_eq_getElem hlk⟩
                have HSX := Lib.hid (HCS.out k t (n : Int) ht)
                generalize coverTo (Role.prs ls) (n : Int) k = f at HSX
                cases f
                · obtain ⟨b, off, rfl, g1, g2, c0⟩ := Row.cellAt (HTOP.out.below hf.out (Nat.le_refl _)) ht
                  obtain ⟨y, hy⟩ : ∃ y, hasI (Role.underL (Role.prs ls) t) (n : Int) = y := ⟨_, rfl⟩
                  have HY := Lib.hid hy
                  have HF := Lib.hid (show coverTo (Role.prs ls) (n : Int) (k + 1) = y by rw [HSX.out, hy]; rfl)
                  have CUt := Lib.hid (CU.out _ (d9.trans (hf.out.mono d9.size)) t)
                  clear ht hy
                  generalize Role.underL (Role.prs ls) t = UT at HY CUt
                  go_wp2_with fail
                  refine CUt.out.mono ?_
                  rintro e u ⟨B, q, rfl, HU, c1⟩
                  have f1 := hf.out.trans (c1.mono hf.out.size)
                  go_wp2_with fail
                  refine (CC.out _ _ _ _ UT (n : Int) y HY.out HU.out).mono ?_
                  rintro e u2 ⟨rfl, c2⟩
                  go_wp2
                  exact ⟨⟨k + 1, by omega, by go_num, by rw [HF.out]; try simp, Lib.hid (f1.trans (c2.mono f1.size))⟩, by simp only [intOf]; omega⟩
                · have HF := Lib.hid (show coverTo (Role.prs ls) (n : Int) (k + 1) = true by rw [HSX.out]; rfl)
                  clear ht
                  go_wp2
                  exact ⟨⟨k + 1, by omega, by go_num, by rw [HF.out], hf⟩, by simp only [intOf]; omega⟩
              · have HF := Lib.hid (show coverTo (Role.prs ls) (n : Int) k = true by rw [show k = TOP.length by omega]; exact HV.out)
                generalize coverTo (Role.prs ls) (n : Int) k = f at HF
                obtain rfl := HF.out
                go_wp2
                exact ⟨⟨n + 1, by omega, by go_num, hf⟩, by simp only [intOf]; omega⟩
          · go_wp2
            go_ret
            have d10 := d9.trans (hf.out.mono d9.size)
            exact ⟨rfl, hb1.trans (d10.mono hb1.size)⟩
  · go_enter Try.func3, Try.ntmps3
    go_wp2_with (go_at_call 11; go_in)
    go_ret
    exact ⟨rfl, Below.refl _ _⟩

set_option maxRecDepth 100000 in
theorem lifted (os : Os) (started : os.Started) (H : Type) (enc : TypeId × Value → H) :
    ReturnsInHanded {} Try.checked os 3 .any (Rows.fnRolesSpec.pre6 enc Try.prog Try.f3 Rows.fnRolesRow.domain false) (Rows.fnRolesSpec.post enc Try.prog Try.f3 false true false false) := by
  refine returnsInHanded_of_change (C := Try.checked) own started (by kernel_rfl) Try.func3
    (ChangeSpec.witness6 (enc := enc) (C := Try.checked) false ⟨#[], #[.slice none 0 0], []⟩ 8 (by kernel_rfl) (by kernel_rfl) (by kernel_rfl) (by kernel_rfl)) ?_
  intro W base args ds gs before hval0 hW hcnd _
  have hval : ∀ (j : Nat) t v, Try.f3.params[j]? = some t → args[j]? = some v → Value.okWide Try.prog W .any base t v := hval0
  have hW' := hW
  obtain ⟨p, q, hA0, hV, rfl, hfz, hnd⟩ := hW
  have hA : DataW.TrodAll enc Try.prog W 0 (fun _ => true) true Try.f3.params.toList args.toList ds p := hA0
  rw [Try.params3] at hA hval
  obtain ⟨v0, vs0, d0, ds0, p0, q0, hargs, rfl, rfl, h0, r0⟩ := trodAll_cons hA
  obtain ⟨rfl, rfl, rfl⟩ := trodAll_nil r0
  obtain rfl : args = #[v0] := by cases args; simp_all
  obtain ⟨rfl, rfl⟩ := trodVars_none hV
  obtain ⟨a0, len0, cap0, rfl⟩ := okWide_slice Try.underlying22 (hval 0 22 v0 rfl rfl)
  have k0 := h0
  have lt0 : ∀ x ∈ p0, x.block < W.heap.size := by obtain ⟨m, hm⟩ := k0; exact DataW.trod_lt m _ _ _ hm
  obtain ⟨z0, w0⟩ : ∃ zs, IsRow .u8 W a0 len0 cap0 zs := by
    obtain ⟨fuel, hf⟩ := h0
    exact isRow_of Try.underlying22 Try.underlying5 (by kernel_rfl) hf
  clear hA0 hval0
  refine (walk a0 len0 cap0 z0 W w0).mono fun e W' ⟨he, bel⟩ => ?_
  subst he
  exact ⟨_, rfl, _, _, _, [], _, [], hW', trodAll_mk1 (shut_bool Try.underlying4 _), (trodAll_cons_mk (Below.trod laidOut (by kernel_rfl) (of_decide_eq_true (by kernel_rfl)) k0 bel lt0) trodAll_mk0), rfl, bel.frame _, fun h => by cases h⟩

theorem over : Rows.fnRolesRow.holds Try.pinned (OpenSpec.ofChange Rows.fnRolesSpec) :=
  OpenClaim.holds_of_wide 3 Try.f3 rfl rfl rfl rfl rfl rfl rfl ⟨rfl, rfl, rfl, rfl, rfl⟩ rfl rfl rfl rfl rfl (by kernel_rfl) Try.func3 (by kernel_rfl)
    (of_decide_eq_true (by kernel_rfl)) (by unfold Func.isWrapper; first | (rw [if_pos (by decide +kernel)]; kernel_rfl) | (rw [if_neg (by decide +kernel)]; exact ⟨rfl, rfl⟩))
    (fun os started H enc _ => lifted os started H enc)

/-- for every input, who has a role has all under it, and above every role of pairs in order there is one on top. -/
theorem proved : Rows.FnRolesSaid := over
#print axioms proved
end Go.Proofs.Ythldppmdhkifbaa.fnRoles
