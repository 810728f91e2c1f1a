/- Roles (chapter 14): contracts of the model: what is under a role. No condition but the bounds of what came in. -/
import Derived.Test.YtmgigjpkpeamjaaRoleN
import Derived.Test.YtmgigjpkpeamjaaMOne
import Derived.Test.YtmgigjpkpeamjaaIncludesS
import Derived.Test.YtmgigjpkpeamjaaInts
import Derived.Test.YtmgigjpkpeamjaaMCellI
import Derived.Test.YtmgigjpkpeamjaaMReqM
import Derived.Test.YtmgigjpkpeamjaaMAllow1
import Derived.Test.YtmgigjpkpeamjaaMRequestT
import Derived.Deep.RegionHeld3
import Derived.Handy
namespace Go.Proofs.Ytmgigjpkpeamjaa
open Go.ChangeShapes Go.WideShapes Go.ChangeAt Go.RowKit
set_option linter.unusedVariables false

/-- A list of the call's own grows beside a block of six marks. -/
structure OutM (E T : TypeId) (w0 w : World) (L G : Nat) (v : Value) (xs : List Int) (m : Role.Marks) : Prop where
  own : Own E .i64 w L w.heap.size v xs
  ne : v.ownBlock = some G → False
  blk : w.heap[G]? = some (.cells (Role.arrM m) T)
  below : Below L w0 w
theorem OutM.app {E T : TypeId} {w0 w w' : World} {L G : Nat} {v v' : Value} {xs ys : List Int} {m : Role.Marks} (h : OutM E T w0 w L G v xs m) (hL : L ≤ w0.heap.size)
    (hr : w'.ownsRow L E 1 v' ys.length (ys.map (Value.int .i64))) (hw : ∀ x ∈ ys, (Lit.int .i64 x).wf = true) (hg : w.grownBy w' v.ownBlock) (ha : v'.ownBlock = v.ownBlock ∨ v'.ownBlock = some w.heap.size) : OutM E T w0 w' L G v' ys m := by
  refine ⟨⟨hr, fun k hk => (hr.lt k hk).2, hw⟩, fun e => ?_, (hg.block G (blk_lt h.blk) fun e => h.ne e.symm).trans h.blk, h.below.trans ⟨hg.os, hg.tape, hg.output, hg.size, fun k hk => hg.block k (by have := h.below.size; omega) fun e => ?_⟩⟩
  · rcases ha with ha | ha
    · exact h.ne (ha ▸ e)
    · rw [ha] at e
      injection e with e
      have := blk_lt h.blk
      omega
  · have := (h.own.lt k e.symm).1
    omega
theorem OutM.alloc {E T : TypeId} {w0 w : World} {L G : Nat} {v : Value} {xs : List Int} {m : Role.Marks} (h : OutM E T w0 w L G v xs m) (hL : L ≤ w0.heap.size) (o : Obj) : OutM E T w0 (w.alloc o) L G v xs m := by
  have hb : Below w.heap.size w (w.alloc o) := (Below.refl _ _).alloc (Nat.le_refl _) _
  refine ⟨(h.own.below hb (Nat.le_refl _)).wide (Nat.le_refl _) hb.size, h.ne, blk_keep h.blk hb (blk_lt h.blk), h.below.alloc (by have := h.below.size; omega) o⟩
theorem made_marks {w : World} {g : Nat} {T : TypeId} {base : Nat} (h : w.ownsRow base T 1 (.slice (some ⟨g, 0, none⟩) 6 6) 6 (madeCells (Value.bool false).cells (6 * 1)).toList) : w.heap[g]? = some (.cells (Role.arrM Role.noM) T) := by
  rcases h.2 with ⟨h0, _⟩ | ⟨g', cap, cur, h0, _, h2, _, _, h5, h6⟩
  · cases h0
  · injection h0 with h0 _ h7
    injection h0 with h0
    injection h0 with h0
    subst h0
    subst h7
    rw [h2]
    have e : cur.toList = (Role.arrM Role.noM).toList := by
      rw [List.take_of_length_le (by rw [Array.length_toList, h5]; omega)] at h6
      rw [h6]
      show (madeCells #[.bool false] 6).toList = _
      rw [toList_madeCells_one]
      rfl
    rw [Array.toList_inj.1 e]
theorem set_marks {w : World} {G : Nat} {T : TypeId} {m : Role.Marks} (h : w.heap[G]? = some (.cells (Role.arrM m) T)) (k : Nat) (hk : k < 6) :
    (w.setCell ⟨G, k, none⟩ (.bool true)).heap[G]? = some (.cells (Role.arrM (Role.withM m (k : Int))) T) := by
  rw [← Role.arrM_set m k hk]
  exact blk_set h _
theorem at_marks {w : World} {G : Nat} {T : TypeId} {m : Role.Marks} (h : w.heap[G]? = some (.cells (Role.arrM m) T)) (k : Nat) (hk : k < 6) :
    w.cell? ⟨G, k, none⟩ = some (.bool (m (k : Int))) ∧ w.frozen? ⟨G, k, none⟩ = false :=
  ⟨blk_cell h k (Role.arrM_at m k hk), blk_frozen h k⟩
theorem six_wf {ks : List Int} (h : ∀ x ∈ ks, Role.inR x = true) : ∀ x ∈ ks, (Lit.int .i64 x).wf = true := fun x hx => by
  have := (Role.inR_iff x).1 (h x hx)
  exact wf_i64 (by omega) (by omega)
theorem upTo_in {m : Role.Marks} {k : Nat} {x : Int} (h : x ∈ Role.upTo m k) : Role.inR x = true := by
  unfold Role.upTo at h
  exact (Role.mem_six x).1 (List.mem_of_mem_take (List.mem_filter.1 h).1)
theorem OutM.set {E T : TypeId} {w0 w : World} {L G : Nat} {v : Value} {xs : List Int} {m : Role.Marks} (h : OutM E T w0 w L G v xs m) (hL : L ≤ G) (k : Nat) (hk : k < 6) : OutM E T w0 (w.setCell ⟨G, k, none⟩ (.bool true)) L G v xs (Role.withM m (k : Int)) := by
  refine ⟨h.own.keepAt (fun q hq _ => Below.heap_setCell w ⟨G, k, none⟩ (.bool true) q (fun e => ?_)) (by simp [World.setCell]), h.ne, set_marks h.blk k hk, h.below.setCell (p := ⟨G, k, none⟩) hL _⟩
  have e' : q = G := e
  exact h.ne (e' ▸ hq)
set_option maxHeartbeats 2000000 in
set_option maxRecDepth 100000 in
theorem spec_rolesUnder (w : World) (hi c : Nat) (a : Option Addr) (xs : List IncludesD) (role : Int) (h : RowIncludes w hi (.slice a xs.length c) xs) (hh : hi ≤ w.heap.size) :
    Calls Try.prog 60 #[.slice a xs.length c, .int .i64 role] w fun e w' => ∃ u, e = .returned u ∧ Own 3 .i64 w' w.heap.size w'.heap.size u (Role.underL (Role.prs xs) role) ∧ Below w.heap.size w w' := by
  obtain ⟨f1, f2⟩ := h.fits
  unfold maxLen at f2
  obtain ⟨i1, hi1, hz1, hz2, hz3⟩ := info_parts (show (Try.prog.info? 3).map (fun i => (i.zero, i.size, i.bytes)) = some (some (.int .i64 0), 1, 8) by kernel_rfl)
  obtain ⟨i0, hi0, hy0, hy1, hy2⟩ := info_parts (show (Try.prog.info? 4).map (fun i => (i.zero, i.size, i.bytes)) = some (some (.bool false), 1, 1) by kernel_rfl)
  have H := Lib.hid h
  clear h
  have hE := Own.empty 3 .i64 w
  have hb0 : Below w.heap.size w (w.alloc (.cells #[] 3)) := (Below.refl _ _).alloc (Nat.le_refl _) _
  by_cases hr : Role.inR role = true
  · obtain ⟨q, hq6, rfl⟩ := Role.inR_nat hr
    have hr2 := (Role.inR_iff _).1 hr
    have HL := Lib.hid (fun W => spec_l1In_yes (q : Int) 0 5 W hr2)
    have hw : Role.underL (Role.prs xs) (q : Int) = Role.rolesL (Role.passes (Role.prs xs) 6 (Role.startM (q : Int))) := by unfold Role.underL; rw [if_pos hr]; rfl
    obtain ⟨R, hR⟩ : ∃ R, Role.underL (Role.prs xs) (q : Int) = R := ⟨_, rfl⟩
    have HR := Lib.hid (show R = Role.upTo (Role.passes (Role.prs xs) 6 (Role.startM (q : Int))) 6 by rw [← hR, hw]; rfl)
    rw [hR]
    clear hw hR
    go_enter Try.func60, Try.ntmps60
    go_wp2_with (first | (at_make; refine wpList_make_full _ rfl _ _ 89 rfl (w.heap.size + 1) 4 i0 (.bool false) 1 Try.underlying89 hi0 hy0 hy1 .i64 .i64 6 6 6 rfl rfl rfl rfl (by rw [hy2]; decide) (by decide) (by simp) ?_; intro w1 hown hg; rw [size_alloc] at hown; have hM := made_marks hown; obtain ⟨x0, x1⟩ := at_marks hM q hq6) | (go_at_call 27; refine (HL.out _).mono ?_; rintro e w' ⟨rfl, rfl⟩))
    have hb1 : Below (w.heap.size + 1) (w.alloc (.cells #[] 3)) w1 := by have := (Below.refl (w.alloc (.cells #[] 3)).heap.size (w.alloc (.cells #[] 3))).grown hg (Nat.le_refl _) (fun k h => by cases h); rwa [size_alloc] at this
    have HS := Lib.hid (show OutM 3 4 w w1 w.heap.size (w.heap.size + 1) (.slice (some ⟨w.heap.size, 0, none⟩) 0 0) [] Role.noM from
      ⟨(hE.below hb1 (Nat.le_refl _)).wide (Nat.le_refl _) (by have := hb1.size; rw [size_alloc] at this; omega), fun e => by simp [Value.ownBlock] at e, hM, hb0.trans (hb1.mono (by omega))⟩)
    have HS2 := Lib.hid (HS.out.set (by omega) q hq6)
    rw [Role.startM_with _ hr] at HS2
    generalize w1.setCell ⟨w.heap.size + 1, q, none⟩ (.bool true) = w2 at HS2 ⊢
    clear hown hg hM x0 x1 hb1 HS hE hb0 HL hr hr2
    clear w1
    go_loopw [7] (fun i wr => ∃ n : Nat, n ≤ 6 ∧ i = .int .i64 (n : Int) ∧ Hid (OutM 3 4 w wr w.heap.size (w.heap.size + 1) (.slice (some ⟨w.heap.size, 0, none⟩) 0 0) [] (Role.passes (Role.prs xs) n (Role.startM (q : Int))))) (fun i _ => 6 - (intOf i).toNat)
    case atStart => exact ⟨0, Nat.zero_le _, rfl, HS2⟩
    case round =>
      clear HS2 w2
      obtain ⟨n, hn, rfl, HO⟩ := hrel
      have HPN := Lib.hid (Role.passes_succ (Role.prs xs) n (Role.startM (q : Int)))
      by_cases hlt : n < 6
      · generalize Role.passes (Role.prs xs) n (Role.startM (q : Int)) = M at HO HPN
        go_wp2
        generalize decide ((n : Int) ≤ 5) = d5
        go_loopw [8] (fun i wr => ∃ k : Nat, k ≤ xs.length ∧ i = .int .i64 (k : Int) ∧ Hid (OutM 3 4 w wr w.heap.size (w.heap.size + 1) (.slice (some ⟨w.heap.size, 0, none⟩) 0 0) [] (Role.passTo (Role.prs xs) M k))) (fun i _ => xs.length - (intOf i).toNat)
        case atStart => exact ⟨0, Nat.zero_le _, rfl, HO⟩
        case round =>
          clear HO
          obtain ⟨k, hk, rfl, HO⟩ := hrel
          by_cases hlk : k < xs.length
          · obtain ⟨x, hx⟩ : ∃ x, xs[k]? = some x := ⟨_, List.getElem?_eq_getElem hlk⟩
            have HS := Lib.hid (Role.passTo_succ M hx)
            generalize Role.passTo (Role.prs xs) M k = N at HO HS
            obtain ⟨p0, p1⟩ := x
            obtain ⟨b, off, rfl, r1, r2, HC⟩ := H.out.at hx
            obtain ⟨c0, c1⟩ := HC _ _ (Nat.lt_of_lt_of_le r1 hh) HO.out.below
            clear HC hx
            by_cases g0 : Role.inR p0 = true
            · obtain ⟨i0, hi6, rfl⟩ := Role.inR_nat g0
              have HL0 := Lib.hid (fun W => spec_l1In_yes (i0 : Int) 0 5 W ((Role.inR_iff _).1 g0))
              by_cases g1 : Role.inR p1 = true
              · obtain ⟨j0, hj6, rfl⟩ := Role.inR_nat g1
                have HL1 := Lib.hid (fun W => spec_l1In_yes (j0 : Int) 0 5 W ((Role.inR_iff _).1 g1))
                obtain ⟨x0, -⟩ := at_marks HO.out.blk i0 hi6
                obtain ⟨y0, y1⟩ := at_marks HO.out.blk j0 hj6
                cases hm : N (i0 : Int)
                · rw [hm] at x0
                  have HF := Lib.hid (Role.markOne_no (m := N) (g := (i0 : Int)) (b := (j0 : Int)) (by rw [hm]; simp))
                  clear hm g0 g1
                  go_wp2_with (first | (go_at_call 27; (with_reducible refine (HL0.out _).mono ?_); rintro e w' ⟨rfl, rfl⟩) | (go_at_call 27; (with_reducible refine (HL1.out _).mono ?_); rintro e w' ⟨rfl, rfl⟩))
                  exact ⟨⟨k + 1, by omega, by go_num, by rw [HS.out, HF.out]; exact HO⟩, by simp only [intOf]; omega⟩
                · rw [hm] at x0
                  have HF := Lib.hid (Role.markOne_yes (m := N) g0 g1 hm)
                  have HO2 := Lib.hid (HO.out.set (by omega) j0 hj6)
                  clear hm g0 g1
                  go_wp2_with (first | (go_at_call 27; (with_reducible refine (HL0.out _).mono ?_); rintro e w' ⟨rfl, rfl⟩) | (go_at_call 27; (with_reducible refine (HL1.out _).mono ?_); rintro e w' ⟨rfl, rfl⟩))
                  exact ⟨⟨k + 1, by omega, by go_num, by rw [HS.out, HF.out]; exact HO2⟩, by simp only [intOf]; omega⟩
              · have HL1 := Lib.hid (fun W => spec_l1In_no p1 0 5 W (fun h => g1 ((Role.inR_iff _).2 h)))
                have HF := Lib.hid (Role.markOne_no (m := N) (g := (i0 : Int)) (b := p1) (by rw [g0, eq_false_of_ne_true g1]; rfl))
                clear g0 g1
                go_wp2_with (first | (go_at_call 27; (with_reducible refine (HL0.out _).mono ?_); rintro e w' ⟨rfl, rfl⟩) | (go_at_call 27; (with_reducible refine (HL1.out _).mono ?_); rintro e w' ⟨rfl, rfl⟩))
                exact ⟨⟨k + 1, by omega, by go_num, by rw [HS.out, HF.out]; exact HO⟩, by simp only [intOf]; omega⟩
            · have HL0 := Lib.hid (fun W => spec_l1In_no p0 0 5 W (fun h => g0 ((Role.inR_iff _).2 h)))
              have HF := Lib.hid (Role.markOne_no (m := N) (g := p0) (b := p1) (by rw [eq_false_of_ne_true g0]; rfl))
              clear g0
              go_wp2_with (go_at_call 27; (with_reducible refine (HL0.out _).mono ?_); rintro e w' ⟨rfl, rfl⟩)
              exact ⟨⟨k + 1, by omega, by go_num, by rw [HS.out, HF.out]; exact HO⟩, by simp only [intOf]; omega⟩
          · obtain rfl : k = xs.length := by omega
            go_wp2
            refine ⟨⟨n + 1, by omega, by go_num, ?_⟩, by simp only [intOf]; omega⟩
            rw [HPN.out, ← Role.passTo_all]
            exact HO
      · obtain h6 : n = 6 := by omega
        replace HR := Lib.hid (show R = Role.upTo (Role.passes (Role.prs xs) n (Role.startM (q : Int))) 6 by rw [h6]; exact HR.out)
        clear HPN h6
        generalize Role.passes (Role.prs xs) n (Role.startM (q : Int)) = M at HO HR
        go_wp2
        generalize decide ((n : Int) ≤ 5) = d5
        go_loopw [5, 9] (fun v i wr => ∃ k : Nat, k ≤ 6 ∧ i = .int .i64 (k : Int) ∧ Hid (OutM 3 4 w wr w.heap.size (w.heap.size + 1) v (Role.upTo M k) M)) (fun _ i _ => 6 - (intOf i).toNat)
        case atStart => exact ⟨0, Nat.zero_le _, rfl, HO⟩
        case round =>
          clear HO
          obtain ⟨k, hk, rfl, HO⟩ := hrel
          by_cases hlk : k < 6
          · obtain ⟨x0, -⟩ := at_marks HO.out.blk k hlk
            have HT := Lib.hid (Role.upTo_succ M k hlk)
            cases hm : M (k : Int)
            · have HT2 := Lib.hid (show Role.upTo M (k + 1) = Role.upTo M k by rw [HT.out, hm]; exact List.append_nil _)
              rw [hm] at x0
              clear hm HT
              go_wp2
              refine ⟨⟨k + 1, by omega, by go_num, ?_⟩, by simp only [intOf]; omega⟩
              rw [HT2.out]
              exact HO
            · have HT2 := Lib.hid (show Role.upTo M (k + 1) = Role.upTo M k ++ [(k : Int)] by rw [HT.out, hm]; rfl)
              rw [hm] at x0
              have HA := Lib.hid (HO.out.alloc (Nat.le_refl _) (.cells #[.int .i64 (k : Int)] 3))
              have hl := Role.upTo_len M k
              have hs := HA.out.below.size
              clear hm HT
              go_wp2_with (at_builtin; refine wpList_append_one rfl _ _ _ rfl 3 i1 (.int .i64 0) 8 Try.underlying82 hi1 hz1 hz2 hz3 rfl w.heap.size _ _ _ rfl HA.out.own wr (k : Int) 3 rfl rfl (by omega) (by decide) hs ?_; intro v' w' q1 q2 q3)
              refine ⟨⟨k + 1, by omega, by go_num, ?_⟩, by simp only [intOf]; omega⟩
              rw [HT2.out]
              exact Lib.hid (HA.out.app (Nat.le_refl _) q1 (six_wf fun x hx => by
                rcases List.mem_append.1 hx with hx | hx
                · exact upTo_in hx
                · rw [List.mem_singleton.1 hx]
                  exact Role.inR_of k hlk) q2 q3)
          · obtain h6 : k = 6 := by omega
            have HO2 := Lib.hid (show Own 3 .i64 wr w.heap.size wr.heap.size u5 R by rw [HR.out]; have h7 := HO.out.own; rwa [h6] at h7)
            go_wp2
            go_ret
            exact ⟨_, rfl, HO2.out, HO.out.below⟩
  · have HL := Lib.hid (fun W => spec_l1In_no role 0 5 W (fun h => hr ((Role.inR_iff _).2 h)))
    have hw : Role.underL (Role.prs xs) role = [] := by unfold Role.underL; rw [if_neg hr]
    rw [hw]
    clear hw hr
    go_enter Try.func60, Try.ntmps60
    go_wp2_with (go_at_call 27; refine (HL.out _).mono ?_; rintro e w' ⟨rfl, rfl⟩)
    go_ret
    exact ⟨_, rfl, hE.wide (Nat.le_refl _) (by rw [size_alloc]; exact Nat.le_refl _), hb0⟩
end Go.Proofs.Ytmgigjpkpeamjaa
