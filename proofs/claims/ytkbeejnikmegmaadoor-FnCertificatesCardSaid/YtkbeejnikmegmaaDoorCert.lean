/- Certificates (chapter 10): mathematics, and contracts of the model. No condition but the bounds of what came in. -/
import Derived.Test.YtkbeejnikmegmaaDoorCertT
import Derived.Test.YtkbeejnikmegmaaDoorTimes
import Derived.Test.YtkbeejnikmegmaaDoorNames
import Derived.Test.YtkbeejnikmegmaaDoorNames2
import Derived.Test.YtkbeejnikmegmaaDoorHash2
import Derived.Test.YtkbeejnikmegmaaDoorLit
import Derived.Test.YtkbeejnikmegmaaDoorBlk
import Derived.Test.YtkbeejnikmegmaaDoorCellS
import Derived.Deep.DeepCutAuto
import Derived.Outline
namespace Go.Proofs.YtkbeejnikmegmaaDoor
open Go.ChangeShapes Go.WideShapes Go.ChangeAt Go.RowKit
set_option linter.unusedVariables false

def certP (x : CertD) : Prop := (1 ≤ x.Serial ∧ x.Serial ≤ 9999) ∧ isN x.Subject ∧ (1 ≤ x.Key ∧ x.Key ≤ 2147483646) ∧ isT x.From ∧ isT x.Until ∧ x.From ≤ x.Until ∧ x.Until - x.From ≤ 50
instance (x : CertD) : Decidable (certP x) := by unfold certP isN isT; infer_instance
def certB (x : CertD) : Bool := decide (certP x)
theorem certB_iff (x : CertD) : certB x = true ↔ certP x := decide_eq_true_iff
def certL (x : CertD) : List Int := [x.Serial, x.Subject, x.Key, x.From, x.Until]
theorem certL_wf {x : CertD} (h : x.wf) : ∀ y ∈ certL x, (Lit.int .i64 y).wf = true := by
  obtain ⟨h0, h1, h2, h3, h4, h5⟩ := h
  intro y hy
  simp only [certL, List.mem_cons, List.not_mem_nil, or_false] at hy
  rcases hy with rfl | rfl | rfl | rfl | rfl <;> assumption
def markC (s : Int) (x : CertD) : CertD := ⟨x.Serial, x.Subject, x.Key, x.From, x.Until, keyed s (certL x)⟩
def checkC (s : Int) (x : CertD) (now : Int) : Bool := certB x && (withinOf x.From x.Until now && (keyed s (certL x) == x.Mark))
def proveC (k n : Int) : Int := keyed k [n]
def provedC (s : Int) (x : CertD) (n a now : Int) : Bool := checkC s x now && (a == proveC x.Key n)
def newC (n p k f sp : Int) : CertD := ⟨n, p, k, f, endOf f sp, 0⟩
def okIssue (s n p k f sp : Int) : Bool := validKey s && (decide (0 ≤ sp) && certB (newC n p k f sp))
def issueC (s n p k f sp : Int) : CertD := if okIssue s n p k f sp then markC s (newC n p k f sp) else ⟨0, 0, 0, 0, 0, 0⟩
set_option maxHeartbeats 4000000 in
theorem spec_isCert (x : CertD) (w : World) : Calls Tryd.prog 23 #[x.val] w fun e w' => e = .returned (.bool (certB x)) ∧ Below w.heap.size w w' := by
  obtain ⟨n, p, k, f, u, m⟩ := x
  rw [CertD.val_mk]
  go_enter Tryd.func23, Tryd.ntmps23
  go_wp2_with (first
    | (go_at_call 41; (with_reducible refine (spec_l1In _ _ _ _).mono ?_); rintro e w' ⟨rfl, rfl⟩)
    | (go_at_call 42; (with_reducible refine (spec_isName _ _).mono ?_); rintro e w' ⟨rfl, rfl⟩)
    | (go_at_call 22; (with_reducible refine (spec_valid _ _).mono ?_); rintro e w' ⟨rfl, rfl⟩)
    | (go_at_call 39; (with_reducible refine (spec_isTime _ _).mono ?_); rintro e w' ⟨rfl, rfl⟩))
  all_goals
    go_ret
    refine ⟨ret_b ?_, by go_grown⟩
    rw [Bool.eq_iff_iff]
    simp only [certB_iff, certP, isN, isT, wrap64, decide_eq_true_eq, Bool.false_eq_true, false_iff] at *
    omega
set_option maxHeartbeats 2000000 in
theorem spec_markCert (s : Int) (x : CertD) (w : World) (hs : (Lit.int .i64 s).wf = true) (hx : x.wf) : Calls Tryd.prog 20 #[.int .i64 s, x.val] w fun e w' => e = .returned (markC s x).val ∧ Below w.heap.size w w' := by
  obtain ⟨n, p, k, f, u, m⟩ := x
  have HR := Lib.hid (fun (W : World) => (Own.lit 3 W (certL ⟨n, p, k, f, u, m⟩) (certL_wf hx) (by show 5 ≤ maxLen; decide)).read)
  have CK := Lib.hid (fun (W : World) (hi : Nat) (v : Value) (h : Row .i64 W hi v [n, p, k, f, u]) (hh : hi ≤ W.heap.size) => spec_keyed W hi s v [n, p, k, f, u] hs h hh (by simp))
  clear hx
  show Calls _ _ _ _ fun e w' => e = .returned (CertD.val ⟨n, p, k, f, u, keyed s [n, p, k, f, u]⟩) ∧ _
  generalize keyed s [n, p, k, f, u] = q at CK
  rw [CertD.val_mk, CertD.val_mk]
  go_enter Tryd.func20, Tryd.ntmps20
  go_wp2_with fail
  obtain ⟨W1, hW1⟩ : ∃ W1, W1 = (w.alloc (.cells #[.int .i64 n, .int .i64 p, .int .i64 k, .int .i64 f, .int .i64 u, .int .i64 m] 27)).alloc (.cells #[.int .i64 0, .int .i64 0, .int .i64 0, .int .i64 0, .int .i64 0, .int .i64 0] 27) := ⟨_, rfl⟩
  rw [← hW1]
  have b1 : Below w.heap.size w W1 := by rw [hW1]; go_grown
  have z1 : W1.heap.size = w.heap.size + 1 + 1 := by rw [hW1]; simp
  have hR := HR.out W1
  rw [z1] at hR
  have k0 : W1.heap[w.heap.size]? = some (.cells #[.int .i64 n, .int .i64 p, .int .i64 k, .int .i64 f, .int .i64 u, .int .i64 m] 27) := by rw [hW1]; exact blk_keep (C := w.heap.size + 1) (blk_new _ _ _) (by go_grown) (by omega)
  have k1 : W1.heap[w.heap.size + 1]? = some (.cells #[.int .i64 0, .int .i64 0, .int .i64 0, .int .i64 0, .int .i64 0, .int .i64 0] 27) := by rw [hW1]; exact blk_new_at _ _ (by simp)
  clear hW1
  refine (CK.out _ _ _ hR (by simp [z1])).mono ?_
  rintro e w2 ⟨rfl, b2⟩
  have b12 := ((Below.refl W1.heap.size W1).alloc (Nat.le_refl _) _).trans (b2.mono (by simp))
  have k0' := blk_keep k0 b12 (by omega)
  have k1' := blk_keep k1 b12 (by omega)
  have B2 := b1.trans (b12.mono (by omega))
  clear k0 k1 b2 hR HR CK b1 b12
  have T1 : Touch [w.heap.size] w2 (w2.setCell ⟨w.heap.size, 5, none⟩ (.int .i64 q)) := Touch.set (List.mem_singleton.2 rfl) _ _ _
  have k2 := (T1.block _ (blk_lt k1') (by simp)).trans k1'
  have B3 := B2.trans (T1.below (B := w.heap.size) (fun k hk => by rw [List.mem_singleton] at hk; omega) B2.size)
  obtain ⟨hE, tE⟩ := stt_6 k2 (.int .i64 n) (.int .i64 p) (.int .i64 k) (.int .i64 f) (.int .i64 u) (.int .i64 q)
  have B4 := B3.trans (tE.below (B := w.heap.size) (fun k hk => by rw [List.mem_singleton] at hk; omega) B3.size)
  have HE := Lib.hid (cls_6 hE).1
  have HB := Lib.hid B4
  clear k2 B3 tE hE T1 B2 B4
  obtain ⟨⟨c0, c1, c2, c3, c4, c5⟩, -, -, -, -, -, f5⟩ := cls_6 k0'
  obtain ⟨⟨d0, d1, d2, d3, d4, d5⟩, g0, g1, g2, g3, g4, g5⟩ := cls_6 k1'
  clear k0' k1'
  go_wp2
  obtain ⟨e0, e1, e2, e3, e4, e5⟩ := HE.out
  have B4 := HB.out
  generalize hV : World.setCell _ _ _ = V at e0 e1 e2 e3 e4 e5 B4 ⊢
  exact bodyPost_ret (v := .agg #[.int .i64 n, .int .i64 p, .int .i64 k, .int .i64 f, .int .i64 u, .int .i64 q]) (by simp [results, Tryd.results20, go_sem, e0, e1, e2, e3, e4, e5]) rfl ⟨rfl, B4⟩
/-- MarkCert's contract at a struct's value. -/
def MarkAt (P : Program) (F : Nat) (s : Int) (x : CertD) : Prop := ∀ W, Calls P F #[.int .i64 s, x.val] W fun e w' => e = .returned (markC s x).val ∧ Below W.heap.size W w'
theorem endOf_wf (f s : Int) : (Lit.int .i64 (endOf f s)).wf = true := by
  unfold endOf isT
  split
  · split <;> exact wf_i64 (by omega) (by omega)
  · exact wf_i64 (by decide) (by decide)
theorem wf_zero : (Lit.int .i64 0).wf = true := by decide
set_option maxHeartbeats 2000000 in
theorem spec_issueCert (s n p k f sp : Int) (w : World) (hs : (Lit.int .i64 s).wf = true) (hn : (Lit.int .i64 n).wf = true) (hp : (Lit.int .i64 p).wf = true) (hk : (Lit.int .i64 k).wf = true) (hf : (Lit.int .i64 f).wf = true) :
    Calls Tryd.prog 7 #[.int .i64 s, .int .i64 n, .int .i64 p, .int .i64 k, .int .i64 f, .int .i64 sp] w fun e w' => e = .returned (.tuple #[(issueC s n p k f sp).val, .bool (okIssue s n p k f sp)]) ∧ Below w.heap.size w w' := by
  obtain ⟨q, hq⟩ : ∃ q, endOf f sp = q := ⟨_, rfl⟩
  have hqw := endOf_wf f sp
  rw [hq] at hqw
  have CE := Lib.hid (fun W => show Calls Tryd.prog 21 #[.int .i64 f, .int .i64 sp] W fun e w' => e = .returned (.int .i64 q) ∧ W = w' from hq ▸ spec_end f sp W)
  have CM := Lib.hid (fun W => spec_markCert s ⟨n, p, k, f, q, 0⟩ W hs ⟨hn, hp, hk, hf, hqw, wf_zero⟩)
  have CI := Lib.hid (fun m W => (spec_isCert ⟨n, p, k, f, q, m⟩ W))
  have HI : ∀ m, certB ⟨n, p, k, f, q, m⟩ = certB ⟨n, p, k, f, q, 0⟩ := fun m => rfl
  simp only [HI] at CI
  have hok : okIssue s n p k f sp = (validKey s && (decide (0 ≤ sp) && certB ⟨n, p, k, f, q, 0⟩)) := by unfold okIssue newC; rw [hq]
  have his : issueC s n p k f sp = if (validKey s && (decide (0 ≤ sp) && certB ⟨n, p, k, f, q, 0⟩)) then ⟨n, p, k, f, q, keyed s [n, p, k, f, q]⟩ else ⟨0, 0, 0, 0, 0, 0⟩ := by unfold issueC; rw [hok]; unfold newC; rw [hq]; rfl
  rw [his, hok]
  generalize certB ⟨n, p, k, f, q, 0⟩ = cb at CI ⊢
  simp only [markC, certL] at CM
  generalize keyed s [n, p, k, f, q] = m at CM ⊢
  clear hq hqw his hok HI hs hn hp hk hf
  simp only [CertD.val_mk] at CM CI
  obtain ⟨R, hR⟩ : ∃ R : Value, Value.tuple #[(if (validKey s && (decide (0 ≤ sp) && cb)) then (⟨n, p, k, f, q, m⟩ : CertD) else ⟨0, 0, 0, 0, 0, 0⟩).val, .bool (validKey s && (decide (0 ≤ sp) && cb))] = R := ⟨_, rfl⟩
  rw [hR]
  have HR := Lib.hid hR
  clear hR
  go_enter Tryd.func7, Tryd.ntmps7
  go_wp2_with fail
  refine (CE.out _).mono ?_
  rintro e w' ⟨rfl, rfl⟩
  go_wp2_with fail
  refine (CM.out _).mono ?_
  rintro e w1 ⟨rfl, b1⟩
  have k0 := blk_keep (blk_new w 27 #[.int .i64 0, .int .i64 0, .int .i64 0, .int .i64 0, .int .i64 0, .int .i64 0]) b1 (by simp)
  have B1 := (Below.refl w.heap.size w).alloc (Nat.le_refl _) (.cells #[.int .i64 0, .int .i64 0, .int .i64 0, .int .i64 0, .int .i64 0, .int .i64 0] 27)
  replace B1 := B1.trans (b1.mono (by simp))
  have l0 := blk_lt k0
  clear b1 CE CM
  go_upto_region 2 with fail
  obtain ⟨W1, hW1⟩ : ∃ W1, W1 = w1.alloc (.cells #[.int .i64 n, .int .i64 p, .int .i64 k, .int .i64 f, .int .i64 q, .int .i64 m] 27) := ⟨_, rfl⟩
  rw [← hW1]
  have k1 : W1.heap[w.heap.size]? = some (.cells #[.int .i64 0, .int .i64 0, .int .i64 0, .int .i64 0, .int .i64 0, .int .i64 0] 27) := by rw [hW1]; exact blk_keep k0 ((Below.refl w1.heap.size w1).alloc (Nat.le_refl _) _) l0
  have k2 : W1.heap[w1.heap.size]? = some (.cells #[.int .i64 n, .int .i64 p, .int .i64 k, .int .i64 f, .int .i64 q, .int .i64 m] 27) := by rw [hW1]; exact blk_new _ _ _
  have B2 : Below w.heap.size w W1 := by rw [hW1]; exact B1.alloc B1.size _
  have hne : w.heap.size ≠ w1.heap.size := by omega
  generalize w1.heap.size = g at k2 hne ⊢
  clear hW1 B1 k0 l0
  obtain ⟨⟨c0, c1, c2, c3, c4, c5⟩, -⟩ := cls_6 k2
  go_wp2_with fail
  refine (spec_valid _ _).mono ?_
  rintro e w' ⟨rfl, rfl⟩
  rw [show decide (1 ≤ s ∧ s ≤ 2147483646) = validKey s from rfl]
  cases hv : validKey s
  · have HV := Lib.hid hv
    clear c0 c1 c2 c3 c4 c5 hv
    obtain ⟨⟨d0, d1, d2, d3, d4, d5⟩, g0, g1, g2, g3, g4, g5⟩ := cls_6 k1
    obtain ⟨hE, tE⟩ := stt_6 k1 (.int .i64 0) (.int .i64 0) (.int .i64 0) (.int .i64 0) (.int .i64 0) (.int .i64 0)
    have HE := Lib.hid (cls_6 hE).1
    have HB := Lib.hid (B2.trans (tE.below (B := w.heap.size) (fun k hk => by rw [List.mem_singleton] at hk; omega) B2.size))
    clear hE tE
    go_wp2
    obtain ⟨e0, e1, e2, e3, e4, e5⟩ := HE.out
    have B4 := HB.out
    generalize World.setCell _ _ _ = V at e0 e1 e2 e3 e4 e5 B4 ⊢
    exact bodyPost_ret (v := .tuple #[.agg #[.int .i64 0, .int .i64 0, .int .i64 0, .int .i64 0, .int .i64 0, .int .i64 0], .bool false]) (by simp [results, Tryd.results7, go_sem, e0, e1, e2, e3, e4, e5]) rfl ⟨by rw [← HR.out, HV.out]; rfl, B4⟩
  · have HV := Lib.hid hv
    clear hv
    by_cases hsp : 0 ≤ sp
    · have HP := Lib.hid (decide_eq_true hsp)
      have hlt : decide (sp < 0) = false := decide_eq_false (by omega)
      go_wp2_with fail
      refine (CI.out _ _).mono ?_
      rintro e w3 ⟨rfl, b3⟩
      have k3 := blk_keep k1 b3 (blk_lt k1)
      have k4 := blk_keep k2 b3 (blk_lt k2)
      have B3 := B2.trans (b3.mono B2.size)
      clear c0 c1 c2 c3 c4 c5 k1 k2 B2 b3
      cases hc : cb
      · subst hc
        obtain ⟨⟨d0, d1, d2, d3, d4, d5⟩, g0, g1, g2, g3, g4, g5⟩ := cls_6 k3
        obtain ⟨hE, tE⟩ := stt_6 k3 (.int .i64 0) (.int .i64 0) (.int .i64 0) (.int .i64 0) (.int .i64 0) (.int .i64 0)
        have HE := Lib.hid (cls_6 hE).1
        have HB := Lib.hid (B3.trans (tE.below (B := w.heap.size) (fun k hk => by rw [List.mem_singleton] at hk; omega) B3.size))
        clear hE tE
        go_wp2
        obtain ⟨e0, e1, e2, e3, e4, e5⟩ := HE.out
        have B4 := HB.out
        generalize World.setCell _ _ _ = V at e0 e1 e2 e3 e4 e5 B4 ⊢
        exact bodyPost_ret (v := .tuple #[.agg #[.int .i64 0, .int .i64 0, .int .i64 0, .int .i64 0, .int .i64 0, .int .i64 0], .bool false]) (by simp [results, Tryd.results7, go_sem, e0, e1, e2, e3, e4, e5]) rfl ⟨by rw [← HR.out, HV.out, HP.out]; rfl, B4⟩
      · subst hc
        obtain ⟨⟨c0, c1, c2, c3, c4, c5⟩, -⟩ := cls_6 k4
        obtain ⟨⟨d0, d1, d2, d3, d4, d5⟩, g0, g1, g2, g3, g4, g5⟩ := cls_6 k3
        obtain ⟨hE, tE⟩ := stt_6 k3 (.int .i64 n) (.int .i64 p) (.int .i64 k) (.int .i64 f) (.int .i64 q) (.int .i64 m)
        have HE := Lib.hid (cls_6 hE).1
        have HB := Lib.hid (B3.trans (tE.below (B := w.heap.size) (fun k hk => by rw [List.mem_singleton] at hk; omega) B3.size))
        clear hE tE
        go_wp2
        obtain ⟨e0, e1, e2, e3, e4, e5⟩ := HE.out
        have B4 := HB.out
        generalize World.setCell _ _ _ = V at e0 e1 e2 e3 e4 e5 B4 ⊢
        exact bodyPost_ret (v := .tuple #[.agg #[.int .i64 n, .int .i64 p, .int .i64 k, .int .i64 f, .int .i64 q, .int .i64 m], .bool true]) (by simp [results, Tryd.results7, go_sem, e0, e1, e2, e3, e4, e5]) rfl ⟨by rw [← HR.out, HV.out, HP.out]; rfl, B4⟩
    · have HP := Lib.hid (decide_eq_false hsp)
      have hlt : decide (sp < 0) = true := decide_eq_true (by omega)
      clear c0 c1 c2 c3 c4 c5
      obtain ⟨⟨d0, d1, d2, d3, d4, d5⟩, g0, g1, g2, g3, g4, g5⟩ := cls_6 k1
      obtain ⟨hE, tE⟩ := stt_6 k1 (.int .i64 0) (.int .i64 0) (.int .i64 0) (.int .i64 0) (.int .i64 0) (.int .i64 0)
      have HE := Lib.hid (cls_6 hE).1
      have HB := Lib.hid (B2.trans (tE.below (B := w.heap.size) (fun k hk => by rw [List.mem_singleton] at hk; omega) B2.size))
      clear hE tE
      go_wp2
      obtain ⟨e0, e1, e2, e3, e4, e5⟩ := HE.out
      have B4 := HB.out
      generalize World.setCell _ _ _ = V at e0 e1 e2 e3 e4 e5 B4 ⊢
      exact bodyPost_ret (v := .tuple #[.agg #[.int .i64 0, .int .i64 0, .int .i64 0, .int .i64 0, .int .i64 0, .int .i64 0], .bool false]) (by simp [results, Tryd.results7, go_sem, e0, e1, e2, e3, e4, e5]) rfl ⟨by rw [← HR.out, HV.out, HP.out]; rfl, B4⟩
end Go.Proofs.YtkbeejnikmegmaaDoor
