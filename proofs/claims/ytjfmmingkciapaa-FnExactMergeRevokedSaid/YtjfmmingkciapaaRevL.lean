/- Revocations (chapter 11): contracts of the landed functions: the place of a number in a list (a method expression handed on, a closure handed to sort.Search), and what a list knows of another. Condition: the numbers are integers of their type. -/
import Derived.Test.YtjfmmingkciapaaRevK
import Derived.BigQuiet
import Derived.Deep.QuietTactic
import Derived.LoopTactic
import Derived.Deep.RegionHeld3
namespace Go.Proofs.Ytjfmmingkciapaa
open Go.ChangeShapes Go.WideShapes Go.ChangeAt Go.RowKit Go.Maps
set_option linter.unusedVariables false

def beforeR (x y : RevokedD) : Bool := decide (x.Serial < y.Serial)
theorem impl_isBefore (x y : RevokedD) (w : World) : Calls Try.prog 122 #[x.val, y.val] w fun e w' => e = .returned (.bool (beforeR x y)) ∧ Below w.heap.size w w' := by
  obtain ⟨p0, p1⟩ := x
  obtain ⟨q0, q1⟩ := y
  rw [RevokedD.val_mk, RevokedD.val_mk]
  go_enter Try.func122, Try.ntmps122
  go_wp2
  go_ret
  exact ⟨ret_b (by simp [beforeR]), by go_grown⟩
theorem knowsB_at {ys : List RevokedD} {k : Nat} {x : RevokedD} (h : ys[k]? = some x) (xs : List RevokedD) : knowsB xs (ys.drop k) = (revokedB xs x.Serial x.At && knowsB xs (ys.drop (k + 1))) := by
  rw [drop_at h]
  rfl
set_option maxHeartbeats 4000000 in
theorem impl_knowsMore (w : World) (hi hi' c c' : Nat) (a a' : Option Addr) (xs ys : List RevokedD) (h : RowRevoked w hi (.slice a xs.length c) xs) (h' : RowRevoked w hi' (.slice a' ys.length c') ys) (hh : hi ≤ w.heap.size) (hh' : hi' ≤ w.heap.size) (hwf : ∀ x ∈ xs, x.wf) (hwf' : ∀ x ∈ ys, x.wf) :
    Calls Try.prog 24 #[.slice a xs.length c, .slice a' ys.length c'] w fun e w' => e = .returned (.bool (knowsB xs ys)) ∧ Below w.heap.size w w' := by
  obtain ⟨h1, h2⟩ := h'.fits
  unfold maxLen at h2
  have H := Lib.hid h'
  have CR := Lib.hid (impl_revocationsOf w hi c a xs h hh hwf)
  have CT := Lib.hid (fun (W : World) (b : Nat) (s n : Int) (hd : HasDir W b xs) (hb : Below w.heap.size w W) => impl_isRevokedM W b hi c a xs s n hd (h.below hb hh) (Nat.le_trans hh hb.size) hwf)
  have HWF := Lib.hid hwf'
  clear h h' hwf hwf'
  obtain ⟨R, hR⟩ : ∃ R, knowsB xs ys = R := ⟨_, rfl⟩
  rw [hR]
  have HR := Lib.hid hR
  clear hR
  go_enter Try.func24, Try.ntmps24
  go_wp2_with fail
  refine CR.out.mono ?_
  rintro e u ⟨b0, rfl, hb0, hd, b1⟩
  obtain ⟨W, hW⟩ : ∃ W, u.alloc (.cells #[.map (some b0), .slice a xs.length c] 95) = W := ⟨_, rfl⟩
  have b2 : Below u.heap.size u W := by rw [← hW]; exact (Below.refl _ _).alloc (Nat.le_refl _) _
  have hk : W.heap[u.heap.size]? = some (.cells #[.map (some b0), .slice a xs.length c] 95) := by rw [← hW]; exact blk_new _ _ _
  have hdW := hd.below b2 hd.lt
  have HD := Lib.hid hdW
  have HK := Lib.hid hk
  have hb := b1.trans (b2.mono b1.size)
  have hsu := b1.size
  have hsW := blk_lt hk
  clear hk hd hdW CR
  go_upto_region 2 with fail
  try rw [hW]
  clear hW
  go_wp2
  go_loopw [12] (fun i wr => ∃ k : Nat, k ≤ ys.length ∧ i = .int .i64 (k : Int) ∧ Hid (R = knowsB xs (ys.drop k)) ∧ Below W.heap.size W wr) (fun i _ => ys.length - (intOf i).toNat)
  case atStart => exact ⟨0, Nat.zero_le _, rfl, Lib.hid HR.out.symm, Below.refl _ _⟩
  case round =>
    obtain ⟨k, hk, rfl, HI, hbr⟩ := hrel
    have hbw := hb.trans (hbr.mono hb.size)
    by_cases hlt : k < ys.length
    · obtain ⟨x, hx⟩ : ∃ x, ys[k]? = some x := ⟨_, List.getElem?_eq_getElem hlt⟩
      have HA := Lib.hid (knowsB_at hx xs)
      have hxw := HWF.out x (List.mem_of_getElem? hx)
      obtain ⟨p0, p1⟩ := x
      dsimp only at HA
      obtain ⟨b, off, rfl, g1, g2, HCY⟩ := H.out.at hx
      obtain ⟨c0, c1⟩ := HCY _ _ g2 hbw
      obtain ⟨W1, hW1⟩ : ∃ W1, wr.alloc (.cells #[.int .i64 p0, .int .i64 p1] 99) = W1 := ⟨_, rfl⟩
      have b3 : Below wr.heap.size wr W1 := by rw [← hW1]; exact (Below.refl _ _).alloc (Nat.le_refl _) _
      have hk1 : W1.heap[wr.heap.size]? = some (.cells #[.int .i64 p0, .int .i64 p1] 99) := by rw [← hW1]; exact blk_new _ _ _
      have e1 := hbr.trans (b3.mono hbr.size)
      have hbw1 := hb.trans (e1.mono hb.size)
      have hCC := CT.out W1 b0 p0 p1 (HD.out.below e1 HD.out.lt) hbw1 hxw.1 hxw.2
      obtain ⟨⟨z0, z1⟩, -⟩ := cls_2 (blk_keep HK.out e1 hsW)
      obtain ⟨⟨y0, y1⟩, -⟩ := cls_2 hk1
      obtain ⟨rv, hrv⟩ : ∃ rv, revokedB xs p0 p1 = rv := ⟨_, rfl⟩
      rw [hrv] at HA hCC
      have HCC := Lib.hid hCC
      clear hrv HCY hx hk1 hxw hCC
      cases rv
      · have HF := Lib.hid (show R = false by rw [HI.out, HA.out]; rfl)
        go_wp2_with (go_at_call 79; refine HCC.out.mono ?_; rintro e u2 ⟨rfl, b4⟩)
        go_ret
        exact ⟨ret_b HF.out.symm, hbw1.trans (b4.mono hbw1.size)⟩
      · have HF := Lib.hid (show R = knowsB xs (ys.drop (k + 1)) by rw [HI.out, HA.out]; rfl)
        go_wp2_with (go_at_call 79; refine HCC.out.mono ?_; rintro e u2 ⟨rfl, b4⟩)
        exact ⟨⟨k + 1, by omega, by go_num, HF, e1.trans (b4.mono e1.size)⟩, by simp only [intOf]; omega⟩
    · obtain rfl : k = ys.length := by omega
      have HF := Lib.hid (show R = true by rw [HI.out, List.drop_of_length_le (Nat.le_refl _)]; rfl)
      go_wp2
      go_ret
      exact ⟨ret_b HF.out.symm, hbw⟩
/-- What the closure has captured: the store, the fact, and the order. -/
structure Sought (w : World) (n : Nat) (u : Value) (f : RevokedD) : Prop where
  l : w.cell? ⟨n, 0, none⟩ = some u
  x0 : w.cell? ⟨n + 1, 0, none⟩ = some (.int .i64 f.Serial)
  x1 : w.cell? ⟨n + 1, 1, none⟩ = some (.int .i64 f.At)
  b : w.cell? ⟨n + 2, 0, none⟩ = some (.func (.func 122) #[] #[])
  lt : n + 2 < w.heap.size
theorem Sought.below {w w' : World} {n : Nat} {u : Value} {f : RevokedD} {B : Nat} (h : Sought w n u f) (hb : Below B w w') (hB : n + 2 < B) : Sought w' n u f :=
  ⟨(hb.cell (by show n < B; omega)).trans h.l, (hb.cell (by show n + 1 < B; omega)).trans h.x0, (hb.cell (by show n + 1 < B; omega)).trans h.x1, (hb.cell (by show n + 2 < B; omega)).trans h.b, Nat.lt_of_lt_of_le h.lt hb.size⟩
set_option maxHeartbeats 4000000 in
theorem impl_notBefore (w : World) (hi c n i : Nat) (a : Option Addr) (xs : List RevokedD) (f : RevokedD) (h : RowRevoked w hi (.slice a xs.length c) xs) (hS : Sought w n (.slice a xs.length c) f) (hlt : i < xs.length) :
    Calls Try.prog 138 #[.int .i64 (i : Int), .pointer (some ⟨n + 2, 0, none⟩), .pointer (some ⟨n, 0, none⟩), .pointer (some ⟨n + 1, 0, none⟩)] w fun e w' => e = .returned (.bool (!beforeR xs[i] f)) ∧ Below w.heap.size w w' := by
  obtain ⟨h1, h2⟩ := h.fits
  unfold maxLen at h2
  obtain ⟨x, hx'⟩ : ∃ x, xs[i] = x := ⟨_, rfl⟩
  have hx : xs[i]? = some x := by rw [List.getElem?_eq_getElem hlt, hx']
  obtain ⟨r, hr⟩ : ∃ r, beforeR x f = r := ⟨_, rfl⟩
  rw [hx', hr]
  have HE := Lib.hid (fun W => show Calls Try.prog 122 #[x.val, f.val] W fun e w' => e = .returned (.bool r) ∧ Below W.heap.size W w' from hr ▸ impl_isBefore x f W)
  clear hr hx'
  obtain ⟨p0, p1⟩ := x
  obtain ⟨q0, q1⟩ := f
  rw [RevokedD.val_mk, RevokedD.val_mk] at HE
  obtain ⟨b, off, rfl, g1, g2, HC⟩ := h.at hx
  have HS2 := Lib.hid (fun (w' : World) (hb' : Below w.heap.size w w') => (⟨⟨hS.below hb' hS.lt, HC _ _ g2 hb'⟩, hb'⟩ : (Sought w' n (.slice (some ⟨b, off, none⟩) xs.length c) ⟨q0, q1⟩ ∧ w'.cell? ⟨b, off + i * 2, none⟩ = some (.int .i64 p0) ∧ w'.cell? ⟨b, off + i * 2 + 1, none⟩ = some (.int .i64 p1)) ∧ Below w.heap.size w w'))
  have hbD := (Below.refl w.heap.size w).drew
  clear h hx HC hS
  go_enter Try.func138, Try.ntmps138
  go_wp2_with fail
  go_region_held3 (fun w' => (w'.cell? ⟨n, 0, none⟩ = some (.slice (some ⟨b, off, none⟩) xs.length c) ∧ w'.cell? ⟨n + 2, 0, none⟩ = some (.func (.func 122) #[] #[]) ∧ w'.cell? ⟨n + 1, 0, none⟩ = some (.int .i64 q0) ∧ w'.cell? ⟨n + 1, 1, none⟩ = some (.int .i64 q1)) ∧ (w'.cell? ⟨b, off + i * 2, none⟩ = some (.int .i64 p0) ∧ w'.cell? ⟨b, off + i * 2 + 1, none⟩ = some (.int .i64 p1)) ∧ Below w.heap.size w w')
    (first | (obtain ⟨⟨⟨y0, y1, y2, y7, _⟩, y8⟩, y9⟩ := HS2.out _ hbD; exact ⟨⟨y0, y7, y1, y2⟩, y8, y9⟩) | (obtain ⟨⟨⟨y0, y1, y2, y7, _⟩, y8⟩, y9⟩ := HS2.out _ (hbD.trans (Below.mono (by assumption) hbD.size)); exact ⟨⟨y0, y7, y1, y2⟩, y8, y9⟩))
    (first | (go_at_call 122; (with_reducible refine (HE.out _).mono ?_); rintro e1 w1 ⟨rfl, b1⟩))
  go_wp2
  go_ret
  exact ⟨rfl, hbD.trans (b1.mono hbD.size)⟩
set_option maxHeartbeats 4000000 in
theorem impl_search (w : World) (m n : Nat) (p : Nat → Bool) (hsz : n ≤ 1048576)
    (hf : ∀ (W : World), Below w.heap.size w W → ∀ i : Nat, i < n → Calls Try.prog 138 (#[.int .i64 (i : Int)] ++ #[.pointer (some ⟨m + 2, 0, none⟩), .pointer (some ⟨m, 0, none⟩), .pointer (some ⟨m + 1, 0, none⟩)]) W fun e w' => e = .returned (.bool (p i)) ∧ Below W.heap.size W w')
    (hmono : ∀ a b, a ≤ b → b < n → p a = true → p b = true) :
    Calls Try.prog 111 #[.int .i64 (n : Int), .func (.func 138) #[] #[.pointer (some ⟨m + 2, 0, none⟩), .pointer (some ⟨m, 0, none⟩), .pointer (some ⟨m + 1, 0, none⟩)]] w fun e w' => ∃ k : Nat, k ≤ n ∧ e = .returned (.int .i64 (k : Int)) ∧ ((∀ t, t < k → p t = false) ∧ (∀ t, k ≤ t → t < n → p t = true)) ∧ Below w.heap.size w w' := by
  have HF := Lib.hid hf
  have M := Lib.hid hmono
  clear hf hmono
  go_enter Try.func111, Try.ntmps111
  go_wp2
  go_loopw [5, 6] (fun s5 s6 wr => ∃ lo hi : Nat, s5 = .int .i64 (lo : Int) ∧ s6 = .int .i64 (hi : Int) ∧ lo ≤ hi ∧ hi ≤ n ∧ Hid ((∀ t, t < lo → p t = false) ∧ (∀ t, hi ≤ t → t < n → p t = true)) ∧ Below w.heap.size w wr) (fun s5 s6 _ => (intOf s6).toNat - (intOf s5).toNat)
  case atStart => exact ⟨0, n, rfl, rfl, Nat.zero_le _, Nat.le_refl _, Lib.hid ⟨fun t ht => absurd ht (Nat.not_lt_zero _), fun t h1 h2 => by omega⟩, Below.refl _ _⟩
  case round =>
    obtain ⟨lo, hi, rfl, rfl, hlh, hin, I, hb⟩ := hrel
    by_cases hlt : lo < hi
    · have hc := HF.out _ hb ((lo + hi) / 2) (by omega)
      rw [show (((lo + hi) / 2 : Nat) : Int) = ((lo : Int) + (hi : Int)) / 2 by omega] at hc
      cases hp : p ((lo + hi) / 2)
      · rw [hp] at hc
        have HP := Lib.hid hp
        clear hp
        have HC := Lib.hid hc
        clear hc
        go_wp2_with fail
        refine HC.out.mono ?_
        rintro e u ⟨rfl, b1⟩
        have d1 := hb.trans (b1.mono hb.size)
        go_wp2
        refine ⟨⟨(lo + hi) / 2 + 1, hi, by go_num, rfl, by omega, hin, Lib.hid ⟨fun t ht => ?_, I.out.2⟩, d1⟩, by simp only [intOf]; omega⟩
        cases h : p t with
        | false => rfl
        | true =>
          have := M.out t ((lo + hi) / 2) (by omega) (by omega) h
          rw [HP.out] at this
          cases this
      · rw [hp] at hc
        have HP := Lib.hid hp
        clear hp
        have HC := Lib.hid hc
        clear hc
        go_wp2_with fail
        refine HC.out.mono ?_
        rintro e u ⟨rfl, b1⟩
        have d1 := hb.trans (b1.mono hb.size)
        go_wp2
        refine ⟨⟨lo, (lo + hi) / 2, rfl, by go_num, by omega, by omega, Lib.hid ⟨I.out.1, fun t ht htn => M.out ((lo + hi) / 2) t ht htn HP.out⟩, d1⟩, by simp only [intOf]; omega⟩
    · obtain rfl : hi = lo := by omega
      go_wp2
      go_ret
      exact ⟨hi, hin, rfl, I.out, hb⟩
set_option maxHeartbeats 4000000 in
theorem impl_placeOf (w : World) (hi c : Nat) (a : Option Addr) (xs : List RevokedD) (f : RevokedD) (h : RowRevoked w hi (.slice a xs.length c) xs) (hh : hi ≤ w.heap.size) (hn : xs.length ≤ 1048576) (hasc : xs.Pairwise fun x y => x.Serial < y.Serial) :
    Calls Try.prog 121 #[.slice a xs.length c, f.val, .func (.func 122) #[] #[]] w fun e w' => ∃ k : Nat, k ≤ xs.length ∧ e = .returned (.int .i64 (k : Int)) ∧ ((∀ t (ht : t < xs.length), t < k → beforeR xs[t] f = true) ∧ (∀ t (ht : t < xs.length), k ≤ t → beforeR xs[t] f = false)) ∧ Below w.heap.size w w' := by
  obtain ⟨W, hW, hB, hC⟩ : ∃ W, W = ((w.alloc (.cells #[.slice a xs.length c] 37)).alloc (.cells #[.int .i64 f.Serial, .int .i64 f.At] 99)).alloc (.cells #[.func (.func 122) #[] #[]] 107) ∧ Below w.heap.size w W ∧ Sought W w.heap.size (.slice a xs.length c) f :=
    ⟨_, rfl, by go_grown, ⟨by go_simp, by go_simp, by go_simp, by go_simp, by simp⟩⟩
  have hS := impl_search W w.heap.size xs.length (fun t => match xs[t]? with | some x => !beforeR x f | none => false) hn (fun V hV t ht => by
    have h8 := impl_notBefore V hi c w.heap.size t a xs f (h.below (hB.trans (hV.mono hB.size)) hh) (hC.below hV hC.lt) ht
    simp only [List.getElem?_eq_getElem ht]
    exact h8) (fun s t hst ht hs => by
      simp only [List.getElem?_eq_getElem ht, List.getElem?_eq_getElem (show s < xs.length by omega), Bool.not_eq_true'] at hs ⊢
      rcases Nat.lt_or_eq_of_le hst with hlt | rfl
      · cases hb : beforeR xs[t] f
        · rfl
        · have h7 := List.pairwise_iff_getElem.1 hasc s t (by omega) ht hlt
          have h8 := of_decide_eq_true hb
          rw [show beforeR xs[s] f = true from decide_eq_true (by omega)] at hs
          cases hs
      · exact hs)
  have HS := Lib.hid hS
  clear hS hasc h
  obtain ⟨q0, q1⟩ := f
  rw [RevokedD.val_mk]
  dsimp only at hW
  go_enter Try.func121, Try.ntmps121
  go_upto_region 1 with fail
  rw [← hW]
  clear hW
  have hl := hC.l
  go_wp2_with fail
  refine HS.out.mono ?_
  rintro e u ⟨k, hk, rfl, ⟨g1, g2⟩, b1⟩
  have d1 := hB.trans (b1.mono hB.size)
  have G1 := Lib.hid g1
  have G2 := Lib.hid g2
  clear g1 g2
  go_wp2
  go_ret
  refine ⟨k, hk, rfl, ⟨fun t ht h3 => ?_, fun t ht h3 => ?_⟩, d1⟩
  · have := G1.out t h3
    simpa [List.getElem?_eq_getElem ht] using this
  · have := G2.out t h3 ht
    simpa [List.getElem?_eq_getElem ht] using this
end Go.Proofs.Ytjfmmingkciapaa
