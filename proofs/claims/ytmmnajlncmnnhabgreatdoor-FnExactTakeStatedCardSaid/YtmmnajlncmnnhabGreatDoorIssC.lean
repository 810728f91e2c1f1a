/- Issuers (chapter 8): the laws' own copies of slices of issuers: the slice and every slice inside are the call's own, apart from one another. No condition but the bounds of what came in. -/
import Derived.Test.YtmmnajlncmnnhabGreatDoorIssE
import Derived.WalkKit
import Derived.BigQuiet
namespace Go.Proofs.YtmmnajlncmnnhabGreatDoor
open Go.ChangeShapes Go.WideShapes Go.ChangeAt Go.RowKit
set_option linter.unusedVariables false

def issC (x : IssuerD) (kv : Value) : List Value := [.int .i64 x.Id, kv, .int .i64 x.Secret]
def zerosIss : List Value := [.int .i64 0, .slice none 0 0, .int .i64 0]
/-- Of n issuers the first are laid (as many as there are slices of kinds), behind them zeros. -/
def doneC (xs : List IssuerD) (kvs : List Value) : List Value := (List.zipWith issC xs kvs).flatten ++ (List.replicate (xs.length - kvs.length) zerosIss).flatten
theorem zip_len : ∀ (xs : List IssuerD) (kvs : List Value), kvs.length ≤ xs.length → (List.zipWith issC xs kvs).flatten.length = kvs.length * 3
  | [], [], _ => rfl
  | [], _ :: _, h => by simp at h
  | _ :: _, [], _ => rfl
  | x :: xs, kv :: kvs, h => by
    have h2 : kvs.length ≤ xs.length := by simpa using h
    rw [List.zipWith_cons_cons, List.flatten_cons, List.length_append, zip_len xs kvs h2, List.length_cons, Nat.add_mul]
    show 3 + _ = _
    omega
theorem zip_snoc : ∀ {xs : List IssuerD} {kvs : List Value} {x : IssuerD} (kv : Value), xs[kvs.length]? = some x → List.zipWith issC xs (kvs ++ [kv]) = List.zipWith issC xs kvs ++ [issC x kv]
  | [], kvs, x, kv, h => by simp at h
  | y :: ys, [], x, kv, h => by
    have : y = x := by simpa using h
    subst this
    cases ys <;> rfl
  | y :: ys, k :: kvs, x, kv, h => by
    have h2 : ys[kvs.length]? = some x := by simpa using h
    rw [List.cons_append, List.zipWith_cons_cons, List.zipWith_cons_cons, zip_snoc kv h2, List.cons_append]
theorem doneC_set {xs : List IssuerD} {kvs : List Value} {x : IssuerD} (kv : Value) (hx : xs[kvs.length]? = some x) : setMany (doneC xs kvs) (kvs.length * 3) (issC x kv) = doneC xs (kvs ++ [kv]) := by
  have hk : kvs.length < xs.length := (List.getElem?_eq_some_iff.1 hx).1
  unfold doneC
  rw [zip_snoc kv hx, List.length_append, List.length_singleton, show xs.length - kvs.length = (xs.length - (kvs.length + 1)) + 1 by omega, List.replicate_succ, List.flatten_cons, ← zip_len xs kvs (Nat.le_of_lt hk), setMany_mid (issC x kv) _ zerosIss _ rfl, List.flatten_append]
  simp
theorem doneC_at {xs : List IssuerD} {kvs : List Value} (hk : kvs.length < xs.length) {j : Nat} (hj : j < 3) : (doneC xs kvs)[kvs.length * 3 + j]? = zerosIss[j]? := by
  unfold doneC
  rw [← zip_len xs kvs (Nat.le_of_lt hk), List.getElem?_append_right (by omega), Nat.add_sub_cancel_left, show xs.length - kvs.length = (xs.length - (kvs.length + 1)) + 1 by omega, List.replicate_succ, List.flatten_cons, List.getElem?_append_left (by exact hj)]
theorem Own.manyLow {E : TypeId} {K : IntKind} {lo hi g : Nat} {v : Value} {xs : List Int} (hg : g < lo) : ∀ (us : List Value) {w : World} (i : Nat), Own E K w lo hi v xs → Own E K (wsetMany w g i us) lo hi v xs
  | [], w, i, h => h
  | u :: us, w, i, h => Own.manyLow hg us (i + 1) (h.setLow hg u)
/-- A slice of issuers of the call's own: its block is lo, the kinds' blocks lie behind it, each behind those ahead of it. -/
structure OwnIss (w : World) (lo hi : Nat) (u : Value) (xs : List IssuerD) (kvs : List Value) : Prop where
  row : OwnC 55 3 w lo (lo + 1) u xs.length (doneC xs kvs)
  kinds : ∀ (i : Nat) (kv : Value) (x : IssuerD), kvs[i]? = some kv → xs[i]? = some x → Own 3 .i64 w (lo + 1) hi kv x.Kinds
  apart : kvs.Pairwise fun a b => ∀ k m, a.ownBlock = some k → b.ownBlock = some m → k < m
/-- What is owned can be read. -/
theorem OwnIss.reads {w : World} {lo hi : Nat} {u : Value} {xs : List IssuerD} {kvs : List Value} (h : OwnIss w lo hi u xs kvs) (hl : kvs.length = xs.length) (hlo : lo + 1 ≤ hi) : RowIssuer w hi u xs := by
  refine ⟨List.zipWith issC xs kvs, by rw [List.length_zipWith]; omega, ?_, fun i c x hc hx => ?_⟩
  · have h2 := h.row.read
    unfold doneC at h2
    rw [hl, Nat.sub_self, List.replicate_zero, List.flatten_nil, List.append_nil] at h2
    exact h2.more hlo
  · have hi2 : i < kvs.length := by have := (List.getElem?_eq_some_iff.1 hx).1; omega
    have hk : kvs[i]? = some kvs[i] := List.getElem?_eq_getElem hi2
    rw [List.getElem?_zipWith, hx, hk] at hc
    obtain rfl := Option.some.inj hc
    exact ⟨kvs[i], rfl, (h.kinds i _ x hk hx).read⟩
theorem OwnIss.below {w w' : World} {lo hi : Nat} {u : Value} {xs : List IssuerD} {kvs : List Value} {B : Nat} (h : OwnIss w lo hi u xs kvs) (hb : Below B w w') (hB : hi ≤ B) (hlo : lo + 1 ≤ hi) : OwnIss w' lo hi u xs kvs :=
  ⟨h.row.below hb (Nat.le_trans hlo hB), fun i kv x h1 h2 => (h.kinds i kv x h1 h2).below hb hB, h.apart⟩
theorem infoIss : (Tryz.prog.info? 55).map (fun i => (i.zero, i.size, i.bytes)) = some (some (.agg zerosIss.toArray), 3, 40) := by kernel_rfl
set_option maxHeartbeats 4000000 in
theorem to_IssuerS (w : World) (hi : Nat) (v : Value) (xs : List IssuerD) (h : RowIssuer w hi v xs) (hh : hi ≤ w.heap.size) (hn : xs.length ≤ 1048576) (hks : ∀ x ∈ xs, x.Kinds.length ≤ 1048576) :
    Calls Tryz.prog 8 #[v] w fun e w' => ∃ u kvs, e = .returned u ∧ kvs.length = xs.length ∧ OwnIss w' w.heap.size w'.heap.size u xs kvs ∧ w.heap.size + 1 ≤ w'.heap.size ∧ Below w.heap.size w w' := by
  obtain ⟨_, _, h2, _⟩ := id h
  obtain ⟨_, a, c, rfl, _⟩ := h2
  obtain ⟨-, f1, f2⟩ := h.fits
  unfold maxLen at f2
  obtain ⟨i0, hi0, hz0, hz1, hz2⟩ := info_parts infoIss
  have hb2 : i0.bytes * xs.length ≤ 281474976710656 := by rw [hz2]; omega
  have hb3 : xs.length ≤ maxLen := by unfold maxLen; omega
  have H := Lib.hid h
  have HK := Lib.hid hks
  clear h hks
  go_enter Tryz.func8, Tryz.ntmps8
  go_wp2_with (at_make; refine wpList_make_full _ rfl _ _ 31 rfl w.heap.size 55 i0 (.agg zerosIss.toArray) 3 Tryz.underlying31 hi0 hz0 hz1 .i64 .i64 (xs.length : Int) (xs.length : Int) xs.length rfl rfl rfl rfl hb2 hb3 (Nat.le_refl _) ?_; intro w1 hown hg)
  have hown0 : w1.ownsRow w.heap.size 55 3 (.slice (some ⟨w.heap.size, 0, none⟩) xs.length xs.length) xs.length (doneC xs []) := by
    have e : doneC xs [] = (List.replicate xs.length zerosIss).flatten := by cases xs <;> rfl
    rw [e, ← made_zeros zerosIss 3 (by decide) rfl]
    exact hown
  have hb1 : Below w.heap.size w w1 := (Below.refl _ _).grown hg (Nat.le_refl _) (fun k h => by cases h)
  clear hown hg
  go_loopw [4] (fun i wr => ∃ kvs : List Value, kvs.length ≤ xs.length ∧ i = .int .i64 (kvs.length : Int) ∧ Hid (OwnIss wr w.heap.size wr.heap.size (.slice (some ⟨w.heap.size, 0, none⟩) xs.length xs.length) xs kvs) ∧ w.heap.size + 1 ≤ wr.heap.size ∧ Below w.heap.size w wr) (fun i _ => xs.length - (intOf i).toNat)
  case atStart => exact ⟨[], Nat.zero_le _, rfl, ⟨OwnC.made _ hown0, fun i kv x h => by simp at h, List.Pairwise.nil⟩, (hown0.lt w.heap.size rfl).2, hb1⟩
  case round =>
    obtain ⟨kvs, hk, rfl, HO, hz, hb⟩ := hrel
    generalize hkk : kvs.length = k at hk
    by_cases hlt : k < xs.length
    · obtain ⟨x, hx⟩ : ∃ x, xs[k]? = some x := ⟨_, List.getElem?_eq_getElem hlt⟩
      have hkn := HK.out x (List.mem_of_getElem? hx)
      have HX := Lib.hid hx
      obtain ⟨p0, ks, p2⟩ := x
      obtain ⟨kv, b, off, hr, rfl, r1, r2, HC⟩ := RowIssuer.at H.out hx
      obtain ⟨c0, c1, c2⟩ := HC _ _ r2 hb
      have hT := to_Issuer p0 p2 kv hi ks wr (hr.below hb hh) (Nat.le_trans hh hb.size) (Nat.le_trans hkn (by decide))
      have HT := Lib.hid hT
      have HKK := Lib.hid hkk
      clear HC hx hr hT hkn
      clear hkk
      go_wp2_with fail
      refine HT.out.mono ?_
      rintro e w2 ⟨kv', rfl, ho, b2⟩
      obtain ⟨A', c', rfl, -⟩ := ho.read.form
      have hrow := HO.out.row.below b2 hz
      have hr2 := hrow.row
      have e0 : w2.cell? ⟨w.heap.size, k * 3, none⟩ = some (.int .i64 0) := (hr2.cellAt (k * 3 + 0) (by omega)).trans (by rw [← HKK.out]; exact doneC_at (by have := HKK.out; omega) (by decide))
      have g0 : w2.frozen? ⟨w.heap.size, k * 3, none⟩ = false := hr2.frozenAt (k * 3 + 0)
      have e1 : w2.cell? ⟨w.heap.size, k * 3 + 1, none⟩ = some (.slice none 0 0) := (hr2.cellAt (k * 3 + 1) (by omega)).trans (by rw [← HKK.out]; exact doneC_at (by have := HKK.out; omega) (by decide))
      have g1 : w2.frozen? ⟨w.heap.size, k * 3 + 1, none⟩ = false := hr2.frozenAt (k * 3 + 1)
      have e2 : w2.cell? ⟨w.heap.size, k * 3 + 2, none⟩ = some (.int .i64 0) := (hr2.cellAt (k * 3 + 2) (by omega)).trans (by rw [← HKK.out]; exact doneC_at (by have := HKK.out; omega) (by decide))
      have g2 : w2.frozen? ⟨w.heap.size, k * 3 + 2, none⟩ = false := hr2.frozenAt (k * 3 + 2)
      have HW := Lib.hid hrow
      have HKV := Lib.hid ho
      clear hr2 hrow ho
      go_wp2
      have h7 := HW.out.setMany [.int .i64 p0, .slice A' ks.length c', .int .i64 p2] (k * 3)
      have hb7 := Below.setMany (B := w.heap.size) (g := w.heap.size) (Nat.le_refl _) [.int .i64 p0, .slice A' ks.length c', .int .i64 p2] (k * 3) (hb.trans (b2.mono (by omega)))
      have hs7 := wsetMany_size (g := w.heap.size) [.int .i64 p0, .slice A' ks.length c', .int .i64 p2] w2 (k * 3)
      have h8 : setMany (doneC xs kvs) (k * 3) [.int .i64 p0, .slice A' ks.length c', .int .i64 p2] = doneC xs (kvs ++ [.slice A' ks.length c']) := by
        rw [← HKK.out]
        exact doneC_set _ (by rw [HKK.out]; exact HX.out)
      rw [h8] at h7
      refine ⟨⟨(kvs ++ [Value.slice A' ks.length c'] : List Value), by rw [List.length_append, HKK.out]; simp only [List.length_singleton]; omega, by rw [List.length_append, HKK.out, List.length_singleton]; go_num, Lib.hid ⟨h7, fun i kv x hkv hx => ?_, ?_⟩, Nat.le_trans (Nat.le_trans hz b2.size) (Nat.le_of_eq hs7.symm), hb7⟩, by simp only [intOf]; omega⟩
      · have hs9 : w2.heap.size ≤ (wsetMany w2 w.heap.size (k * 3) [.int .i64 p0, .slice A' ks.length c', .int .i64 p2]).heap.size := Nat.le_of_eq hs7.symm
        by_cases hi9 : i < kvs.length
        · rw [List.getElem?_append_left hi9] at hkv
          exact ((Own.manyLow (g := w.heap.size) (Nat.lt_succ_self _) [.int .i64 p0, .slice A' ks.length c', .int .i64 p2] (k * 3) ((HO.out.kinds i kv x hkv hx).below b2 (Nat.le_refl _))).wide (Nat.le_refl _) (Nat.le_trans b2.size hs9))
        · rw [List.getElem?_append_right (by omega)] at hkv
          have hi10 : i = k := by
            have := (List.getElem?_eq_some_iff.1 hkv).1
            simp only [List.length_singleton] at this
            have := HKK.out
            omega
          subst hi10
          rw [show i - kvs.length = 0 by have := HKK.out; omega] at hkv
          obtain rfl := Option.some.inj hkv
          rw [HX.out] at hx
          obtain rfl := Option.some.inj hx
          exact (Own.manyLow (g := w.heap.size) (by omega) [.int .i64 p0, .slice A' ks.length c', .int .i64 p2] (i * 3) HKV.out).wide hz hs9
      · refine List.pairwise_append.2 ⟨HO.out.apart, List.pairwise_singleton _ _, fun q hq r hr k' m h1 h2 => ?_⟩
        rw [List.mem_singleton.1 hr] at h2
        obtain ⟨i, hi9, rfl⟩ := List.getElem_of_mem hq
        have hi10 : i < xs.length := by have := HKK.out; omega
        have h11 := ((HO.out.kinds i _ _ (List.getElem?_eq_getElem hi9) (List.getElem?_eq_getElem hi10)).lt k' h1).2.1
        have h12 := (HKV.out.lt m h2).1
        omega
    · go_wp2
      go_ret
      obtain rfl : k = xs.length := by omega
      exact ⟨_, kvs, rfl, hkk, HO.out, hz, hb⟩
end Go.Proofs.YtmmnajlncmnnhabGreatDoor
