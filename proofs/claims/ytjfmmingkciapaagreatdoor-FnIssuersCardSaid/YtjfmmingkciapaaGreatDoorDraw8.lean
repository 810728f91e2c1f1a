/- The draws of chapter 8's inputs: issuers, statements. -/
import Derived.Test.YtjfmmingkciapaaGreatDoorDraw7
import Derived.Test.YtjfmmingkciapaaGreatDoorTake
import Derived.Test.YtjfmmingkciapaaGreatDoorIssM
namespace Go.Proofs.YtjfmmingkciapaaGreatDoor
open Go.ChangeShapes Go.WideShapes Go.ChangeAt Go.RowKit
set_option linter.unusedVariables false

/-- The three issuers of the draws. -/
def iss3 : List IssuerD := [⟨0, [1, 2], 101⟩, ⟨1, [3, 4], 102⟩, ⟨2, [1, 2, 3, 4], 103⟩]
theorem iss3_wf : ∀ x ∈ iss3, (Lit.int .i64 x.Id).wf = true ∧ (Lit.int .i64 x.Secret).wf = true := by
  intro x hx
  simp only [iss3, List.mem_cons, List.not_mem_nil, or_false] at hx
  rcases hx with rfl | rfl | rfl <;> exact ⟨wf_i64 (by decide) (by decide), wf_i64 (by decide) (by decide)⟩
/-- They lie in blocks from lo on and below hi. -/
structure Iss3 (w : World) (lo hi g : Nat) (kvs : List Value) : Prop where
  above : lo ≤ g
  under : g < hi
  len : kvs.length = 3
  blk : w.heap[g]? = some (.cells (List.zipWith issC iss3 kvs).flatten.toArray 26)
  kinds : ∀ (i : Nat) (kv : Value) (x : IssuerD), kvs[i]? = some kv → iss3[i]? = some x → Own 3 .i64 w lo hi kv x.Kinds
section
variable {w w' : World} {lo hi g : Nat} {kvs : List Value}
theorem Iss3.keep (h : Iss3 w lo hi g kvs) (hb : ∀ k, lo ≤ k → k < hi → k < w.heap.size → w'.heap[k]? = w.heap[k]?) : Iss3 w' lo hi g kvs :=
  ⟨h.above, h.under, h.len, (hb g h.above h.under (blk_lt h.blk)).trans h.blk, fun i kv x h1 h2 => (h.kinds i kv x h1 h2).keep hb⟩
theorem Iss3.only {B : Nat} (h : Iss3 w lo hi g kvs) (ho : Only B w w') (hB : B < lo) : Iss3 w' lo hi g kvs := h.keep fun k h1 _ h3 => ho.block k h3 (by omega)
theorem Iss3.below {B : Nat} (h : Iss3 w lo hi g kvs) (hb : Below B w w') (hB : hi ≤ B) : Iss3 w' lo hi g kvs := h.keep fun k _ h2 _ => hb.block k (by omega)
theorem Iss3.wide {lo' hi' : Nat} (h : Iss3 w lo hi g kvs) (h1 : lo' ≤ lo) (h2 : hi ≤ hi') : Iss3 w lo' hi' g kvs :=
  ⟨Nat.le_trans h1 h.above, Nat.lt_of_lt_of_le h.under h2, h.len, h.blk, fun i kv x h3 h4 => (h.kinds i kv x h3 h4).wide h1 h2⟩
theorem iss3_zip (h : kvs.length = 3) : (List.zipWith issC iss3 kvs).length = 3 := by rw [List.length_zipWith, h]; rfl
theorem Iss3.reads (h : Iss3 w lo hi g kvs) : RowIssuer w hi (.slice (some ⟨g, 0, none⟩) 3 3) iss3 := by
  refine ⟨List.zipWith issC iss3 kvs, iss3_zip h.len, ⟨?_, _, 3, rfl, Nat.le_refl _, by decide, (fun e => by cases e), fun _ => ⟨g, 0, rfl, h.under, blk_lt h.blk, fun j u hu => ?_⟩⟩, fun i c x hc hx => ?_⟩
  · rw [flatten_len (zip_all iss3 kvs), iss3_zip h.len]
    rfl
  · rw [Nat.zero_add]
    exact blk_cell h.blk j (by rw [List.getElem?_toArray]; exact hu)
  · have hi2 : i < kvs.length := by have := (List.getElem?_eq_some_iff.1 hx).1; rw [h.len]; exact this
    have hk : kvs[i]? = some kvs[i] := List.getElem?_eq_getElem hi2
    rw [zip_at hx hk] at hc
    obtain rfl := Option.some.inj hc
    exact ⟨kvs[i], rfl, (h.kinds i _ x hk hx).read⟩
/-- One of the three. -/
theorem Iss3.at (h : Iss3 w lo hi g kvs) {j : Nat} (hj : j < 3) : ∃ (i s : Int) (kv : Value) (ks : List Int), iss3[j]? = some ⟨i, ks, s⟩ ∧ (w.cell? ⟨g, j * 3, none⟩ = some (.int .i64 i) ∧ w.cell? ⟨g, j * 3 + 1, none⟩ = some kv ∧ w.cell? ⟨g, j * 3 + 2, none⟩ = some (.int .i64 s)) ∧ Own 3 .i64 w lo hi kv ks ∧ 0 ≤ i ∧ i ≤ 2 ∧ 101 ≤ s ∧ s ≤ 103 ∧ ks.length ≤ 4 := by
  obtain ⟨x, hx⟩ : ∃ x, iss3[j]? = some x := ⟨_, List.getElem?_eq_getElem hj⟩
  have hk : kvs[j]? = some (kvs[j]'(by rw [h.len]; exact hj)) := List.getElem?_eq_getElem (by rw [h.len]; exact hj)
  have ha : ∀ r, r < 3 → (List.zipWith issC iss3 kvs).flatten[j * 3 + r]? = (issC x (kvs[j]'(by rw [h.len]; exact hj)))[r]? := fun r hr => flatten_at (zip_all iss3 kvs) (zip_at hx hk) hr
  have hb : 0 ≤ x.Id ∧ x.Id ≤ 2 ∧ 101 ≤ x.Secret ∧ x.Secret ≤ 103 ∧ x.Kinds.length ≤ 4 := by
    have hm := List.mem_of_getElem? hx
    simp only [iss3, List.mem_cons, List.not_mem_nil, or_false] at hm
    rcases hm with rfl | rfl | rfl <;> decide
  obtain ⟨i, ks, s⟩ := x
  exact ⟨i, s, _, ks, hx, ⟨blk_cell h.blk (j * 3 + 0) (by rw [List.getElem?_toArray]; exact ha 0 (by decide)), blk_cell h.blk (j * 3 + 1) (by rw [List.getElem?_toArray]; exact ha 1 (by decide)), blk_cell h.blk (j * 3 + 2) (by rw [List.getElem?_toArray]; exact ha 2 (by decide))⟩, h.kinds j _ _ hk hx, hb⟩
end
set_option maxHeartbeats 2000000 in
theorem issuers_any (w : World) : Calls Tryz.prog 38 #[] w fun e w' => ∃ g kvs, e = .returned (.slice (some ⟨g, 0, none⟩) 3 3) ∧ Iss3 w' w.heap.size w'.heap.size g kvs ∧ Below w.heap.size w w' := by
  go_enter Tryz.func38, Tryz.ntmps38
  go_wp2
  go_ret
  obtain ⟨W1, h1⟩ : ∃ W, W = w.alloc (.cells #[.int .i64 1, .int .i64 2] 3) := ⟨_, rfl⟩
  obtain ⟨W2, h2⟩ : ∃ W, W = W1.alloc (.cells #[.int .i64 3, .int .i64 4] 3) := ⟨_, rfl⟩
  obtain ⟨W3, h3⟩ : ∃ W, W = W2.alloc (.cells #[.int .i64 1, .int .i64 2, .int .i64 3, .int .i64 4] 3) := ⟨_, rfl⟩
  have s1 : W1.heap.size = w.heap.size + 1 := by rw [h1]; simp
  have s2 : W2.heap.size = w.heap.size + 1 + 1 := by rw [h2, size_alloc, s1]
  have s3 : W3.heap.size = w.heap.size + 1 + 1 + 1 := by rw [h3, size_alloc, s2]
  have o1 := Own.lit 3 w [1, 2] (fun x hx => by simp at hx; exact wf_i64 (by omega) (by omega)) (by decide)
  have o2 := Own.lit 3 W1 [3, 4] (fun x hx => by simp at hx; exact wf_i64 (by omega) (by omega)) (by decide)
  have o3 := Own.lit 3 W2 [1, 2, 3, 4] (fun x hx => by simp at hx; exact wf_i64 (by omega) (by omega)) (by decide)
  simp only [List.map_cons, List.map_nil, List.length_cons, List.length_nil, Nat.zero_add, Nat.reduceAdd] at o1 o2 o3
  rw [← h1] at o1
  rw [← h2, s1] at o2
  rw [← h3, s2] at o3
  have b2 : Below W1.heap.size W1 W2 := by rw [h2]; exact (Below.refl _ _).alloc (Nat.le_refl _) _
  have b3 : Below W2.heap.size W2 W3 := by rw [h3]; exact (Below.refl _ _).alloc (Nat.le_refl _) _
  rw [← h1, ← h2, ← h3]
  obtain ⟨W4, h4⟩ : ∃ W, W = W3.alloc (.cells #[.int .i64 0, .slice (some ⟨w.heap.size, 0, none⟩) 2 2, .int .i64 101, .int .i64 1, .slice (some ⟨w.heap.size + 1, 0, none⟩) 2 2, .int .i64 102, .int .i64 2, .slice (some ⟨w.heap.size + 1 + 1, 0, none⟩) 4 4, .int .i64 103] 26) := ⟨_, rfl⟩
  have b4 : Below W3.heap.size W3 W4 := by rw [h4]; exact (Below.refl _ _).alloc (Nat.le_refl _) _
  have s4 : W4.heap.size = w.heap.size + 1 + 1 + 1 + 1 := by rw [h4, size_alloc, s3]
  have o1' := (((o1.below b2 (by omega)).below b3 (by omega)).below b4 (by omega)).wide (lo' := w.heap.size) (hi' := W4.heap.size) (by omega) (by omega)
  have o2' := ((o2.below b3 (by omega)).below b4 (by omega)).wide (lo' := w.heap.size) (hi' := W4.heap.size) (by omega) (by omega)
  have o3' := (o3.below b4 (by omega)).wide (lo' := w.heap.size) (hi' := W4.heap.size) (by omega) (by omega)
  have hb : Below w.heap.size w W1 := by rw [h1]; exact (Below.refl _ _).alloc (Nat.le_refl _) _
  refine ⟨w.heap.size + 1 + 1 + 1, [.slice (some ⟨w.heap.size, 0, none⟩) 2 2, .slice (some ⟨w.heap.size + 1, 0, none⟩) 2 2, .slice (some ⟨w.heap.size + 1 + 1, 0, none⟩) 4 4], rfl, ?_, ?_⟩
  · show Iss3 (W3.alloc _) _ _ _ _
    rw [show W3.alloc _ = W4 from h4.symm]
    refine ⟨by omega, by omega, rfl, by rw [h4]; exact blk_new_at _ _ s3, fun i kv x hk hx => ?_⟩
    match i, hk, hx with
    | 0, hk, hx =>
      obtain rfl := Option.some.inj hk
      obtain rfl := Option.some.inj hx
      exact o1'
    | 1, hk, hx =>
      obtain rfl := Option.some.inj hk
      obtain rfl := Option.some.inj hx
      exact o2'
    | 2, hk, hx =>
      obtain rfl := Option.some.inj hk
      obtain rfl := Option.some.inj hx
      exact o3'
    | n + 3, hk, hx => simp at hk
  · show Below _ _ (W3.alloc _)
    exact ((hb.trans (b2.mono (by omega))).trans (b3.mono (by omega))).alloc (by omega) _
theorem Own.setHigh {E : TypeId} {K : IntKind} {w : World} {lo hi : Nat} {v : Value} {xs : List Int} (h : Own E K w lo hi v xs) {a : Addr} (ha : hi ≤ a.block) (u : Value) : Own E K (w.setCell a u) lo hi v xs :=
  h.keep fun k _ hk _ => Below.heap_setCell _ _ _ _ (by omega)
theorem Own.only {E : TypeId} {K : IntKind} {B lo hi : Nat} {w w' : World} {v : Value} {xs : List Int} (h : Own E K w lo hi v xs) (ho : Only B w w') (hB : B < lo) : Own E K w' lo hi v xs :=
  h.keep fun k h1 _ h3 => ho.block k h3 (by omega)
theorem Loc.belowC {w0 w w' : World} {B f C : Nat} {T : TypeId} {cs : Array Value} (h : Loc w0 B f T cs w) (hb : Below C w w') (hC : w0.heap.size ≤ C) (hf : f < C) : Loc w0 B f T cs w' :=
  ⟨⟨hb.os.trans h.only.os, hb.tape.trans h.only.tape, hb.output.trans h.only.output, Nat.le_trans h.only.size hb.size, fun k hk hn => (hb.block k (Nat.lt_of_lt_of_le hk hC)).trans (h.only.block k hk hn)⟩, h.new, h.ne, blk_keep h.blk hb hf⟩
/-- An issuer that was drawn. -/
def DrawnI (w : World) (e : Ending) (w' : World) : Prop := ∃ (i s : Int) (kv : Value) (ks : List Int), e = .returned (.agg #[.int .i64 i, kv, .int .i64 s]) ∧ (Lit.int .i64 i).wf = true ∧ (Lit.int .i64 s).wf = true ∧ Own 3 .i64 w' w.heap.size w'.heap.size kv ks ∧ ks.length ≤ 5 ∧ Below w.heap.size w w'
set_option maxHeartbeats 8000000 in
set_option maxRecDepth 100000 in
theorem draw_isIssuer (w : World) (a : Option Addr) (len cap : Nat) (z : List Int) (hr : IsRow .u8 w a len cap z) :
    Calls Tryz.prog 32 #[.slice a len cap] w fun e w' => DrawnI w e w' := by
  obtain ⟨i0, hi0, hz0, hz1, hz2⟩ := info_parts infoIntS
  go_enter Tryz.func32, Tryz.ntmps32
  go_wp2_with fail
  refine (new_any _ a len cap z (hr.below ((Below.refl _ _).alloc (Nat.le_refl _) _))).mono ?_
  rintro e w1 ⟨B, rfl, hB, hb1, hc1⟩
  have hR : Loc w B w.heap.size 26 #[.int .i64 0, .slice none 0 0, .int .i64 0] w1 := Loc.early ((Below.refl _ _).alloc (Nat.le_refl _) _) hb1 (blk_new _ _ _) (Nat.le_refl _) (by simp) hB
  have hBw : w.heap.size ≤ B := by rw [size_alloc] at hB; omega
  have hBlt := hc1.lt
  have hRlo := hR.lt
  clear hb1 hr hB
  go_wp2_with fail
  refine (issuers_any w1).mono ?_
  rintro e w2 ⟨g, kvs, rfl, h3, b2⟩
  have hR2 := hR.call (Below.only (B := B) b2)
  have hc2 := hc1.only b2
  have s2 := b2.size
  go_wp2_with fail
  refine (below_any w2 B a len cap z 3 (by decide) (by decide) hc2).mono ?_
  rintro e w3 ⟨j, hj, rfl, ho3, hc3⟩
  have hR3 := hR2.call ho3
  have h33 := h3.only ho3 hBlt
  have s3 := ho3.size
  obtain ⟨i, s, kv, ks, hx, ⟨c0, c1, c2⟩, hk, i0', i1', s0', s1', hkl⟩ := h33.at (j := j) (by omega)
  obtain ⟨A, n, rfl, -⟩ := id hk.read.form
  have hj0 : (0 : Int) ≤ (j : Int) := by omega
  clear hR hR2 hc1 hc2 h3 h33 b2 hx ho3
  go_upto_region 3 with fail
  obtain ⟨W4, hW4⟩ : ∃ W : World, W = w3.alloc (.cells #[.int .i64 i, .slice A ks.length n, .int .i64 s] 26) := ⟨_, rfl⟩
  rw [← hW4]
  have lf4 : Loc w B w3.heap.size 26 #[.int .i64 i, .slice A ks.length n, .int .i64 s] W4 := by rw [hW4]; exact Loc.mk_new hR3.only hc3.lt
  have lr4 : Loc w B w.heap.size 26 #[.int .i64 0, .slice none 0 0, .int .i64 0] W4 := by rw [hW4]; exact hR3.alloc _
  have hc4 : Cur W4 B a len cap z := by rw [hW4]; exact hc3.alloc _
  have hk4 : Own 3 .i64 W4 w1.heap.size w2.heap.size (.slice A ks.length n) ks := by rw [hW4]; exact hk.below (B := w3.heap.size) ((Below.refl _ _).alloc (Nat.le_refl _) _) s3
  have hX : w2.heap.size ≤ w3.heap.size := s3
  clear hW4 hR3 hc3 hk c0 c1 c2
  generalize w3.heap.size = X at lf4 hX ⊢
  go_wp2_with fail
  refine (below_any W4 B a len cap z 6 (by decide) (by decide) hc4).mono ?_
  rintro e w5 ⟨q, hq, rfl, ho5, hc5⟩
  have lf5 := lf4.call ho5
  have lr5 := lr4.call ho5
  have hk5 := hk4.only ho5 hBlt
  clear lf4 lr4 hc4 hk4 ho5
  have hXR : X ≠ w.heap.size := by omega
  have hRX : w.heap.size ≠ X := by omega
  have wi : (Lit.int .i64 i).wf = true := wf_i64 (by omega) (by omega)
  have ws : (Lit.int .i64 s).wf = true := wf_i64 (by omega) (by omega)
  have hq4 : q = 0 ∨ q = 1 ∨ q = 2 ∨ 3 ≤ q := by omega
  rcases hq4 with rfl | rfl | rfl | hq3
  · have HI : Ints (w5.alloc (.cells #[.int .i64 (-1), .int .i64 10] 3)) B ⟨w5.heap.size, 0, none⟩ 2 := ints_lit w5 B hc5.lt 3 [.int .i64 (-1), .int .i64 10] 2 (by decide)
    go_wp2_with fail
    refine (int_any _ B a len cap z _ 2 _ (by decide) (by decide) HI (hc5.alloc _)).mono ?_
    rintro e w6 ⟨v, v0, v1, rfl, ho6, hc6⟩
    have lf6 := (lf5.alloc (.cells #[.int .i64 (-1), .int .i64 10] 3)).call ho6
    have lr6 := (lr5.alloc (.cells #[.int .i64 (-1), .int .i64 10] 3)).call ho6
    have hk6 := (hk5.below (B := w5.heap.size) ((Below.refl _ _).alloc (Nat.le_refl _) (.cells #[.int .i64 (-1), .int .i64 10] 3)) (Nat.le_trans hX (Nat.le_of_lt lf5.lt))).only ho6 hBlt
    have x0 := lf6.cell 0 rfl
    have x1 := lf6.cell 1 rfl
    have x2 := lf6.cell 2 rfl
    have y0 := lf6.frozen 0
    have r0 := lr6.cell 0 rfl
    have r1 := lr6.cell 1 rfl
    have r2 := lr6.cell 2 rfl
    have f0 := lr6.frozen 0
    have f1 := lr6.frozen 1
    have f2 := lr6.frozen 2
    clear HI lf5 lr5 hk5 hc5
    go_wp2
    refine bodyPost_ret (v := .agg #[.int .i64 v, .slice A ks.length n, .int .i64 s]) (by simp [results, Tryz.results32, go_sem, r0, r1, r2]) rfl ?_
    have hb := (((((lr6.setFar lf6.new hRX 0 (.int .i64 v)).set 0 (.int .i64 v)).set 1 (.slice A ks.length n)).set 2 (.int .i64 s))).only.below (Nat.le_refl _) hBw
    have ho := (((hk6.setHigh (a := ⟨X, 0, none⟩) hX (.int .i64 v)).setLow (a := ⟨w.heap.size, 0, none⟩) hRlo (.int .i64 v)).setLow (a := ⟨w.heap.size, 1, none⟩) hRlo (.slice A ks.length n)).setLow (a := ⟨w.heap.size, 2, none⟩) hRlo (.int .i64 s)
    exact ⟨v, s, _, ks, rfl, wf_i64 v0 v1, ws, ho.wide (by omega) (by simp only [World.setCell, Array.size_modify]; have := lf6.lt; omega), by omega, hb⟩
  · have hA : Below w5.heap.size w5 (w5.alloc (.cells #[] 3)) := (Below.refl _ _).alloc (Nat.le_refl _) _
    have hX5 : X < w5.heap.size := lf5.lt
    have hB5 : B < w5.heap.size := hc5.lt
    have hR5 : w.heap.size < w5.heap.size := lr5.lt
    have hO : Own 3 .i64 (w5.alloc (.cells #[] 3)) w5.heap.size (w5.heap.size + 1) (.slice (some ⟨w5.heap.size, 0, none⟩) 0 0) [] := by
      have := Own.lit 3 w5 [] (fun x hx => by simp at hx) (by decide)
      simpa using this
    have hRk := hk5.read.below hA (by omega)
    have hle : ([] : List Int).length + ks.length ≤ 2199023255552 := by simp; omega
    have hsz : w5.heap.size ≤ (w5.alloc (.cells #[] 3)).heap.size := by simp
    have x1 := lf5.cell 1 rfl
    go_wp2_with (at_builtin; refine wpList_append_Own rfl _ _ 24 rfl 3 i0 (.int .i64 0) 8 Tryz.underlying24 hi0 hz0 hz1 hz2 rfl .i64 w5.heap.size _ _ [] rfl hO _ _ ks rfl hRk hle (by decide) hsz ?_; intro v1 w6 hown6 hb6)
    have hb56 := hA.trans hb6
    have lf6 := lf5.belowC hb56 (Nat.le_of_lt hR5) hX5
    have lr6 := lr5.belowC hb56 (Nat.le_of_lt hR5) hR5
    have hc6 := hc5.keep hB5 hb56
    rw [List.nil_append] at hown6
    clear hO hRk hle hsz x1 lf5 lr5 hc5 hk5 hb6
    refine (below_any w6 B a len cap z 6 (by decide) (by decide) hc6).mono ?_
    rintro e w7 ⟨k, hk, rfl, ho7, hc7⟩
    have lf7 := lf6.call ho7
    have lr7 := lr6.call ho7
    have hown7 := hown6.only ho7 hB5
    have s7 := ho7.size
    have s6 := hb56.size
    have hO8 := hown7.below (B := w7.heap.size) ((Below.refl _ w7).alloc (Nat.le_refl _) (.cells #[.int .i64 (k : Int)] 3)) s7
    have hR8 := row_one .i64 3 w7 (k : Int) (wf_i64 (by omega) (by omega))
    have hle : ks.length + [(k : Int)].length ≤ 2199023255552 := by simp only [List.length_cons, List.length_nil]; omega
    have hsz : w5.heap.size ≤ (w7.alloc (.cells #[.int .i64 (k : Int)] 3)).heap.size := by rw [size_alloc]; omega
    have hbA : Below w5.heap.size w7 (w7.alloc (.cells #[.int .i64 (k : Int)] 3)) := (Below.refl _ _).alloc (by omega) _
    clear lf6 lr6 hc6 hown6 ho7 hown7
    simp only []
    go_step
    first | go_values | go_skip | go_guarded | go_step
    first | go_values | go_skip | go_guarded | go_simp
    go_step
    refine wpList_append_Own rfl _ _ 24 rfl 3 i0 (.int .i64 0) 8 Tryz.underlying24 hi0 hz0 hz1 hz2 rfl .i64 w5.heap.size _ _ ks rfl hO8 _ _ [(k : Int)] rfl hR8 hle (by decide) hsz ?_
    intro v2 w9 hown9 hb9
    have hb79 := hbA.trans hb9
    have lf9 := lf7.belowC hb79 (Nat.le_of_lt hR5) hX5
    have lr9 := lr7.belowC hb79 (Nat.le_of_lt hR5) hR5
    have hl9 : (ks ++ [(k : Int)]).length ≤ 5 := by simp only [List.length_append, List.length_cons, List.length_nil]; omega
    generalize ks ++ [(k : Int)] = ks2 at hown9 hl9
    obtain ⟨A2, n2, rfl, -⟩ := id hown9.read.form
    have x0 := lf9.cell 0 rfl
    have x1 := lf9.cell 1 rfl
    have x2 := lf9.cell 2 rfl
    have y1 := lf9.frozen 1
    have r0 := lr9.cell 0 rfl
    have r1 := lr9.cell 1 rfl
    have r2 := lr9.cell 2 rfl
    have f0 := lr9.frozen 0
    have f1 := lr9.frozen 1
    have f2 := lr9.frozen 2
    clear hO8 hR8 hle hsz hb9 lf7 lr7
    go_wp2
    refine bodyPost_ret (v := .agg #[.int .i64 i, .slice A2 ks2.length n2, .int .i64 s]) (by simp [results, Tryz.results32, go_sem, r0, r1, r2]) rfl ?_
    have hb := (((((lr9.setFar lf9.new hRX 1 (.slice A2 ks2.length n2)).set 0 (.int .i64 i)).set 1 (.slice A2 ks2.length n2)).set 2 (.int .i64 s))).only.below (Nat.le_refl _) hBw
    have ho := (((hown9.setLow (a := ⟨X, 1, none⟩) hX5 (.slice A2 ks2.length n2)).setLow (a := ⟨w.heap.size, 0, none⟩) hR5 (.int .i64 i)).setLow (a := ⟨w.heap.size, 1, none⟩) hR5 (.slice A2 ks2.length n2)).setLow (a := ⟨w.heap.size, 2, none⟩) hR5 (.int .i64 s)
    exact ⟨i, s, _, ks2, rfl, wi, ws, ho.wide (by omega) (by simp only [World.setCell, Array.size_modify]; omega), hl9, hb⟩
  · have HI : Ints (w5.alloc (.cells #[.int .i64 0, .int .i64 (-1)] 3)) B ⟨w5.heap.size, 0, none⟩ 2 := ints_lit w5 B hc5.lt 3 [.int .i64 0, .int .i64 (-1)] 2 (by decide)
    go_wp2_with fail
    refine (int_any _ B a len cap z _ 2 _ (by decide) (by decide) HI (hc5.alloc _)).mono ?_
    rintro e w6 ⟨v, v0, v1, rfl, ho6, hc6⟩
    have lf6 := (lf5.alloc (.cells #[.int .i64 0, .int .i64 (-1)] 3)).call ho6
    have lr6 := (lr5.alloc (.cells #[.int .i64 0, .int .i64 (-1)] 3)).call ho6
    have hk6 := (hk5.below (B := w5.heap.size) ((Below.refl _ _).alloc (Nat.le_refl _) (.cells #[.int .i64 0, .int .i64 (-1)] 3)) (Nat.le_trans hX (Nat.le_of_lt lf5.lt))).only ho6 hBlt
    have x0 := lf6.cell 0 rfl
    have x1 := lf6.cell 1 rfl
    have x2 := lf6.cell 2 rfl
    have y0 := lf6.frozen 2
    have r0 := lr6.cell 0 rfl
    have r1 := lr6.cell 1 rfl
    have r2 := lr6.cell 2 rfl
    have f0 := lr6.frozen 0
    have f1 := lr6.frozen 1
    have f2 := lr6.frozen 2
    clear HI lf5 lr5 hk5 hc5
    go_wp2
    refine bodyPost_ret (v := .agg #[.int .i64 i, .slice A ks.length n, .int .i64 v]) (by simp [results, Tryz.results32, go_sem, r0, r1, r2]) rfl ?_
    have hb := (((((lr6.setFar lf6.new hRX 2 (.int .i64 v)).set 0 (.int .i64 i)).set 1 (.slice A ks.length n)).set 2 (.int .i64 v))).only.below (Nat.le_refl _) hBw
    have ho := (((hk6.setHigh (a := ⟨X, 2, none⟩) hX (.int .i64 v)).setLow (a := ⟨w.heap.size, 0, none⟩) hRlo (.int .i64 i)).setLow (a := ⟨w.heap.size, 1, none⟩) hRlo (.slice A ks.length n)).setLow (a := ⟨w.heap.size, 2, none⟩) hRlo (.int .i64 v)
    exact ⟨i, v, _, ks, rfl, wi, wf_i64 v0 v1, ho.wide (by omega) (by simp only [World.setCell, Array.size_modify]; have := lf6.lt; omega), by omega, hb⟩
  · have hq0 : ¬ ((q : Int) = 0) := by omega
    have hq1 : ¬ ((q : Int) = 1) := by omega
    have hq2 : ¬ ((q : Int) = 2) := by omega
    have e0 : ((q : Int) == 0) = false := by rw [beq_eq_false_iff_ne]; exact hq0
    have e1 : ((q : Int) == 1) = false := by rw [beq_eq_false_iff_ne]; exact hq1
    have e2 : ((q : Int) == 2) = false := by rw [beq_eq_false_iff_ne]; exact hq2
    have x0 := lf5.cell 0 rfl
    have x1 := lf5.cell 1 rfl
    have x2 := lf5.cell 2 rfl
    have r0 := lr5.cell 0 rfl
    have r1 := lr5.cell 1 rfl
    have r2 := lr5.cell 2 rfl
    have f0 := lr5.frozen 0
    have f1 := lr5.frozen 1
    have f2 := lr5.frozen 2
    go_wp2
    refine bodyPost_ret (v := .agg #[.int .i64 i, .slice A ks.length n, .int .i64 s]) (by simp [results, Tryz.results32, go_sem, r0, r1, r2]) rfl ?_
    have hb := ((((lr5.set 0 (.int .i64 i)).set 1 (.slice A ks.length n)).set 2 (.int .i64 s))).only.below (Nat.le_refl _) hBw
    have ho := ((hk5.setLow (a := ⟨w.heap.size, 0, none⟩) hRlo (.int .i64 i)).setLow (a := ⟨w.heap.size, 1, none⟩) hRlo (.slice A ks.length n)).setLow (a := ⟨w.heap.size, 2, none⟩) hRlo (.int .i64 s)
    exact ⟨i, s, _, ks, rfl, wi, ws, ho.wide (by omega) (by simp only [World.setCell, Array.size_modify]; have := lf5.lt; omega), by omega, hb⟩
end Go.Proofs.YtjfmmingkciapaaGreatDoor
