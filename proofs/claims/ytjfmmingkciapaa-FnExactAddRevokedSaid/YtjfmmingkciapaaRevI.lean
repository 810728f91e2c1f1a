/- Revocations (chapter 11): contracts of the landed functions: what is valid, and what is looked up (an embedded map with promoted methods). No condition but the bounds of what came in. -/
import Derived.Test.YtjfmmingkciapaaRevM
import Derived.Test.YtjfmmingkciapaaDirK
import Derived.Test.YtjfmmingkciapaaAsc
import Derived.Test.YtjfmmingkciapaaTimesI
import Derived.Test.YtjfmmingkciapaaBlk
import Derived.Deep.DeepCutAuto
import Derived.Outline
namespace Go.Proofs.Ytjfmmingkciapaa
open Go.ChangeShapes Go.WideShapes Go.ChangeAt Go.RowKit Go.Maps
set_option linter.unusedVariables false

/-- The place at which a number stands first, counted from n; -1 if it does not. -/
def firstR (s : Int) : List RevokedD → Int → Int
  | [], _ => -1
  | x :: l, i => if x.Serial = s then i else firstR s l (i + 1)
def findR (xs : List RevokedD) (s : Int) : Int := firstR s xs 0
theorem firstR_snoc (s : Int) (x : RevokedD) : ∀ (xs : List RevokedD) (n : Nat), firstR s (xs ++ [x]) (n : Int) = if firstR s xs (n : Int) = -1 then (if x.Serial = s then ((n + xs.length : Nat) : Int) else -1) else firstR s xs (n : Int)
  | [], n => by simp [firstR]
  | y :: ys, n => by
    rw [List.cons_append]
    unfold firstR
    by_cases hp : y.Serial = s
    · rw [if_pos hp, if_pos hp, if_neg (by omega)]
    · have h := firstR_snoc s x ys (n + 1)
      rw [if_neg hp, if_neg hp, show ((n : Int) + 1) = ((n + 1 : Nat) : Int) by omega, h, List.length_cons, show n + 1 + ys.length = n + (ys.length + 1) by omega]
theorem findR_take {xs : List RevokedD} {k : Nat} {x : RevokedD} (hx : xs[k]? = some x) (s : Int) :
    findR (xs.take (k + 1)) s = if findR (xs.take k) s = -1 then (if x.Serial = s then (k : Int) else -1) else findR (xs.take k) s := by
  have hk : k < xs.length := (List.getElem?_eq_some_iff.1 hx).1
  have h := firstR_snoc s x (xs.take k) 0
  have hl : (xs.take k).length = k := by rw [List.length_take]; omega
  rw [hl, Nat.zero_add] at h
  unfold findR
  rw [List.take_add_one, hx]
  simpa using h
/-- What is found: nothing, or the first element with the number. -/
theorem firstR_cases (s : Int) : ∀ (xs : List RevokedD) (n : Nat), (firstR s xs (n : Int) = -1 ∧ atR xs s = -1 ∧ ∀ x ∈ xs, x.Serial ≠ s) ∨ (∃ (i : Nat) (x : RevokedD), firstR s xs (n : Int) = ((n + i : Nat) : Int) ∧ xs[i]? = some x ∧ x.Serial = s ∧ atR xs s = x.At)
  | [], n => .inl ⟨rfl, rfl, by simp⟩
  | y :: ys, n => by
    by_cases hp : y.Serial = s
    · exact .inr ⟨0, y, by unfold firstR; rw [if_pos hp]; rfl, rfl, hp, by unfold atR; rw [if_pos hp]⟩
    · rcases firstR_cases s ys (n + 1) with ⟨h1, h2, h3⟩ | ⟨i, x, h1, h2, h3, h4⟩
      · refine .inl ⟨by unfold firstR; rw [if_neg hp]; exact h1, by unfold atR; rw [if_neg hp]; exact h2, fun x hx => ?_⟩
        rcases List.mem_cons.1 hx with rfl | hx
        · exact hp
        · exact h3 x hx
      · refine .inr ⟨i + 1, x, ?_, by simpa using h2, h3, by unfold atR; rw [if_neg hp]; exact h4⟩
        unfold firstR
        rw [if_neg hp, show ((n : Int) + 1) = ((n + 1 : Nat) : Int) by omega, h1, show n + 1 + i = n + (i + 1) by omega]
theorem findR_cases (xs : List RevokedD) (s : Int) : (findR xs s = -1 ∧ atR xs s = -1 ∧ ∀ x ∈ xs, x.Serial ≠ s) ∨ (∃ (i : Nat) (x : RevokedD), findR xs s = (i : Int) ∧ xs[i]? = some x ∧ x.Serial = s ∧ atR xs s = x.At) := by
  have h := firstR_cases s xs 0
  simpa [findR] using h
/-- The places of revocations, by their numbers: what the map holds after k elements. -/
structure DirR (D : DataW Unit) (xs : List RevokedD) (k : Nat) : Prop where
  map : IsMap D
  no : ∀ id, findR (xs.take k) id = -1 → Maps.has D (.int .i64 id) = false
  yes : ∀ id, findR (xs.take k) id ≠ -1 → Maps.has D (.int .i64 id) = true ∧ D.atKey (.int .i64 id) (.lit (.int .i64 0)) = .lit (.int .i64 (findR (xs.take k) id))
theorem DirR.zero (xs : List RevokedD) : DirR (.map []) xs 0 := ⟨isMap_empty, fun _ _ => rfl, fun id h => absurd rfl h⟩
theorem DirR.skip {D : DataW Unit} {xs : List RevokedD} {k : Nat} {x : RevokedD} (h : DirR D xs k) (hx : xs[k]? = some x) (hh : Maps.has D (.int .i64 x.Serial) = true) : DirR D xs (k + 1) := by
  have hne : findR (xs.take k) x.Serial ≠ -1 := fun e => by
    have := h.no x.Serial e
    rw [hh] at this
    cases this
  have e : ∀ id, findR (xs.take (k + 1)) id = findR (xs.take k) id := fun id => by
    rw [findR_take hx]
    by_cases h1 : findR (xs.take k) id = -1
    · rw [if_pos h1, if_neg fun e => hne (by rw [e]; exact h1), h1]
    · rw [if_neg h1]
  exact ⟨h.map, fun id hid => h.no id (by rw [← e]; exact hid), fun id hid => by rw [e]; exact h.yes id (by rw [← e]; exact hid)⟩
theorem DirR.put {D : DataW Unit} {xs : List RevokedD} {k : Nat} {x : RevokedD} (h : DirR D xs k) (hx : xs[k]? = some x) (hh : Maps.has D (.int .i64 x.Serial) = false) : DirR (D.put (.int .i64 x.Serial) (.lit (.int .i64 (k : Int)))) xs (k + 1) := by
  have hne : findR (xs.take k) x.Serial = -1 := by
    by_cases e : findR (xs.take k) x.Serial = -1
    · exact e
    · have := (h.yes x.Serial e).1
      rw [hh] at this
      cases this
  have e : ∀ id, id ≠ x.Serial → findR (xs.take (k + 1)) id = findR (xs.take k) id := fun id hid => by
    rw [findR_take hx]
    by_cases h1 : findR (xs.take k) id = -1
    · rw [if_pos h1, if_neg (Ne.symm hid), h1]
    · rw [if_neg h1]
  have e2 : findR (xs.take (k + 1)) x.Serial = (k : Int) := by rw [findR_take hx, if_pos hne, if_pos rfl]
  have hk : WideAt.IsKeyLit (.int .i64 x.Serial) := trivial
  have hl : ∀ id, id ≠ x.Serial → (Lit.int .i64 id) ≠ .int .i64 x.Serial := fun id hid e => hid (by injection e)
  refine ⟨h.map.put _ _, fun id hid => ?_, fun id hid => ?_⟩
  · by_cases h1 : id = x.Serial
    · rw [h1, e2] at hid
      omega
    · rw [has_put_other (hl id h1)]
      exact h.no id (by rw [← e id h1]; exact hid)
  · by_cases h1 : id = x.Serial
    · subst h1
      exact ⟨has_put_same h.map hk _, by rw [atKey_put_same h.map hk, e2]⟩
    · rw [has_put_other (hl id h1), atKey_put_other (hl id h1), e id h1]
      exact h.yes id (by rw [← e id h1]; exact hid)
theorem ownsMap_below {P : Program} {k : TypeId} {R : Value → Option (DataW Unit × List MemPlace)} {w w' : World} {b n B : Nat} {D : DataW Unit} (h : w.ownsMap P k R b n D) (hb : Below B w w') (hB : b < B) : w'.ownsMap P k R b n D := by
  obtain ⟨es, clock, h1, h2⟩ := h
  exact ⟨es, clock, (hb.block b hB).trans h1, h2⟩
/-- A directory of xs that lies in block b, made by the call. -/
def HasDir (w : World) (b : Nat) (xs : List RevokedD) : Prop := ∃ (n : Nat) (D : DataW Unit), w.ownsMap Try.prog 3 (plainElem Try.prog 3) b n D ∧ DirR D xs xs.length
theorem HasDir.below {w w' : World} {b B : Nat} {xs : List RevokedD} (h : HasDir w b xs) (hb : Below B w w') (hB : b < B) : HasDir w' b xs := by
  obtain ⟨n, D, h1, h2⟩ := h
  exact ⟨n, D, ownsMap_below h1 hb hB, h2⟩
theorem HasDir.lt {w : World} {b : Nat} {xs : List RevokedD} (h : HasDir w b xs) : b < w.heap.size := by
  obtain ⟨n, D, h1, _⟩ := h
  exact h1.lt
theorem impl_lookUpR (w : World) (b : Nat) (xs : List RevokedD) (s : Int) (h : HasDir w b xs) (hs : (Lit.int .i64 s).wf = true) :
    Calls Try.prog 119 #[.map (some b), .int .i64 s] w fun e w' => e = .returned (.int .i64 (findR xs s)) ∧ w' = w := by
  obtain ⟨n, D, hown, HM⟩ := h
  have hl : xs.take xs.length = xs := List.take_of_length_le (Nat.le_refl _)
  exact impl_lookUp w b n D s (findR xs s) hown hs (by
    by_cases e : findR xs s = -1
    · exact .inl ⟨HM.no s (by rw [hl]; exact e), e⟩
    · have := HM.yes s (by rw [hl]; exact e)
      rw [hl] at this
      exact .inr this)
theorem impl_copyRevoked (w : World) (hi c : Nat) (a : Option Addr) (xs : List RevokedD) (h : RowRevoked w hi (.slice a xs.length c) xs) (hh : hi ≤ w.heap.size) (hn : xs.length ≤ 1048576) :
    Calls Try.prog 77 #[.slice a xs.length c] w fun e w' => ∃ u, e = .returned u ∧ OwnRevoked w' w.heap.size w'.heap.size u xs ∧ Below w.heap.size w w' := by
  obtain ⟨i0, hi0, hz0, hz1, hz2⟩ := info_parts infoRevoked
  obtain ⟨h1, h2⟩ := h.fits
  unfold maxLen at h2
  have hE := OwnC.empty 99 2 w
  have hb0 : Below w.heap.size w (w.alloc (.cells #[] 99)) := (Below.refl _ _).alloc (Nat.le_refl _) _
  have hr := h.below hb0 hh
  go_enter Try.func77, Try.ntmps77
  go_wp2_with (at_builtin; refine wpList_append_OwnC rfl _ _ _ rfl i0 (.agg zerosRevoked.toArray) 16 Try.underlying37 hi0 hz0 hz1 hz2 rfl (by decide) rfl hE _ _ _ _ rfl hr (flat_one RevokedD.one xs) (by omega) (by decide) (by simp) ?_; intro v w' ho hb)
  go_ret
  refine ⟨_, rfl, ?_, hb0.trans hb⟩
  have e : 0 + xs.length = xs.length := Nat.zero_add _
  rw [e, List.nil_append] at ho
  exact ho
set_option maxHeartbeats 4000000 in
theorem impl_areRevoked (w : World) (hi c : Nat) (a : Option Addr) (xs : List RevokedD) (h : RowRevoked w hi (.slice a xs.length c) xs) :
    Calls Try.prog 23 #[.slice a xs.length c] w fun e w' => e = .returned (.bool (revB xs)) ∧ Below w.heap.size w w' := by
  obtain ⟨h1, h2⟩ := h.fits
  unfold maxLen at h2
  have H := Lib.hid h
  clear h
  obtain ⟨R, hR⟩ : ∃ R, revB xs = R := ⟨_, rfl⟩
  rw [hR]
  have HR := Lib.hid hR
  clear hR
  go_enter Try.func23, Try.ntmps23
  go_wp2
  go_loopw [3, 8] (fun l i wr => ∃ (k : Nat) (p : Int), k ≤ xs.length ∧ i = .int .i64 (k : Int) ∧ l = .int .i64 p ∧ 0 ≤ p ∧ p ≤ 9999 ∧ Hid (R = (revGo p (xs.drop k) && decide (xs.length ≤ 40))) ∧ Below w.heap.size w wr) (fun _ i _ => xs.length - (intOf i).toNat)
  case atStart => exact ⟨0, 0, Nat.zero_le _, rfl, rfl, Int.le_refl _, by decide, Lib.hid HR.out.symm, Below.refl _ _⟩
  case round =>
    obtain ⟨k, p, hk, rfl, rfl, hp0, hp1, HI, hb⟩ := hrel
    by_cases hlt : k < xs.length
    · obtain ⟨x, hx⟩ : ∃ x, xs[k]? = some x := ⟨_, List.getElem?_eq_getElem hlt⟩
      have hA : revGo p (xs.drop k) = (decide (p + 1 ≤ x.Serial ∧ x.Serial ≤ 9999) && decide (isT x.At) && revGo x.Serial (xs.drop (k + 1))) := by
        rw [drop_at hx]
        rfl
      have HA := Lib.hid hA
      obtain ⟨p0, p1⟩ := x
      dsimp only at HA
      obtain ⟨b, off, rfl, g1, g2, HCY⟩ := H.out.at hx
      obtain ⟨c0, c1⟩ := HCY _ _ g2 hb
      have hsw := hb.size
      obtain ⟨W1, hW1⟩ : ∃ W1, wr.alloc (.cells #[.int .i64 p0, .int .i64 p1] 99) = W1 := ⟨_, rfl⟩
      have hbk : W1.heap[wr.heap.size]? = some (.cells #[.int .i64 p0, .int .i64 p1] 99) := by rw [← hW1]; exact blk_new _ _ _
      have b1 : Below wr.heap.size wr W1 := by rw [← hW1]; exact (Below.refl _ _).alloc (Nat.le_refl _) _
      have hs1 : W1.heap.size = wr.heap.size + 1 := by rw [← hW1]; exact size_alloc _ _
      have d1 := hb.trans (b1.mono hb.size)
      have x0 := blk_cell hbk 0 rfl
      have x1 := blk_cell hbk 1 rfl
      have HBK := Lib.hid hbk
      clear hbk HCY hx hA
      obtain ⟨av, hav⟩ : ∃ av, decide (p + 1 ≤ p0 ∧ p0 ≤ 9999) = av := ⟨_, rfl⟩
      obtain ⟨tv, htv⟩ : ∃ tv, decide (isT p1) = tv := ⟨_, rfl⟩
      have CA := Lib.hid (fun W => range_is p0 (p + 1) 9999 W av hav)
      have CT := Lib.hid (fun W => isTime_is p1 W tv htv)
      have HAV := Lib.hid hav
      have HTV := Lib.hid htv
      clear hav htv
      have hw1 : IntKind.i64.wrap (p + 1) = p + 1 := by rw [IntKind.wrap_i64]; omega
      cases av
      · have HF := Lib.hid (show R = false by rw [HI.out, HA.out, HAV.out]; rfl)
        go_wp2_with (go_at_call 78; refine (CA.out _).mono ?_; rintro e u ⟨rfl, rfl⟩)
        go_ret
        exact ⟨ret_b HF.out.symm, d1⟩
      · cases tv
        · have HF := Lib.hid (show R = false by rw [HI.out, HA.out, HTV.out, Bool.and_false]; rfl)
          go_wp2_with (first | (go_at_call 78; refine (CA.out _).mono ?_; rintro e u ⟨rfl, rfl⟩) | (go_at_call 74; refine (CT.out _).mono ?_; rintro e u2 ⟨rfl, b2⟩))
          go_ret
          exact ⟨ret_b HF.out.symm, d1.trans (b2.mono d1.size)⟩
        · have HF := Lib.hid (show R = (revGo p0 (xs.drop (k + 1)) && decide (xs.length ≤ 40)) by rw [HI.out, HA.out, HAV.out, HTV.out]; rfl)
          have hp := of_decide_eq_true HAV.out
          go_wp2_with (first | (go_at_call 78; refine (CA.out _).mono ?_; rintro e u ⟨rfl, rfl⟩) | (go_at_call 74; refine (CT.out _).mono ?_; rintro e u2 ⟨rfl, b2⟩; have y0 := blk_cell (blk_keep HBK.out b2 (blk_lt HBK.out)) 0 rfl))
          exact ⟨⟨k + 1, p0, by omega, by go_num, rfl, by omega, hp.2, HF, d1.trans (b2.mono d1.size)⟩, by simp only [intOf]; omega⟩
    · obtain rfl : k = xs.length := by omega
      have HF := Lib.hid (show R = decide ((xs.length : Int) ≤ 40) by
        rw [HI.out, List.drop_of_length_le (Nat.le_refl _)]
        show (true && _) = _
        rw [Bool.true_and]
        exact decide_eq_decide.2 (by omega))
      go_wp2
      go_ret
      exact ⟨ret_b HF.out.symm, hb⟩
end Go.Proofs.Ytjfmmingkciapaa
