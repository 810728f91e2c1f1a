/- Text of conditions (chapter 16): mathematics: the text of a condition, and how it is read back. No condition. -/
import Derived.Test.YtmdmkdjeaffhaaaGreatDoorCondM
import Derived.Test.YtmdmkdjeaffhaaaGreatDoorMNum
namespace Go.Proofs.YtmdmkdjeaffhaaaGreatDoor
open Go.Lib
set_option linter.unusedVariables false

/-- What ends a word: a blank, a bracket. -/
def sepB (c : UInt8) : Bool := c == 32 || (c == 40 || c == 41)
def skip1 (c : UInt8) : List UInt8 → List UInt8
  | [] => []
  | x :: r => if x == c then r else x :: r
/-- The word at the head. -/
def wordL (s : List UInt8) : List UInt8 := s.takeWhile fun c => !sepB c
/-- What lies behind it and one blank. -/
def restL (s : List UInt8) : List UInt8 := skip1 32 (s.dropWhile fun c => !sepB c)
/-- What may follow a condition's text. -/
def EndB (r : List UInt8) : Prop := r = [] ∨ ∃ c t, r = c :: t ∧ (c = 32 ∨ c = 41)
theorem EndB.nil : EndB [] := .inl rfl
theorem EndB.blank (t : List UInt8) : EndB (32 :: t) := .inr ⟨_, _, rfl, .inl rfl⟩
theorem EndB.shut (t : List UInt8) : EndB (41 :: t) := .inr ⟨_, _, rfl, .inr rfl⟩
theorem word_of {w r : List UInt8} (hw : w.all (fun c => !sepB c) = true) (hr : EndB r) : wordL (w ++ r) = w ∧ restL (w ++ r) = skip1 32 r := by
  rw [List.all_eq_true] at hw
  have h1 : r.takeWhile (fun c => !sepB c) = [] := by
    rcases hr with rfl | ⟨c, t, rfl, rfl | rfl⟩
    · rfl
    · exact List.takeWhile_cons_of_neg (by decide)
    · exact List.takeWhile_cons_of_neg (by decide)
  have h2 : r.dropWhile (fun c => !sepB c) = r := by
    rcases hr with rfl | ⟨c, t, rfl, rfl | rfl⟩
    · rfl
    · exact List.dropWhile_cons_of_neg (by decide)
    · exact List.dropWhile_cons_of_neg (by decide)
  unfold wordL restL
  rw [List.takeWhile_append_of_pos hw, List.dropWhile_append_of_pos hw, h1, h2, List.append_nil]
  exact ⟨rfl, rfl⟩
def nameL (o : Int) : List UInt8 :=
  if o = 1 then [116, 114, 117, 101] else if o = 2 then [114, 111, 108, 101] else if o = 3 then [111, 119, 110, 115] else if o = 4 then [104, 101, 97, 108, 116, 104]
  else if o = 5 then [98, 117, 105, 108, 100] else if o = 6 then [98, 101, 102, 111, 114, 101] else if o = 7 then [110, 111, 116] else if o = 8 then [97, 110, 100] else if o = 9 then [111, 114] else []
/-- The operation that a word names, of the first seven. -/
def opOf (w : List UInt8) : Int :=
  if w = nameL 1 then 1 else if w = nameL 2 then 2 else if w = nameL 3 then 3 else if w = nameL 4 then 4 else if w = nameL 5 then 5 else if w = nameL 6 then 6 else if w = nameL 7 then 7 else 0
def decL16 (n : Int) : List UInt8 := decDigits n.toNat
def numL (s : List UInt8) : Int := if parsed s = true then parsedVal s else -1
theorem dig_word (u : Nat) : (decDigits u).all (fun c => !sepB c) = true := by
  have h := decDigits_isDig u
  rw [List.all_eq_true] at h ⊢
  intro c hc
  have h1 := of_decide_eq_true (h c hc)
  have n1 : c ≠ 32 := by rintro rfl; exact absurd h1 (by decide)
  have n2 : c ≠ 40 := by rintro rfl; exact absurd h1 (by decide)
  have n3 : c ≠ 41 := by rintro rfl; exact absurd h1 (by decide)
  simp [sepB, n1, n2, n3]
theorem num_dec {n : Int} (h0 : 0 ≤ n) (h1 : n ≤ 10000) : numL (decL16 n) = n := by
  unfold numL decL16
  rw [if_pos (parsed_decDigits _ (by omega)), parsedVal_decDigits _ (by omega)]
  omega
def textJ (o a b : Int) (ts : List (List UInt8)) : List UInt8 :=
  if o = 2 ∨ o = 4 ∨ o = 5 then nameL o ++ 32 :: (decL16 a ++ 32 :: decL16 b)
  else if o = 3 then nameL o ++ 32 :: decL16 b
  else if o = 6 then nameL o ++ 32 :: decL16 a
  else if o = 7 then nameL o ++ 32 :: ts.getD 0 []
  else if o = 8 ∨ o = 9 then 40 :: (ts.getD 0 [] ++ 32 :: (nameL o ++ 32 :: (ts.getD 1 [] ++ [41])))
  else nameL o
mutual
/-- The text of a condition. -/
def textC : CondD → List UInt8
  | ⟨o, a, b, es⟩ => textJ o a b (textsC es)
def textsC : List CondD → List (List UInt8)
  | [] => []
  | x :: xs => textC x :: textsC xs
end
def zeroC : CondD := ⟨0, 0, 0, []⟩
/-- What a text is read as, with this many levels left, and what is left of it. -/
def prs : Nat → List UInt8 → CondD × List UInt8
  | 0, _ => (zeroC, [])
  | _ + 1, [] => (zeroC, [])
  | n + 1, c :: r =>
    if c = 40 then
      (⟨if wordL (prs n r).2 = nameL 9 then 9 else 8, 0, 0, [(prs n r).1, (prs n (restL (prs n r).2)).1]⟩, skip1 32 (skip1 41 (prs n (restL (prs n r).2)).2))
    else if opOf (wordL (c :: r)) = 2 ∨ opOf (wordL (c :: r)) = 4 ∨ opOf (wordL (c :: r)) = 5 then
      (⟨opOf (wordL (c :: r)), numL (wordL (restL (c :: r))), numL (wordL (restL (restL (c :: r)))), []⟩, restL (restL (restL (c :: r))))
    else if opOf (wordL (c :: r)) = 3 then (⟨3, 0, numL (wordL (restL (c :: r))), []⟩, restL (restL (c :: r)))
    else if opOf (wordL (c :: r)) = 6 then (⟨6, numL (wordL (restL (c :: r))), 0, []⟩, restL (restL (c :: r)))
    else if opOf (wordL (c :: r)) = 7 then (⟨7, 0, 0, [(prs n (restL (c :: r))).1]⟩, (prs n (restL (c :: r))).2)
    else (⟨opOf (wordL (c :: r)), 0, 0, []⟩, restL (c :: r))
/-- Nodes that are valid, by their operation. -/
theorem node_inv {o a b : Int} {n : Nat} (h : nodeOk o a b n = true) :
    (o = 1 ∧ a = 0 ∧ b = 0 ∧ n = 0) ∨ ((o = 2 ∨ o = 4 ∨ o = 5) ∧ (0 ≤ a ∧ a ≤ 10000) ∧ (0 ≤ b ∧ b ≤ 10000) ∧ n = 0) ∨ (o = 3 ∧ a = 0 ∧ (0 ≤ b ∧ b ≤ 10000) ∧ n = 0) ∨
    (o = 6 ∧ (0 ≤ a ∧ a ≤ 10000) ∧ b = 0 ∧ n = 0) ∨ (o = 7 ∧ a = 0 ∧ b = 0 ∧ n = 1) ∨ ((o = 8 ∨ o = 9) ∧ a = 0 ∧ b = 0 ∧ n = 2) := by
  unfold nodeOk at h
  rw [Bool.and_eq_true, Bool.and_eq_true, beq_iff_eq] at h
  obtain ⟨ha, hb, hn⟩ := h
  unfold arityD at hn
  have ho : o = 1 ∨ o = 2 ∨ o = 3 ∨ o = 4 ∨ o = 5 ∨ o = 6 ∨ o = 7 ∨ o = 8 ∨ o = 9 := by
    split at hn
    · omega
    · split at hn
      · omega
      · split at hn
        · omega
        · omega
  unfold nodeA at ha
  unfold nodeB at hb
  rcases ho with rfl | rfl | rfl | rfl | rfl | rfl | rfl | rfl | rfl <;> simp at ha hb hn <;> omega
theorem opOf_name {o : Int} (h : 1 ≤ o ∧ o ≤ 7) : opOf (nameL o) = o := by
  have : o = 1 ∨ o = 2 ∨ o = 3 ∨ o = 4 ∨ o = 5 ∨ o = 6 ∨ o = 7 := by omega
  rcases this with rfl | rfl | rfl | rfl | rfl | rfl | rfl <;> decide
theorem name_word (o : Int) : (nameL o).all (fun c => !sepB c) = true := by
  unfold nameL
  repeat' split
  all_goals decide
theorem name_head {o : Int} (h : 1 ≤ o ∧ o ≤ 9) : ∃ c t, nameL o = c :: t ∧ c ≠ 40 := by
  have : o = 1 ∨ o = 2 ∨ o = 3 ∨ o = 4 ∨ o = 5 ∨ o = 6 ∨ o = 7 ∨ o = 8 ∨ o = 9 := by omega
  rcases this with rfl | rfl | rfl | rfl | rfl | rfl | rfl | rfl | rfl <;> exact ⟨_, _, rfl, by decide⟩
/-- A text that begins with one of the first seven names. -/
theorem prs_name {o : Int} (h : 1 ≤ o ∧ o ≤ 7) (n : Nat) {r : List UInt8} (hr : EndB r) : prs (n + 1) (nameL o ++ r) =
    if o = 2 ∨ o = 4 ∨ o = 5 then (⟨o, numL (wordL (skip1 32 r)), numL (wordL (restL (skip1 32 r))), []⟩, restL (restL (skip1 32 r)))
    else if o = 3 then (⟨3, 0, numL (wordL (skip1 32 r)), []⟩, restL (skip1 32 r))
    else if o = 6 then (⟨6, numL (wordL (skip1 32 r)), 0, []⟩, restL (skip1 32 r))
    else if o = 7 then (⟨7, 0, 0, [(prs n (skip1 32 r)).1]⟩, (prs n (skip1 32 r)).2)
    else (⟨o, 0, 0, []⟩, skip1 32 r) := by
  obtain ⟨h1, h2⟩ := word_of (name_word o) hr
  obtain ⟨c, t, hc, hn⟩ := name_head (show 1 ≤ o ∧ o ≤ 9 by omega)
  have h3 := opOf_name h
  rw [hc] at h1 h2 h3 ⊢
  rw [List.cons_append] at h1 h2 ⊢
  rw [prs, if_neg hn, h1, h2, h3]
theorem size_lt_mem {es : List CondD} {k : Nat} {x : CondD} (h : es[k]? = some x) (o a b : Int) : sizeD x < sizeD ⟨o, a, b, es⟩ := by
  have h1 := sizesTo_succ h
  have h2 := (sizesTo_le es (k + 1) (List.getElem?_eq_some_iff.1 h).1).2
  have h3 := (sizesTo_le es k (Nat.le_of_lt (List.getElem?_eq_some_iff.1 h).1)).1
  rw [sizesTo_all]
  omega
theorem skip_blank (t : List UInt8) : skip1 32 (32 :: t) = t := rfl
theorem skip_shut (t : List UInt8) : skip1 32 (41 :: t) = 41 :: t := rfl
/-- A condition's text is read as it. -/
theorem prs_text (n : Nat) (x : CondD) (r : List UInt8) (hv : validC x = true) (hs : sizeD x ≤ (n : Int)) (hr : EndB r) : prs n (textC x ++ r) = (x, skip1 32 r) := by
  induction n generalizing x r with
  | zero => have := sizeD_pos x; omega
  | succ n ih =>
    obtain ⟨o, a, b, es⟩ := x
    rw [validC_mk, Bool.and_eq_true, List.all_eq_true] at hv
    obtain ⟨hn, he⟩ := hv
    have hlt : ∀ y ∈ es, sizeD y ≤ (n : Int) := fun y hy => by
      obtain ⟨k, hk⟩ := List.getElem?_of_mem hy
      have := size_lt_mem hk o a b
      omega
    rw [textC]
    rcases node_inv hn with ⟨rfl, rfl, rfl, h0⟩ | ⟨ho, ha, hb, h0⟩ | ⟨rfl, rfl, hb, h0⟩ | ⟨rfl, ha, rfl, h0⟩ | ⟨rfl, rfl, rfl, h0⟩ | ⟨ho, rfl, rfl, h0⟩
    · obtain rfl := List.length_eq_zero_iff.mp h0
      rw [show textJ 1 0 0 (textsC []) = nameL 1 from rfl, prs_name (by decide) n hr]
      rfl
    · obtain rfl := List.length_eq_zero_iff.mp h0
      unfold textJ
      rw [if_pos ho, List.append_assoc, List.cons_append, List.append_assoc, List.cons_append, prs_name (by omega) n (EndB.blank _), if_pos ho, skip_blank]
      obtain ⟨h1, h2⟩ := word_of (dig_word a.toNat) (EndB.blank (decL16 b ++ r))
      obtain ⟨h3, h4⟩ := word_of (dig_word b.toNat) hr
      have h5 := num_dec ha.1 ha.2
      have h6 := num_dec hb.1 hb.2
      unfold decL16 at *
      rw [h1, h2, skip_blank, h3, h4, h5, h6]
    · obtain rfl := List.length_eq_zero_iff.mp h0
      rw [show textJ 3 0 b (textsC []) = nameL 3 ++ 32 :: decL16 b from rfl, List.append_assoc, List.cons_append, prs_name (by decide) n (EndB.blank _), skip_blank]
      obtain ⟨h3, h4⟩ := word_of (dig_word b.toNat) hr
      have h6 := num_dec hb.1 hb.2
      unfold decL16 at *
      rw [h3, h4, h6]
      rfl
    · obtain rfl := List.length_eq_zero_iff.mp h0
      rw [show textJ 6 a 0 (textsC []) = nameL 6 ++ 32 :: decL16 a from rfl, List.append_assoc, List.cons_append, prs_name (by decide) n (EndB.blank _), skip_blank]
      obtain ⟨h3, h4⟩ := word_of (dig_word a.toNat) hr
      have h6 := num_dec ha.1 ha.2
      unfold decL16 at *
      rw [h3, h4, h6]
      rfl
    · obtain ⟨y, rfl⟩ := List.length_eq_one_iff.mp h0
      rw [show textJ 7 0 0 (textsC [y]) = nameL 7 ++ 32 :: textC y from by rw [textsC, textsC]; rfl, List.append_assoc, List.cons_append, prs_name (by decide) n (EndB.blank _), skip_blank]
      rw [ih y r (he y (by simp)) (hlt y (by simp)) hr]
      rfl
    · obtain ⟨y, z, rfl⟩ : ∃ y z, es = [y, z] := by
        match es, h0 with
        | [y, z], _ => exact ⟨y, z, rfl⟩
      have hy := fun q hq => ih y q (he y (by simp)) (hlt y (by simp)) hq
      have hz := fun q hq => ih z q (he z (by simp)) (hlt z (by simp)) hq
      have hT : textJ o 0 0 (textsC [y, z]) = 40 :: (textC y ++ 32 :: (nameL o ++ 32 :: (textC z ++ [41]))) := by
        rw [textsC, textsC, textsC]
        unfold textJ
        rw [if_neg (by omega), if_neg (by omega), if_neg (by omega), if_neg (by omega), if_pos ho]
        rfl
      rw [hT]
      simp only [List.cons_append, List.append_assoc, List.nil_append]
      rw [prs, if_pos rfl, hy _ (EndB.blank _), skip_blank]
      obtain ⟨h1, h2⟩ := word_of (name_word o) (EndB.blank (textC z ++ 41 :: r))
      rw [h1, h2, skip_blank, hz _ (EndB.shut _), skip_shut]
      rcases ho with rfl | rfl <;> rfl
theorem text_inj {x y : CondD} (hx : condB x = true) (hy : condB y = true) (h : textC x = textC y) : x = y := by
  unfold condB at hx hy
  rw [Bool.and_eq_true, decide_eq_true_iff] at hx hy
  have h1 := prs_text 15 x [] hx.2 hx.1 EndB.nil
  have h2 := prs_text 15 y [] hy.2 hy.1 EndB.nil
  rw [h, h2] at h1
  exact (congrArg Prod.fst h1).symm
/-- Is there a valid condition of this text? -/
def okText (s : List UInt8) : Bool := decide (s.length ≤ 400) && (condB (prs 16 s).1 && textC (prs 16 s).1 == s)
theorem okText_of {x : CondD} {s : List UInt8} (hx : condB x = true) (h : textC x = s) (hl : s.length ≤ 400) : okText s = true ∧ (prs 16 s).1 = x := by
  have hx' := hx
  unfold condB at hx'
  rw [Bool.and_eq_true, decide_eq_true_iff] at hx'
  have h1 := prs_text 16 x [] hx'.2 (by omega) EndB.nil
  rw [List.append_nil, h] at h1
  have h2 := congrArg Prod.fst h1
  unfold okText
  rw [h2, hx, h, decide_eq_true hl]
  simp
theorem okText_no {s : List UInt8} (h : okText s = false) (hl : s.length ≤ 400) (x : CondD) (hx : condB x = true) : textC x ≠ s := fun e => by
  rw [(okText_of hx e hl).1] at h
  exact Bool.noConfusion h
end Go.Proofs.YtmdmkdjeaffhaaaGreatDoor
