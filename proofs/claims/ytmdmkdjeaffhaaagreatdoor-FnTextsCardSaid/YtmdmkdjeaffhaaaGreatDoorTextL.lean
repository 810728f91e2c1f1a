/- Text of conditions (chapter 16): mathematics: the text read token by token, as the program reads it. No condition. -/
import Derived.Test.YtmdmkdjeaffhaaaGreatDoorMText2
namespace Go.Proofs.YtmdmkdjeaffhaaaGreatDoor
open Go.Lib
set_option linter.unusedVariables false

/-- The next token: nothing at the end; a blank, a bracket; else a word. -/
def tokL (s : List UInt8) : List UInt8 := match s with
  | [] => []
  | c :: r => if sepB c = true then [c] else wordL (c :: r)
def restT (s : List UInt8) : List UInt8 := s.drop (tokL s).length
theorem tok_rest (s : List UInt8) : tokL s ++ restT s = s := by
  unfold restT
  match s with
  | [] => rfl
  | c :: r =>
    unfold tokL
    dsimp only
    split
    · rfl
    · have h : wordL (c :: r) ++ (c :: r).dropWhile (fun c => !sepB c) = c :: r := List.takeWhile_append_dropWhile
      have h2 : (c :: r).drop (wordL (c :: r)).length = (c :: r).dropWhile (fun c => !sepB c) := by
        generalize wordL (c :: r) = a at h
        generalize (c :: r).dropWhile (fun c => !sepB c) = b at h
        rw [← h]
        exact List.drop_left
      rw [h2]
      exact h
theorem tok_pos {s : List UInt8} (h : s ≠ []) : tokL s ≠ [] := by
  match s, h with
  | c :: r, _ =>
    unfold tokL
    dsimp only
    split
    · intro e; cases e
    · rename_i hc
      unfold wordL
      rw [List.takeWhile_cons_of_pos (by simpa using hc)]
      intro e; cases e
theorem tok_nil {s : List UInt8} : tokL s = [] ↔ s = [] := ⟨fun h => Classical.byContradiction fun e => tok_pos e h, fun h => by rw [h]; rfl⟩
theorem tok_word {w r : List UInt8} (hw : w.all (fun c => !sepB c) = true) (h0 : w ≠ []) (hr : EndB r) : tokL (w ++ r) = w ∧ restT (w ++ r) = r := by
  have h1 : tokL (w ++ r) = w := by
    match w, h0 with
    | c :: t, _ =>
      have hc : sepB c = false := by
        have := List.all_eq_true.1 hw c List.mem_cons_self
        simpa using this
      rw [List.cons_append]
      unfold tokL
      dsimp only
      rw [if_neg (by rw [hc]; decide), ← List.cons_append]
      exact (word_of hw hr).1
  refine ⟨h1, ?_⟩
  unfold restT
  rw [h1]
  exact List.drop_left
theorem tok_sep {c : UInt8} (h : sepB c = true) (r : List UInt8) : tokL (c :: r) = [c] ∧ restT (c :: r) = r := by
  have h1 : tokL (c :: r) = [c] := by unfold tokL; dsimp only; rw [if_pos h]
  refine ⟨h1, ?_⟩
  unfold restT
  rw [h1]
  rfl
/-- The operation that a word names. -/
def opW (w : List UInt8) : Option Int :=
  if w = nameL 1 then some 1 else if w = nameL 2 then some 2 else if w = nameL 3 then some 3 else if w = nameL 4 then some 4 else if w = nameL 5 then some 5 else if w = nameL 6 then some 6 else if w = nameL 7 then some 7
  else if w = nameL 8 then some 8 else if w = nameL 9 then some 9 else none
theorem opW_some {w : List UInt8} {o : Int} (h : opW w = some o) : w = nameL o ∧ 1 ≤ o ∧ o ≤ 9 := by
  unfold opW at h
  repeat' split at h
  all_goals first | (cases h; done) | (injection h with h; subst h; exact ⟨by assumption, by decide, by decide⟩)
theorem opW_name {o : Int} (h : 1 ≤ o ∧ o ≤ 9) : opW (nameL o) = some o := by
  have : o = 1 ∨ o = 2 ∨ o = 3 ∨ o = 4 ∨ o = 5 ∨ o = 6 ∨ o = 7 ∨ o = 8 ∨ o = 9 := by omega
  rcases this with rfl | rfl | rfl | rfl | rfl | rfl | rfl | rfl | rfl <;> decide
def expT (t s : List UInt8) : Option (List UInt8) := if tokL s = t then some (restT s) else none
theorem expT_some {t s r : List UInt8} (h : expT t s = some r) : s = t ++ r := by
  unfold expT at h
  split at h
  · rename_i e
    injection h with h
    rw [← h, ← e, tok_rest]
  · cases h
def numT (s : List UInt8) : Option (Int × List UInt8) := if parsed (tokL s) = true then some (parsedVal (tokL s), restT s) else none
theorem numT_some {s r : List UInt8} {n : Int} (h : numT s = some (n, r)) : s = decL16 n ++ r ∧ 0 ≤ n ∧ n ≤ 1000000000000 := by
  unfold numT at h
  split at h
  · rename_i e
    injection h with h
    injection h with h1 h2
    have hb := parsedVal_bd (tokL s)
    obtain ⟨u, hu, e2⟩ := parsed_inv e
    have h3 : parsedVal (tokL s) = (u : Int) := by rw [e2, parsedVal_decDigits u hu]
    refine ⟨?_, by omega, by omega⟩
    rw [← h2, ← h1, h3]
    unfold decL16
    rw [Int.toNat_natCast, ← e2, tok_rest]
  · cases h
def argT (b : Bool) (s : List UInt8) : Option (Int × List UInt8) := if b = true then (expT [32] s).bind numT else some (0, s)
theorem argT_some {b : Bool} {s r : List UInt8} {n : Int} (h : argT b s = some (n, r)) : (b = false ∧ n = 0 ∧ r = s) ∨ (b = true ∧ s = 32 :: (decL16 n ++ r) ∧ 0 ≤ n ∧ n ≤ 1000000000000) := by
  unfold argT at h
  split at h
  · rename_i hb
    obtain ⟨s1, h1, h2⟩ := Option.bind_eq_some_iff.1 h
    have h3 := numT_some h2
    have h4 := expT_some h1
    exact .inr ⟨hb, by rw [h4, h3.1]; rfl, h3.2⟩
  · rename_i hb
    injection h with h
    injection h with h1 h2
    exact .inl ⟨by simpa using hb, h1.symm, h2.symm⟩
def hasA (o : Int) : Bool := decide (o = 2 ∨ o = 4 ∨ o = 5 ∨ o = 6)
def hasB (o : Int) : Bool := decide (o = 2 ∨ o = 3 ∨ o = 4 ∨ o = 5)
/-- What stands behind a leaf's word. -/
def leafT (o : Int) (s : List UInt8) : Option (CondD × List UInt8) :=
  (argT (hasA o) s).bind fun p => (argT (hasB o) p.2).bind fun q => some (⟨o, p.1, q.1, []⟩, q.2)
/-- What a text is read as, token by token, and what is left; nothing where no condition's text goes on so. -/
def rd : Nat → List UInt8 → Option (CondD × List UInt8)
  | 0, _ => none
  | n + 1, s =>
    if tokL s = [40] then
      (rd n (restT s)).bind fun p => (expT [32] p.2).bind fun s1 => (opW (tokL s1)).bind fun o => (expT [32] (restT s1)).bind fun s2 =>
        (rd n s2).bind fun q => (expT [41] q.2).bind fun s3 => some (⟨o, 0, 0, [p.1, q.1]⟩, s3)
    else (opW (tokL s)).bind fun o =>
      if o = 7 then (expT [32] (restT s)).bind fun s1 => (rd n s1).bind fun p => some (⟨7, 0, 0, [p.1]⟩, p.2)
      else leafT o (restT s)
theorem leafT_some {o : Int} {s r : List UInt8} {x : CondD} (h : leafT o s = some (x, r)) : ∃ a b s1, argT (hasA o) s = some (a, s1) ∧ argT (hasB o) s1 = some (b, r) ∧ x = ⟨o, a, b, []⟩ := by
  unfold leafT at h
  obtain ⟨⟨a, s1⟩, h1, h⟩ := Option.bind_eq_some_iff.1 h
  obtain ⟨⟨b, s2⟩, h2, h⟩ := Option.bind_eq_some_iff.1 h
  injection h with h
  injection h with h3 h4
  subst h4
  exact ⟨a, b, s1, h1, h2, h3.symm⟩
theorem arg_le {b : Bool} {s r : List UInt8} {n : Int} (h : argT b s = some (n, r)) : r.length ≤ s.length := by
  rcases argT_some h with ⟨_, _, rfl⟩ | ⟨_, rfl, _⟩
  · exact Nat.le_refl _
  · simp only [List.length_cons, List.length_append]; omega
theorem rd_size (n : Nat) {s r : List UInt8} {x : CondD} (h : rd n s = some (x, r)) : sizeD x + r.length ≤ s.length := by
  induction n generalizing s r x with
  | zero => cases h
  | succ n ih =>
    rw [rd] at h
    split at h
    · rename_i ht
      obtain ⟨⟨y, r1⟩, h1, h⟩ := Option.bind_eq_some_iff.1 h
      obtain ⟨s1, h2, h⟩ := Option.bind_eq_some_iff.1 h
      obtain ⟨o, h3, h⟩ := Option.bind_eq_some_iff.1 h
      obtain ⟨s2, h4, h⟩ := Option.bind_eq_some_iff.1 h
      obtain ⟨⟨z, r2⟩, h5, h⟩ := Option.bind_eq_some_iff.1 h
      obtain ⟨s3, h6, h⟩ := Option.bind_eq_some_iff.1 h
      injection h with h
      injection h with h7 h8
      subst h7 h8
      dsimp only at h2 h3 h4 h6 ⊢
      rw [two_size16]
      have e0 := congrArg List.length (tok_rest s)
      have e1 := congrArg List.length (tok_rest s1)
      have e2 := congrArg List.length (expT_some h2)
      have e3 := congrArg List.length (expT_some h4)
      have e4 := congrArg List.length (expT_some h6)
      have i1 := ih h1
      have i2 := ih h5
      rw [ht] at e0
      simp only [List.length_append, List.length_cons, List.length_nil] at e0 e1 e2 e3 e4
      omega
    · obtain ⟨o, h3, h⟩ := Option.bind_eq_some_iff.1 h
      have e0 := congrArg List.length (tok_rest s)
      have hw := opW_some h3
      have hp : 1 ≤ (tokL s).length := by
        obtain ⟨c, t, hc, _⟩ := name_head hw.2
        rw [hw.1, hc, List.length_cons]
        omega
      rw [List.length_append] at e0
      split at h
      · obtain ⟨s1, h2, h⟩ := Option.bind_eq_some_iff.1 h
        obtain ⟨⟨y, r1⟩, h1, h⟩ := Option.bind_eq_some_iff.1 h
        injection h with h
        injection h with h7 h8
        subst h7 h8
        dsimp only at h1 h2 ⊢
        rw [one_size16]
        have e2 := congrArg List.length (expT_some h2)
        have i1 := ih h1
        simp only [List.length_append, List.length_cons, List.length_nil] at e2
        omega
      · obtain ⟨a, b, s1, h1, h2, rfl⟩ := leafT_some h
        rw [leaf_size16]
        have l1 := arg_le h1
        have l2 := arg_le h2
        omega
/-- What is read as a valid condition is its text. -/
theorem rd_sound (n : Nat) {s r : List UInt8} {x : CondD} (h : rd n s = some (x, r)) (hv : validC x = true) : s = textC x ++ r := by
  induction n generalizing s r x with
  | zero => cases h
  | succ n ih =>
    rw [rd] at h
    split at h
    · rename_i ht
      obtain ⟨⟨y, r1⟩, h1, h⟩ := Option.bind_eq_some_iff.1 h
      obtain ⟨s1, h2, h⟩ := Option.bind_eq_some_iff.1 h
      obtain ⟨o, h3, h⟩ := Option.bind_eq_some_iff.1 h
      obtain ⟨s2, h4, h⟩ := Option.bind_eq_some_iff.1 h
      obtain ⟨⟨z, r2⟩, h5, h⟩ := Option.bind_eq_some_iff.1 h
      obtain ⟨s3, h6, h⟩ := Option.bind_eq_some_iff.1 h
      injection h with h
      injection h with h7 h8
      subst h7 h8
      dsimp only at h2 h3 h4 h6 hv
      rw [validC_mk, Bool.and_eq_true, List.all_eq_true] at hv
      obtain ⟨hn, he⟩ := hv
      have ho : o = 8 ∨ o = 9 := by
        have := node_inv hn
        simp only [List.length_cons, List.length_nil] at this
        omega
      have i1 := ih h1 (he y (by simp))
      have i2 := ih h5 (he z (by simp))
      have hT : textC ⟨o, 0, 0, [y, z]⟩ = 40 :: (textC y ++ 32 :: (nameL o ++ 32 :: (textC z ++ [41]))) := by
        rw [textC, textsC, textsC, textsC]
        unfold textJ
        rw [if_neg (by omega), if_neg (by omega), if_neg (by omega), if_neg (by omega), if_pos ho]
        rfl
      rw [hT]
      conv => lhs; rw [← tok_rest s, ht, i1, expT_some h2]
      rw [← tok_rest s1, (opW_some h3).1, expT_some h4, i2, expT_some h6]
      simp only [List.append_assoc, List.cons_append, List.nil_append]
    · obtain ⟨o, h3, h⟩ := Option.bind_eq_some_iff.1 h
      have hw := opW_some h3
      split at h
      · rename_i ho
        subst ho
        obtain ⟨s1, h2, h⟩ := Option.bind_eq_some_iff.1 h
        obtain ⟨⟨y, r1⟩, h1, h⟩ := Option.bind_eq_some_iff.1 h
        injection h with h
        injection h with h7 h8
        subst h7 h8
        dsimp only at hv
        rw [validC_mk, Bool.and_eq_true, List.all_eq_true] at hv
        obtain ⟨hn, he⟩ := hv
        have i1 := ih h1 (he y (by simp))
        have hT : textC ⟨7, 0, 0, [y]⟩ = nameL 7 ++ 32 :: textC y := by rw [textC, textsC, textsC]; rfl
        rw [hT]
        conv => lhs; rw [← tok_rest s, hw.1, expT_some h2, i1]
        simp only [List.append_assoc, List.cons_append, List.nil_append]
      · rename_i ho7
        obtain ⟨a, b, s1, h1, h2, rfl⟩ := leafT_some h
        rw [validC_mk, Bool.and_eq_true] at hv
        have hn := node_inv hv.1
        simp only [List.length_nil] at hn
        have hs := tok_rest s
        rw [hw.1] at hs
        rcases argT_some h1 with ⟨ha, rfl, e1⟩ | ⟨ha, e1, a0, a1⟩ <;> rcases argT_some h2 with ⟨hb, rfl, e2⟩ | ⟨hb, e2, b0, b1⟩ <;>
          simp only [hasA, hasB, decide_eq_true_eq, decide_eq_false_iff_not] at ha hb
        · have : o = 1 := by omega
          subst this
          rw [← hs, ← e1, ← e2]
          rfl
        · have : o = 3 := by omega
          subst this
          rw [← hs, ← e1, e2]
          show _ = (nameL 3 ++ 32 :: decL16 b) ++ r
          simp only [List.append_assoc, List.cons_append]
        · have : o = 6 := by omega
          subst this
          rw [← hs, e1, ← e2]
          show _ = (nameL 6 ++ 32 :: decL16 a) ++ r
          simp only [List.append_assoc, List.cons_append]
        · rw [← hs, e1, e2, textC]
          unfold textJ
          rw [if_pos (by omega)]
          simp only [List.append_assoc, List.cons_append]
theorem exp_sep {c : UInt8} (h : sepB c = true) (r : List UInt8) : expT [c] (c :: r) = some r := by
  unfold expT
  rw [if_pos (tok_sep h r).1, (tok_sep h r).2]
theorem dec_pos (n : Int) : decL16 n ≠ [] := fun h => by
  have := decDigits_pos n.toNat
  unfold decL16 at h
  rw [h] at this
  exact absurd this (by decide)
theorem num_of {n : Int} (h0 : 0 ≤ n) (h1 : n ≤ 10000) {r : List UInt8} (hr : EndB r) : numT (decL16 n ++ r) = some (n, r) := by
  obtain ⟨h2, h3⟩ := tok_word (dig_word n.toNat) (dec_pos n) hr
  unfold numT
  rw [show decL16 n = decDigits n.toNat from rfl, h2, h3, if_pos (parsed_decDigits _ (by omega)), parsedVal_decDigits _ (by omega), show ((n.toNat : Nat) : Int) = n from by omega]
theorem arg_of {n : Int} (h0 : 0 ≤ n) (h1 : n ≤ 10000) {r : List UInt8} (hr : EndB r) : argT true (32 :: (decL16 n ++ r)) = some (n, r) := by
  unfold argT
  rw [if_pos rfl, exp_sep rfl, Option.bind_some, num_of h0 h1 hr]
theorem arg_no (s : List UInt8) : argT false s = some (0, s) := rfl
theorem rd_name {o : Int} (h : 1 ≤ o ∧ o ≤ 9) (n : Nat) {r : List UInt8} (hr : EndB r) : rd (n + 1) (nameL o ++ r) =
    if o = 7 then (expT [32] r).bind fun s1 => (rd n s1).bind fun p => some (⟨7, 0, 0, [p.1]⟩, p.2) else leafT o r := by
  obtain ⟨c, t, hc, h4⟩ := name_head h
  obtain ⟨h1, h2⟩ := tok_word (name_word o) (by rw [hc]; intro e; cases e) hr
  rw [rd, h1, h2, if_neg (by rw [hc]; intro e; injection e with e _; exact h4 e), opW_name h]
  rfl
/-- A valid condition's text is read as it. -/
theorem rd_text (n : Nat) (x : CondD) (r : List UInt8) (hv : validC x = true) (hs : (textC x ++ r).length < n) (hr : EndB r) : rd n (textC x ++ r) = some (x, r) := by
  induction n generalizing x r with
  | zero => omega
  | succ n ih =>
    obtain ⟨o, a, b, es⟩ := x
    rw [validC_mk, Bool.and_eq_true, List.all_eq_true] at hv
    obtain ⟨hn, he⟩ := hv
    rw [textC] at hs ⊢
    rcases node_inv hn with ⟨rfl, rfl, rfl, h0⟩ | ⟨ho, ha, hb, h0⟩ | ⟨rfl, rfl, hb, h0⟩ | ⟨rfl, ha, rfl, h0⟩ | ⟨rfl, rfl, rfl, h0⟩ | ⟨ho, rfl, rfl, h0⟩
    · obtain rfl := List.length_eq_zero_iff.mp h0
      rw [show textJ 1 0 0 (textsC []) = nameL 1 from rfl, rd_name (by decide) n hr]
      rfl
    · obtain rfl := List.length_eq_zero_iff.mp h0
      unfold textJ
      have hA : hasA o = true := decide_eq_true (by omega)
      have hB : hasB o = true := decide_eq_true (by omega)
      rw [if_pos ho, List.append_assoc, List.cons_append, List.append_assoc, List.cons_append, rd_name (by omega) n (EndB.blank _), if_neg (by omega)]
      unfold leafT
      rw [hA, hB, arg_of ha.1 ha.2 (EndB.blank _), Option.bind_some]
      dsimp only
      rw [arg_of hb.1 hb.2 hr]
      rfl
    · obtain rfl := List.length_eq_zero_iff.mp h0
      rw [show textJ 3 0 b (textsC []) = nameL 3 ++ 32 :: decL16 b from rfl, List.append_assoc, List.cons_append, rd_name (by decide) n (EndB.blank _), if_neg (by decide)]
      unfold leafT
      rw [show hasA 3 = false from rfl, show hasB 3 = true from rfl, arg_no, Option.bind_some]
      dsimp only
      rw [arg_of hb.1 hb.2 hr]
      rfl
    · obtain rfl := List.length_eq_zero_iff.mp h0
      rw [show textJ 6 a 0 (textsC []) = nameL 6 ++ 32 :: decL16 a from rfl, List.append_assoc, List.cons_append, rd_name (by decide) n (EndB.blank _), if_neg (by decide)]
      unfold leafT
      rw [show hasA 6 = true from rfl, show hasB 6 = false from rfl, arg_of ha.1 ha.2 hr]
      rfl
    · obtain ⟨y, rfl⟩ := List.length_eq_one_iff.mp h0
      rw [show textJ 7 0 0 (textsC [y]) = nameL 7 ++ 32 :: textC y from by rw [textsC, textsC]; rfl, List.append_assoc, List.cons_append] at hs ⊢
      rw [rd_name (by decide) n (EndB.blank _), if_pos rfl, exp_sep rfl, Option.bind_some]
      rw [ih y r (he y (by simp)) (by simp only [List.length_append, List.length_cons] at hs ⊢; omega) hr]
      rfl
    · obtain ⟨y, z, rfl⟩ : ∃ y z, es = [y, z] := by
        match es, h0 with
        | [y, z], _ => exact ⟨y, z, rfl⟩
      have hT : textJ o 0 0 (textsC [y, z]) = 40 :: (textC y ++ 32 :: (nameL o ++ 32 :: (textC z ++ [41]))) := by
        rw [textsC, textsC, textsC]
        unfold textJ
        rw [if_neg (by omega), if_neg (by omega), if_neg (by omega), if_neg (by omega), if_pos ho]
        rfl
      rw [hT] at hs ⊢
      simp only [List.cons_append, List.append_assoc, List.nil_append] at hs ⊢
      have ho9 : 1 ≤ o ∧ o ≤ 9 := by omega
      obtain ⟨t1, t2⟩ := tok_sep (c := 40) rfl (textC y ++ 32 :: (nameL o ++ 32 :: (textC z ++ 41 :: r)))
      obtain ⟨c, t, hc, h4⟩ := name_head ho9
      obtain ⟨t3, t4⟩ := tok_word (name_word o) (by rw [hc]; intro e; cases e) (EndB.blank (textC z ++ 41 :: r))
      simp only [List.length_append, List.length_cons] at hs
      rw [rd, if_pos t1, t2, ih y _ (he y (by simp)) (by simp only [List.length_append, List.length_cons]; omega) (EndB.blank _), Option.bind_some]
      dsimp only
      rw [exp_sep rfl, Option.bind_some, t3, opW_name ho9, Option.bind_some, t4, exp_sep rfl, Option.bind_some,
        ih z _ (he z (by simp)) (by simp only [List.length_append, List.length_cons]; omega) (EndB.shut _), Option.bind_some]
      dsimp only
      rw [exp_sep rfl]
      rfl
/-- What a whole text is read as. -/
def landO (s : List UInt8) : Option CondD := (rd (s.length + 1) s).bind fun p => if tokL p.2 = [] then some p.1 else none
def landR (s : List UInt8) : CondD := (landO s).getD zeroC
theorem zero_no : condB zeroC = false := by
  unfold condB zeroC
  rw [validC_mk]
  have : nodeOk 0 0 0 0 = false := by decide
  rw [List.length_nil, this]
  simp
/-- It is a valid condition just where there is one of this text. -/
theorem land_ok {s : List UInt8} (hl : s.length ≤ 400) : condB (landR s) = okText s ∧ (okText s = true → landR s = (prs 16 s).1) := by
  have hfwd : okText s = true → landR s = (prs 16 s).1 ∧ condB (prs 16 s).1 = true := fun h => by
    unfold okText at h
    rw [Bool.and_eq_true, Bool.and_eq_true, beq_iff_eq] at h
    obtain ⟨_, hc, ht⟩ := h
    have hv := hc
    unfold condB at hv
    rw [Bool.and_eq_true] at hv
    have h1 := rd_text (s.length + 1) (prs 16 s).1 [] hv.2 (by rw [List.append_nil, ht]; omega) EndB.nil
    rw [List.append_nil, ht] at h1
    refine ⟨?_, hc⟩
    unfold landR landO
    rw [h1]
    rfl
  refine ⟨?_, fun h => (hfwd h).1⟩
  cases hk : okText s
  · cases hc : condB (landR s)
    · rfl
    · exfalso
      have h2 : ∃ x, landO s = some x ∧ condB x = true := by
        unfold landR at hc
        cases hL : landO s with
        | none => rw [hL, Option.getD_none, zero_no] at hc; exact Bool.noConfusion hc
        | some x => rw [hL] at hc; exact ⟨x, rfl, hc⟩
      obtain ⟨x, hx, hcx⟩ := h2
      unfold landO at hx
      obtain ⟨⟨y, r⟩, h3, h4⟩ := Option.bind_eq_some_iff.1 hx
      dsimp only at h4
      split at h4
      · rename_i hr
        injection h4 with h4
        subst h4
        have hv := hcx
        unfold condB at hv
        rw [Bool.and_eq_true] at hv
        have h5 := rd_sound _ h3 hv.2
        rw [tok_nil.1 hr, List.append_nil] at h5
        exact okText_no hk hl y hcx h5.symm
      · cases h4
  · rw [(hfwd hk).1]
    exact (hfwd hk).2
theorem land_size (s : List UInt8) : sizeD (landR s) ≤ s.length + 1 := by
  unfold landR
  cases hL : landO s with
  | none => rw [Option.getD_none]; unfold zeroC; rw [leaf_size16]; omega
  | some x =>
    rw [Option.getD_some]
    unfold landO at hL
    obtain ⟨⟨y, r⟩, h3, h4⟩ := Option.bind_eq_some_iff.1 hL
    dsimp only at h4
    split at h4
    · injection h4 with h4
      subst h4
      have := rd_size _ h3
      omega
    · cases h4
end Go.Proofs.YtmdmkdjeaffhaaaGreatDoor
