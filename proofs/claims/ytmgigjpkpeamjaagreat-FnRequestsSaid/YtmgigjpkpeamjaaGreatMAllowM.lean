/- Some texts in one: ZAllowed, Lit, AllowM. -/
import Derived.Test.YtmgigjpkpeamjaaGreatCell2
import Derived.Test.YtmgigjpkpeamjaaGreatMBlk
import Derived.Deep.RegionHeld3
import Derived.BigQuiet
import Derived.Deep.QuietTactic
import Derived.LoopTactic
import Derived.Lib.Hide
import Derived.Test.YtmgigjpkpeamjaaGreatMInts
import Derived.Deep.DeepCutAuto
import Derived.Outline
import Derived.Handy
import Derived.Below
import Derived.Deep.Cut
import Derived.Test.YtmgigjpkpeamjaaGreatMCellI
import Derived.Test.YtmgigjpkpeamjaaGreatRow
/- The type Allowed as data of cells, and the laws' own helpers over it and over slices of it. No condition but the bounds of what came in. -/
namespace Go.Proofs.YtmgigjpkpeamjaaGreat
open Go.ChangeShapes Go.WideShapes Go.ChangeAt Go.RowKit
set_option linter.unusedVariables false

structure AllowedD where
  Version : Int
  Good : List Int
  Old : List Int
  Bad : List Int
def AllowedD.c (x : AllowedD) : List Cell := [.num x.Version, rowF numC x.Good, rowF numC x.Old, rowF numC x.Bad]
theorem AllowedD.c_mk (p0 : Int) (es1 : List Int) (es2 : List Int) (es3 : List Int) : AllowedD.c ⟨p0, es1, es2, es3⟩ = [.num p0, rowF numC es1, rowF numC es2, rowF numC es3] := rfl
theorem AllowedD.c_len (x : AllowedD) : (AllowedD.c x).length = 4 := by
  obtain ⟨p0, es1, es2, es3⟩ := x
  rw [AllowedD.c_mk]
  rfl
theorem AllowedD.rd {w : World} {hi : Nat} {p0 : Int} {es1 : List Int} {es2 : List Int} {es3 : List Int} {vs : List Value} (h : rdL w hi (AllowedD.c ⟨p0, es1, es2, es3⟩) vs) : ∃ k1 k2 k3, vs = [.int .i64 p0, k1, k2, k3] ∧ (Lit.int .i64 p0).wf = true ∧ rdC w hi (rowF numC es1) k1 ∧ rdC w hi (rowF numC es2) k2 ∧ rdC w hi (rowF numC es3) k3 := by
  rw [AllowedD.c_mk] at h
  obtain ⟨v0, _, rfl, h0, v1, _, rfl, h1, v2, _, rfl, h2, v3, _, rfl, h3, rfl⟩ := h
  obtain ⟨rfl, w0⟩ := rdC_num.1 h0
  exact ⟨v1, v2, v3, rfl, w0, h1, h2, h3⟩
theorem AllowedD.ow {w : World} {p0 : Int} {es1 : List Int} {es2 : List Int} {es3 : List Int} {us : List Value} {f : List Nat} (h : owE w (AllowedD.c ⟨p0, es1, es2, es3⟩) us f) : ∃ k1 k2 k3 f1 f2 f3, us = [.int .i64 p0, k1, k2, k3] ∧ f = f1 ++ f2 ++ f3 ∧ (Lit.int .i64 p0).wf = true ∧ owC w (rowF numC es1) k1 f1 ∧ owC w (rowF numC es2) k2 f2 ∧ owC w (rowF numC es3) k3 f3 := by
  rw [AllowedD.c_mk] at h
  obtain ⟨v0, u0, a0, b0, rfl, rfl, h0, g0⟩ := owE_cons.1 h
  obtain ⟨v1, u1, a1, b1, rfl, rfl, h1, g1⟩ := owE_cons.1 g0
  obtain ⟨v2, u2, a2, b2, rfl, rfl, h2, g2⟩ := owE_cons.1 g1
  obtain ⟨v3, u3, a3, b3, rfl, rfl, h3, g3⟩ := owE_cons.1 g2
  obtain ⟨rfl, rfl⟩ := owE_nil.1 g3
  obtain ⟨rfl, w0, rfl⟩ := owC_num.1 h0
  exact ⟨v1, v2, v3, a1, a2, a3, rfl, by simp, w0, h1, h2, h3⟩
theorem AllowedD.ow_mk {w : World} {p0 : Int} {es1 : List Int} {es2 : List Int} {es3 : List Int} {k1 : Value} {k2 : Value} {k3 : Value} {f1 f2 f3 : List Nat} (h0 : (Lit.int .i64 p0).wf = true) (h1 : owC w (rowF numC es1) k1 f1) (h2 : owC w (rowF numC es2) k2 f2) (h3 : owC w (rowF numC es3) k3 f3) : owE w (AllowedD.c ⟨p0, es1, es2, es3⟩) [.int .i64 p0, k1, k2, k3] (f1 ++ f2 ++ f3) := by
  rw [AllowedD.c_mk]
  have h : owE w [.num p0, rowF numC es1, rowF numC es2, rowF numC es3] [.int .i64 p0, k1, k2, k3] (([] : List Nat) ++ (f1 ++ (f2 ++ (f3 ++ [])))) := owE_cons.2 ⟨_, _, [], _, rfl, rfl, owC_num.2 ⟨rfl, h0, rfl⟩, owE_cons.2 ⟨_, _, f1, _, rfl, rfl, h1, owE_cons.2 ⟨_, _, f2, _, rfl, rfl, h2, owE_cons.2 ⟨_, _, f3, _, rfl, rfl, h3, owE_nil.2 ⟨rfl, rfl⟩⟩⟩⟩⟩
  rw [show ([] : List Nat) ++ (f1 ++ (f2 ++ (f3 ++ []))) = f1 ++ f2 ++ f3 by simp] at h
  exact h
theorem AllowedD.sz (p0 : Int) (es1 : List Int) (es2 : List Int) (es3 : List Int) : szE (AllowedD.c ⟨p0, es1, es2, es3⟩) = szC (rowF numC es1) + szC (rowF numC es2) + szC (rowF numC es3) := by
  rw [AllowedD.c_mk]
  simp only [szE_cons, szE_nil, szC_num]
  omega
theorem AllowedD.mkd (p0 : Int) (es1 : List Int) (es2 : List Int) (es3 : List Int) (q : Int) : mkE (AllowedD.c ⟨p0, es1, es2, es3⟩) q = [.num (q), .row es1.length (mkE (es1.flatMap numC) (q + 1)), .row es2.length (mkE (es2.flatMap numC) (q + 1 + ctE (es1.flatMap numC))), .row es3.length (mkE (es3.flatMap numC) (q + 1 + ctE (es1.flatMap numC) + ctE (es2.flatMap numC)))] := by
  rw [AllowedD.c_mk]
  simp only [mkE_cons, mkE_nil, mkC_num, mkC_row, ctC_num, ctC_row]
theorem AllowedD.ct (p0 : Int) (es1 : List Int) (es2 : List Int) (es3 : List Int) (q : Int) : q + ctE (AllowedD.c ⟨p0, es1, es2, es3⟩) = q + 1 + ctE (es1.flatMap numC) + ctE (es2.flatMap numC) + ctE (es3.flatMap numC) := by
  rw [AllowedD.c_mk]
  simp only [ctE_cons, ctE_nil, ctC_num, ctC_row]
  omega
theorem AllowedD.rdm {w : World} {hi : Nat} {p0 : Int} {es1 : List Int} {es2 : List Int} {es3 : List Int} {q : Int} {vs : List Value} (h : rdL w hi (mkE (AllowedD.c ⟨p0, es1, es2, es3⟩) q) vs) : ∃ k1 k2 k3, vs = [.int .i64 (q), k1, k2, k3] ∧ rdC w hi (.row es1.length (mkE (es1.flatMap numC) (q + 1))) k1 ∧ rdC w hi (.row es2.length (mkE (es2.flatMap numC) (q + 1 + ctE (es1.flatMap numC)))) k2 ∧ rdC w hi (.row es3.length (mkE (es3.flatMap numC) (q + 1 + ctE (es1.flatMap numC) + ctE (es2.flatMap numC)))) k3 := by
  rw [AllowedD.mkd] at h
  obtain ⟨v0, _, rfl, h0, v1, _, rfl, h1, v2, _, rfl, h2, v3, _, rfl, h3, rfl⟩ := h
  obtain ⟨rfl, w0⟩ := rdC_num.1 h0
  exact ⟨v1, v2, v3, rfl, h1, h2, h3⟩
theorem AllowedD.ctTop (p0 : Int) (es1 : List Int) (es2 : List Int) (es3 : List Int) : ctT (AllowedD.c ⟨p0, es1, es2, es3⟩) = ctE (es1.flatMap numC) + ctE (es2.flatMap numC) + ctE (es3.flatMap numC) := by
  rw [AllowedD.c_mk]
  have h : ctT [.num p0, rowF numC es1, rowF numC es2, rowF numC es3] = ctE (es1.flatMap numC) + (ctE (es2.flatMap numC) + (ctE (es3.flatMap numC) + (0))) := rfl
  rw [h]
  omega
theorem AllowedD.mkTop (p0 : Int) (es1 : List Int) (es2 : List Int) (es3 : List Int) (q : Int) : mkT (AllowedD.c ⟨p0, es1, es2, es3⟩) q = [.num p0, .row es1.length (mkE (es1.flatMap numC) (q)), .row es2.length (mkE (es2.flatMap numC) (q + ctE (es1.flatMap numC))), .row es3.length (mkE (es3.flatMap numC) (q + ctE (es1.flatMap numC) + ctE (es2.flatMap numC)))] := by
  rw [AllowedD.c_mk]
  rfl
theorem AllowedD.rdTop {w : World} {hi : Nat} {p0 : Int} {es1 : List Int} {es2 : List Int} {es3 : List Int} {q : Int} {vs : List Value} (h : rdL w hi (mkT (AllowedD.c ⟨p0, es1, es2, es3⟩) q) vs) : ∃ k1 k2 k3, vs = [.int .i64 p0, k1, k2, k3] ∧ (Lit.int .i64 p0).wf = true ∧ rdC w hi (.row es1.length (mkE (es1.flatMap numC) (q))) k1 ∧ rdC w hi (.row es2.length (mkE (es2.flatMap numC) (q + ctE (es1.flatMap numC)))) k2 ∧ rdC w hi (.row es3.length (mkE (es3.flatMap numC) (q + ctE (es1.flatMap numC) + ctE (es2.flatMap numC)))) k3 := by
  rw [AllowedD.mkTop] at h
  obtain ⟨v0, _, rfl, h0, v1, _, rfl, h1, v2, _, rfl, h2, v3, _, rfl, h3, rfl⟩ := h
  obtain ⟨rfl, w0⟩ := rdC_num.1 h0
  exact ⟨v1, v2, v3, rfl, w0, h1, h2, h3⟩
theorem AllowedD.thin : ∀ x : AllowedD, ctE (AllowedD.c x) ≤ 1 + 64 * szE (AllowedD.c x)
  | ⟨p0, es1, es2, es3⟩ => by
    have t1 := nums_thin es1
    rw [szC_row] at t1
    have t2 := nums_thin es2
    rw [szC_row] at t2
    have t3 := nums_thin es3
    rw [szC_row] at t3
    have h := AllowedD.ct p0 es1 es2 es3 0
    rw [AllowedD.sz]
    simp only [szC_row]
    omega
theorem AllowedD.thins : ∀ xs : List AllowedD, ctE (xs.flatMap AllowedD.c) ≤ 64 * szC (rowF AllowedD.c xs)
  | [] => by rw [szC_row, List.flatMap_nil, ctE_nil, szE_nil]; decide
  | x :: xs => by
    have h1 := AllowedD.thin x
    have h2 := AllowedD.thins xs
    rw [szC_row] at h2 ⊢
    rw [List.flatMap_cons, ctE_append, szE_append, List.length_cons]
    omega
end Go.Proofs.YtmgigjpkpeamjaaGreat
/- A slice written out as a literal is the call's own. No condition. -/
namespace Go.Proofs.YtmgigjpkpeamjaaGreat
open Go.ChangeShapes Go.WideShapes Go.ChangeAt Go.RowKit
set_option linter.unusedVariables false

theorem Own.lit (E : TypeId) (w : World) (xs : List Int) (hn : ∀ x ∈ xs, (Lit.int .i64 x).wf = true) (hl : xs.length ≤ maxLen) : Own E .i64 (w.alloc (.cells (xs.map (Value.int .i64)).toArray E)) w.heap.size (w.heap.size + 1) (.slice (some ⟨w.heap.size, 0, none⟩) xs.length xs.length) xs :=
  ⟨by simpa using World.ownsRow_lit (base := w.heap.size) (e := E) (size := 1) w (xs.map (Value.int .i64)).toArray xs.length (Nat.le_refl _) hl (by simp), fun k hk => by
    have : w.heap.size = k := by simpa [Value.ownBlock] using hk
    omega, hn⟩
def validKey (s : Int) : Bool := decide (1 ≤ s ∧ s ≤ 2147483646)
theorem Row.cellAt {w : World} {hi n c : Nat} {a : Option Addr} {xs : List Int} (h : Row .i64 w hi (.slice a n c) xs) {k : Nat} {x : Int} (hx : xs[k]? = some x) :
    ∃ b off, a = some ⟨b, off, none⟩ ∧ b < hi ∧ b < w.heap.size ∧ w.cell? ⟨b, off + k, none⟩ = some (.int .i64 x) := by
  obtain ⟨hk, hv⟩ := List.getElem?_eq_some_iff.1 hx
  obtain ⟨a', c', e, _, _, _, h5⟩ := h.form
  injection e with e1 e2 e3
  subst e1
  obtain ⟨b, off, rfl, g1, g2, g3⟩ := h5 (by omega)
  refine ⟨b, off, rfl, g1, g2, ?_⟩
  rw [g3 k hk, List.getD_eq_getElem?_getD, hx]
  rfl
end Go.Proofs.YtmgigjpkpeamjaaGreat
/- Appraisal (chapter 13): the data's mathematics. No condition. -/
namespace Go.Proofs.YtmgigjpkpeamjaaGreat
set_option linter.unusedVariables false

/-- What is asked of the element at i. -/
def elAt (l : List Int) (i : Nat) : Bool := match l[i]? with
  | none => true
  | some k => decide (0 ≤ k ∧ k ≤ 99) && (i == 0 || match l[i - 1]? with
    | none => true
    | some j => decide (j < k))
def elsTo (l : List Int) (n : Nat) : Bool := (List.range n).all (elAt l)
theorem elsTo_succ (l : List Int) (n : Nat) : elsTo l (n + 1) = (elsTo l n && elAt l n) := by simp [elsTo, List.range_succ]
theorem elsTo_le {l : List Int} {k n : Nat} (h : k ≤ n) (hk : elsTo l k = false) : elsTo l n = false := by
  rw [elsTo, List.all_eq_false] at hk ⊢
  obtain ⟨x, hx, hy⟩ := hk
  exact ⟨x, List.mem_range.2 (Nat.lt_of_lt_of_le (List.mem_range.1 hx) h), hy⟩
/-- A list of numbers as the rules ask it. -/
def numsB (l : List Int) : Bool := elsTo l l.length && decide (l.length ≤ 8)
def hasI (l : List Int) (n : Int) : Bool := l.any (fun x => x == n)
theorem hasI_drop {l : List Int} {n x : Int} {k : Nat} (h : l[k]? = some x) : hasI (l.drop k) n = ((x == n) || hasI (l.drop (k + 1)) n) := by
  have hk : k < l.length := (List.getElem?_eq_some_iff.1 h).1
  rw [List.drop_eq_getElem_cons hk]
  rw [List.getElem?_eq_getElem hk] at h
  rw [Option.some.inj h]
  rfl
def apartB (a b : List Int) : Bool := a.all (fun x => !hasI b x)
theorem apartB_drop {a b : List Int} {x : Int} {k : Nat} (h : a[k]? = some x) : apartB (a.drop k) b = (!hasI b x && apartB (a.drop (k + 1)) b) := by
  have hk : k < a.length := (List.getElem?_eq_some_iff.1 h).1
  rw [List.drop_eq_getElem_cons hk]
  rw [List.getElem?_eq_getElem hk] at h
  rw [Option.some.inj h]
  rfl
def allowedB (a : AllowedD) : Bool := decide (0 ≤ a.Version) && (numsB a.Good && (numsB a.Old && (numsB a.Bad && (apartB a.Good a.Old && (apartB a.Good a.Bad && apartB a.Old a.Bad)))))
def oneA (a : AllowedD) (m : Int) : Int := if hasI a.Bad m then 0 else if hasI a.Old m then 2 else if hasI a.Good m then 3 else 1
theorem oneA_bd (a : AllowedD) (m : Int) : 0 ≤ oneA a m ∧ oneA a m ≤ 3 := by
  unfold oneA
  split
  · omega
  · split
    · omega
    · split <;> omega
/-- The least appraisal, from r on. -/
def logFrom (a : AllowedD) (r : Int) (l : List Int) : Int := l.foldl (fun r m => min r (oneA a m)) r
def logA (a : AllowedD) (l : List Int) : Int := logFrom a 3 l
theorem logA_take {a : AllowedD} {l : List Int} {k : Nat} {x : Int} (h : l[k]? = some x) : logA a (l.take (k + 1)) = min (logA a (l.take k)) (oneA a x) := by
  unfold logA logFrom
  rw [List.take_add_one, h, List.foldl_append]
  rfl
theorem logFrom_bd (a : AllowedD) : ∀ (l : List Int) {r : Int}, 0 ≤ r → r ≤ 3 → 0 ≤ logFrom a r l ∧ logFrom a r l ≤ 3
  | [], r, h0, h1 => ⟨h0, h1⟩
  | x :: l, r, h0, h1 => by
    have b := oneA_bd a x
    exact logFrom_bd a l (r := min r (oneA a x)) (by omega) (by omega)
theorem logA_bd (a : AllowedD) (l : List Int) : 0 ≤ logA a l ∧ logA a l ≤ 3 := logFrom_bd a l (by decide) (by decide)
def replB (a b : AllowedD) : Bool := allowedB b && decide (a.Version < b.Version)
def replA (a b : AllowedD) : AllowedD := if replB a b then b else a
def strictTo (a b : AllowedD) (n : Nat) : Bool := (List.range n).all (fun (m : Nat) => decide (oneA a (m : Int) ≤ oneA b (m : Int)))
def strictB (a b : AllowedD) : Bool := strictTo a b 100
theorem strictTo_succ (a b : AllowedD) (n : Nat) : strictTo a b (n + 1) = (strictTo a b n && decide (oneA a (n : Int) ≤ oneA b (n : Int))) := by simp [strictTo, List.range_succ]
theorem strictTo_no {a b : AllowedD} {k n : Nat} (h : k < n) (hk : decide (oneA a (k : Int) ≤ oneA b (k : Int)) = false) : strictTo a b n = false := by
  rw [strictTo, List.all_eq_false]
  exact ⟨k, List.mem_range.2 h, by simpa using hk⟩
end Go.Proofs.YtmgigjpkpeamjaaGreat
