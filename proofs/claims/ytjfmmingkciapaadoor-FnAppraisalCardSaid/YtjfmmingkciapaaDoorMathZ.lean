/- Some texts in one: ZAllowed, AllowM, OAllowed, Hash, Hash2, CryI, Derive, CopyI. -/
import Derived.Test.YtjfmmingkciapaaDoorGround
import Derived.Deep.RegionHeld3
import Derived.BigQuiet
import Derived.Deep.QuietTactic
import Derived.LoopTactic
import Derived.Lib.Hide
import Derived.Deep.DeepCutAuto
import Derived.Outline
import Derived.Handy
import Derived.Below
import Derived.Deep.Cut
import Derived.Laws.MakeOwn
import Derived.Lib.SliceRun
import Derived.Lib.AppendZerosOnto
import Derived.Lib.ConvBytes
import Derived.Lib.AtoiErrMem
import Derived.Laws.AppendOwn
/- The type Allowed as data of cells, and the laws' own helpers over it and over slices of it. No condition but the bounds of what came in. -/
namespace Go.Proofs.YtjfmmingkciapaaDoor
open Go.ChangeShapes Go.WideShapes Go.ChangeAt Go.RowKit
set_option linter.unusedVariables false

structure AllowedD where
  Version : Int
  Good : List Int
  Old : List Int
  Bad : List Int
def AllowedD.c (x : AllowedD) : List Cell := [.num x.Version, rowF numC x.Good, rowF numC x.Old, rowF numC x.Bad]
theorem AllowedD.c_mk (p0 : Int) (es1 : List Int) (es2 : List Int) (es3 : List Int) : AllowedD.c ⟨p0, es1, es2, es3⟩ = [.num p0, rowF numC es1, rowF numC es2, rowF numC es3] := rfl
theorem AllowedD.c_len (x : AllowedD) : (AllowedD.c x).length = 4 := by
  obtain ⟨p0, es1, es2, es3⟩ := x
  rw [AllowedD.c_mk]
  rfl
theorem AllowedD.rd {w : World} {hi : Nat} {p0 : Int} {es1 : List Int} {es2 : List Int} {es3 : List Int} {vs : List Value} (h : rdL w hi (AllowedD.c ⟨p0, es1, es2, es3⟩) vs) : ∃ k1 k2 k3, vs = [.int .i64 p0, k1, k2, k3] ∧ (Lit.int .i64 p0).wf = true ∧ rdC w hi (rowF numC es1) k1 ∧ rdC w hi (rowF numC es2) k2 ∧ rdC w hi (rowF numC es3) k3 := by
  rw [AllowedD.c_mk] at h
  obtain ⟨v0, _, rfl, h0, v1, _, rfl, h1, v2, _, rfl, h2, v3, _, rfl, h3, rfl⟩ := h
  obtain ⟨rfl, w0⟩ := rdC_num.1 h0
  exact ⟨v1, v2, v3, rfl, w0, h1, h2, h3⟩
theorem AllowedD.ow {w : World} {p0 : Int} {es1 : List Int} {es2 : List Int} {es3 : List Int} {us : List Value} {f : List Nat} (h : owE w (AllowedD.c ⟨p0, es1, es2, es3⟩) us f) : ∃ k1 k2 k3 f1 f2 f3, us = [.int .i64 p0, k1, k2, k3] ∧ f = f1 ++ f2 ++ f3 ∧ (Lit.int .i64 p0).wf = true ∧ owC w (rowF numC es1) k1 f1 ∧ owC w (rowF numC es2) k2 f2 ∧ owC w (rowF numC es3) k3 f3 := by
  rw [AllowedD.c_mk] at h
  obtain ⟨v0, u0, a0, b0, rfl, rfl, h0, g0⟩ := owE_cons.1 h
  obtain ⟨v1, u1, a1, b1, rfl, rfl, h1, g1⟩ := owE_cons.1 g0
  obtain ⟨v2, u2, a2, b2, rfl, rfl, h2, g2⟩ := owE_cons.1 g1
  obtain ⟨v3, u3, a3, b3, rfl, rfl, h3, g3⟩ := owE_cons.1 g2
  obtain ⟨rfl, rfl⟩ := owE_nil.1 g3
  obtain ⟨rfl, w0, rfl⟩ := owC_num.1 h0
  exact ⟨v1, v2, v3, a1, a2, a3, rfl, by simp, w0, h1, h2, h3⟩
theorem AllowedD.ow_mk {w : World} {p0 : Int} {es1 : List Int} {es2 : List Int} {es3 : List Int} {k1 : Value} {k2 : Value} {k3 : Value} {f1 f2 f3 : List Nat} (h0 : (Lit.int .i64 p0).wf = true) (h1 : owC w (rowF numC es1) k1 f1) (h2 : owC w (rowF numC es2) k2 f2) (h3 : owC w (rowF numC es3) k3 f3) : owE w (AllowedD.c ⟨p0, es1, es2, es3⟩) [.int .i64 p0, k1, k2, k3] (f1 ++ f2 ++ f3) := by
  rw [AllowedD.c_mk]
  have h : owE w [.num p0, rowF numC es1, rowF numC es2, rowF numC es3] [.int .i64 p0, k1, k2, k3] (([] : List Nat) ++ (f1 ++ (f2 ++ (f3 ++ [])))) := owE_cons.2 ⟨_, _, [], _, rfl, rfl, owC_num.2 ⟨rfl, h0, rfl⟩, owE_cons.2 ⟨_, _, f1, _, rfl, rfl, h1, owE_cons.2 ⟨_, _, f2, _, rfl, rfl, h2, owE_cons.2 ⟨_, _, f3, _, rfl, rfl, h3, owE_nil.2 ⟨rfl, rfl⟩⟩⟩⟩⟩
  rw [show ([] : List Nat) ++ (f1 ++ (f2 ++ (f3 ++ []))) = f1 ++ f2 ++ f3 by simp] at h
  exact h
theorem AllowedD.sz (p0 : Int) (es1 : List Int) (es2 : List Int) (es3 : List Int) : szE (AllowedD.c ⟨p0, es1, es2, es3⟩) = szC (rowF numC es1) + szC (rowF numC es2) + szC (rowF numC es3) := by
  rw [AllowedD.c_mk]
  simp only [szE_cons, szE_nil, szC_num]
  omega
theorem AllowedD.mkd (p0 : Int) (es1 : List Int) (es2 : List Int) (es3 : List Int) (q : Int) : mkE (AllowedD.c ⟨p0, es1, es2, es3⟩) q = [.num (q), .row es1.length (mkE (es1.flatMap numC) (q + 1)), .row es2.length (mkE (es2.flatMap numC) (q + 1 + ctE (es1.flatMap numC))), .row es3.length (mkE (es3.flatMap numC) (q + 1 + ctE (es1.flatMap numC) + ctE (es2.flatMap numC)))] := by
  rw [AllowedD.c_mk]
  simp only [mkE_cons, mkE_nil, mkC_num, mkC_row, ctC_num, ctC_row]
theorem AllowedD.ct (p0 : Int) (es1 : List Int) (es2 : List Int) (es3 : List Int) (q : Int) : q + ctE (AllowedD.c ⟨p0, es1, es2, es3⟩) = q + 1 + ctE (es1.flatMap numC) + ctE (es2.flatMap numC) + ctE (es3.flatMap numC) := by
  rw [AllowedD.c_mk]
  simp only [ctE_cons, ctE_nil, ctC_num, ctC_row]
  omega
theorem AllowedD.rdm {w : World} {hi : Nat} {p0 : Int} {es1 : List Int} {es2 : List Int} {es3 : List Int} {q : Int} {vs : List Value} (h : rdL w hi (mkE (AllowedD.c ⟨p0, es1, es2, es3⟩) q) vs) : ∃ k1 k2 k3, vs = [.int .i64 (q), k1, k2, k3] ∧ rdC w hi (.row es1.length (mkE (es1.flatMap numC) (q + 1))) k1 ∧ rdC w hi (.row es2.length (mkE (es2.flatMap numC) (q + 1 + ctE (es1.flatMap numC)))) k2 ∧ rdC w hi (.row es3.length (mkE (es3.flatMap numC) (q + 1 + ctE (es1.flatMap numC) + ctE (es2.flatMap numC)))) k3 := by
  rw [AllowedD.mkd] at h
  obtain ⟨v0, _, rfl, h0, v1, _, rfl, h1, v2, _, rfl, h2, v3, _, rfl, h3, rfl⟩ := h
  obtain ⟨rfl, w0⟩ := rdC_num.1 h0
  exact ⟨v1, v2, v3, rfl, h1, h2, h3⟩
theorem AllowedD.ctTop (p0 : Int) (es1 : List Int) (es2 : List Int) (es3 : List Int) : ctT (AllowedD.c ⟨p0, es1, es2, es3⟩) = ctE (es1.flatMap numC) + ctE (es2.flatMap numC) + ctE (es3.flatMap numC) := by
  rw [AllowedD.c_mk]
  have h : ctT [.num p0, rowF numC es1, rowF numC es2, rowF numC es3] = ctE (es1.flatMap numC) + (ctE (es2.flatMap numC) + (ctE (es3.flatMap numC) + (0))) := rfl
  rw [h]
  omega
theorem AllowedD.mkTop (p0 : Int) (es1 : List Int) (es2 : List Int) (es3 : List Int) (q : Int) : mkT (AllowedD.c ⟨p0, es1, es2, es3⟩) q = [.num p0, .row es1.length (mkE (es1.flatMap numC) (q)), .row es2.length (mkE (es2.flatMap numC) (q + ctE (es1.flatMap numC))), .row es3.length (mkE (es3.flatMap numC) (q + ctE (es1.flatMap numC) + ctE (es2.flatMap numC)))] := by
  rw [AllowedD.c_mk]
  rfl
theorem AllowedD.rdTop {w : World} {hi : Nat} {p0 : Int} {es1 : List Int} {es2 : List Int} {es3 : List Int} {q : Int} {vs : List Value} (h : rdL w hi (mkT (AllowedD.c ⟨p0, es1, es2, es3⟩) q) vs) : ∃ k1 k2 k3, vs = [.int .i64 p0, k1, k2, k3] ∧ (Lit.int .i64 p0).wf = true ∧ rdC w hi (.row es1.length (mkE (es1.flatMap numC) (q))) k1 ∧ rdC w hi (.row es2.length (mkE (es2.flatMap numC) (q + ctE (es1.flatMap numC)))) k2 ∧ rdC w hi (.row es3.length (mkE (es3.flatMap numC) (q + ctE (es1.flatMap numC) + ctE (es2.flatMap numC)))) k3 := by
  rw [AllowedD.mkTop] at h
  obtain ⟨v0, _, rfl, h0, v1, _, rfl, h1, v2, _, rfl, h2, v3, _, rfl, h3, rfl⟩ := h
  obtain ⟨rfl, w0⟩ := rdC_num.1 h0
  exact ⟨v1, v2, v3, rfl, w0, h1, h2, h3⟩
theorem AllowedD.thin : ∀ x : AllowedD, ctE (AllowedD.c x) ≤ 1 + 64 * szE (AllowedD.c x)
  | ⟨p0, es1, es2, es3⟩ => by
    have t1 := nums_thin es1
    rw [szC_row] at t1
    have t2 := nums_thin es2
    rw [szC_row] at t2
    have t3 := nums_thin es3
    rw [szC_row] at t3
    have h := AllowedD.ct p0 es1 es2 es3 0
    rw [AllowedD.sz]
    simp only [szC_row]
    omega
theorem AllowedD.thins : ∀ xs : List AllowedD, ctE (xs.flatMap AllowedD.c) ≤ 64 * szC (rowF AllowedD.c xs)
  | [] => by rw [szC_row, List.flatMap_nil, ctE_nil, szE_nil]; decide
  | x :: xs => by
    have h1 := AllowedD.thin x
    have h2 := AllowedD.thins xs
    rw [szC_row] at h2 ⊢
    rw [List.flatMap_cons, ctE_append, szE_append, List.length_cons]
    omega
end Go.Proofs.YtjfmmingkciapaaDoor
/- Appraisal (chapter 13): the data's mathematics. No condition. -/
namespace Go.Proofs.YtjfmmingkciapaaDoor
set_option linter.unusedVariables false

/-- What is asked of the element at i. -/
def elAt (l : List Int) (i : Nat) : Bool := match l[i]? with
  | none => true
  | some k => decide (0 ≤ k ∧ k ≤ 99) && (i == 0 || match l[i - 1]? with
    | none => true
    | some j => decide (j < k))
def elsTo (l : List Int) (n : Nat) : Bool := (List.range n).all (elAt l)
theorem elsTo_succ (l : List Int) (n : Nat) : elsTo l (n + 1) = (elsTo l n && elAt l n) := by simp [elsTo, List.range_succ]
theorem elsTo_le {l : List Int} {k n : Nat} (h : k ≤ n) (hk : elsTo l k = false) : elsTo l n = false := by
  rw [elsTo, List.all_eq_false] at hk ⊢
  obtain ⟨x, hx, hy⟩ := hk
  exact ⟨x, List.mem_range.2 (Nat.lt_of_lt_of_le (List.mem_range.1 hx) h), hy⟩
/-- A list of numbers as the rules ask it. -/
def numsB (l : List Int) : Bool := elsTo l l.length && decide (l.length ≤ 8)
def hasI (l : List Int) (n : Int) : Bool := l.any (fun x => x == n)
theorem hasI_drop {l : List Int} {n x : Int} {k : Nat} (h : l[k]? = some x) : hasI (l.drop k) n = ((x == n) || hasI (l.drop (k + 1)) n) := by
  have hk : k < l.length := (List.getElem?_eq_some_iff.1 h).1
  rw [List.drop_eq_getElem_cons hk]
  rw [List.getElem?_eq_getElem hk] at h
  rw [Option.some.inj h]
  rfl
def apartB (a b : List Int) : Bool := a.all (fun x => !hasI b x)
theorem apartB_drop {a b : List Int} {x : Int} {k : Nat} (h : a[k]? = some x) : apartB (a.drop k) b = (!hasI b x && apartB (a.drop (k + 1)) b) := by
  have hk : k < a.length := (List.getElem?_eq_some_iff.1 h).1
  rw [List.drop_eq_getElem_cons hk]
  rw [List.getElem?_eq_getElem hk] at h
  rw [Option.some.inj h]
  rfl
def allowedB (a : AllowedD) : Bool := decide (0 ≤ a.Version) && (numsB a.Good && (numsB a.Old && (numsB a.Bad && (apartB a.Good a.Old && (apartB a.Good a.Bad && apartB a.Old a.Bad)))))
def oneA (a : AllowedD) (m : Int) : Int := if hasI a.Bad m then 0 else if hasI a.Old m then 2 else if hasI a.Good m then 3 else 1
theorem oneA_bd (a : AllowedD) (m : Int) : 0 ≤ oneA a m ∧ oneA a m ≤ 3 := by
  unfold oneA
  split
  · omega
  · split
    · omega
    · split <;> omega
/-- The least appraisal, from r on. -/
def logFrom (a : AllowedD) (r : Int) (l : List Int) : Int := l.foldl (fun r m => min r (oneA a m)) r
def logA (a : AllowedD) (l : List Int) : Int := logFrom a 3 l
theorem logA_take {a : AllowedD} {l : List Int} {k : Nat} {x : Int} (h : l[k]? = some x) : logA a (l.take (k + 1)) = min (logA a (l.take k)) (oneA a x) := by
  unfold logA logFrom
  rw [List.take_add_one, h, List.foldl_append]
  rfl
theorem logFrom_bd (a : AllowedD) : ∀ (l : List Int) {r : Int}, 0 ≤ r → r ≤ 3 → 0 ≤ logFrom a r l ∧ logFrom a r l ≤ 3
  | [], r, h0, h1 => ⟨h0, h1⟩
  | x :: l, r, h0, h1 => by
    have b := oneA_bd a x
    exact logFrom_bd a l (r := min r (oneA a x)) (by omega) (by omega)
theorem logA_bd (a : AllowedD) (l : List Int) : 0 ≤ logA a l ∧ logA a l ≤ 3 := logFrom_bd a l (by decide) (by decide)
def replB (a b : AllowedD) : Bool := allowedB b && decide (a.Version < b.Version)
def replA (a b : AllowedD) : AllowedD := if replB a b then b else a
def strictTo (a b : AllowedD) (n : Nat) : Bool := (List.range n).all (fun (m : Nat) => decide (oneA a (m : Int) ≤ oneA b (m : Int)))
def strictB (a b : AllowedD) : Bool := strictTo a b 100
theorem strictTo_succ (a b : AllowedD) (n : Nat) : strictTo a b (n + 1) = (strictTo a b n && decide (oneA a (n : Int) ≤ oneA b (n : Int))) := by simp [strictTo, List.range_succ]
theorem strictTo_no {a b : AllowedD} {k n : Nat} (h : k < n) (hk : decide (oneA a (k : Int) ≤ oneA b (k : Int)) = false) : strictTo a b n = false := by
  rw [strictTo, List.all_eq_false]
  exact ⟨k, List.mem_range.2 h, by simpa using hk⟩
end Go.Proofs.YtjfmmingkciapaaDoor
/- What came in of the type Allowed: its cells, as data. No condition. -/
namespace Go.Proofs.YtjfmmingkciapaaDoor
open Go.ChangeShapes Go.WideShapes Go.ChangeAt Go.RowKit Go.Deep
set_option linter.unusedVariables false
def reachAllowed (t : TypeId) : Prop := t = 3 ∨ t = 24
theorem okT_Allowed : OkT Tryd.prog reachAllowed := by
  intro t ht
  unfold reachAllowed at ht
  rcases ht with rfl | rfl
  · exact .inl Tryd.underlying3
  · refine .inr (.inr ⟨3, [3], Tryd.underlying24, by kernel_rfl, by kernel_rfl, by decide, ?_⟩)
    unfold reachAllowed
    decide
theorem AllowedD.of {cs : List Cell} (hl : cs.length = [3, 24, 24, 24].length) (h : ∀ (j : Nat) (t : TypeId) (c : Cell), [3, 24, 24, 24][j]? = some t → cs[j]? = some c → HasT Tryd.prog t c) : ∃ x, cs = AllowedD.c x := by
  match cs, hl with
  | [c0, c1, c2, c3], _ =>
    obtain ⟨p0, rfl⟩ := (h 0 _ _ rfl rfl).num_inv Tryd.underlying3
    obtain ⟨es1, rfl⟩ := HasT.row_inv (f := numC) (ts := [3]) Tryd.underlying24 (by kernel_rfl) (num_elem Tryd.underlying3) (h 1 _ _ rfl rfl)
    obtain ⟨es2, rfl⟩ := HasT.row_inv (f := numC) (ts := [3]) Tryd.underlying24 (by kernel_rfl) (num_elem Tryd.underlying3) (h 2 _ _ rfl rfl)
    obtain ⟨es3, rfl⟩ := HasT.row_inv (f := numC) (ts := [3]) Tryd.underlying24 (by kernel_rfl) (num_elem Tryd.underlying3) (h 3 _ _ rfl rfl)
    exact ⟨⟨p0, es1, es2, es3⟩, (AllowedD.c_mk p0 es1 es2 es3).symm⟩
end Go.Proofs.YtjfmmingkciapaaDoor
/- Plain mathematics of the hash and of the ciphers. No condition. -/
namespace Go.Proofs.YtjfmmingkciapaaDoor
open Go.RowKit
set_option linter.unusedVariables false

/-- One step of the hash. -/
def hstep (d v : Int) : Int := (d * 1000003 + v % 2147483647 + 13) % 2147483647
def hshFrom (d : Int) (l : List Int) : Int := l.foldl hstep d
def hsh (l : List Int) : Int := hshFrom 11 l
def keyed (k : Int) (l : List Int) : Int := hsh (k :: l ++ [k])
theorem hstep_bd (d v : Int) : 0 ≤ hstep d v ∧ hstep d v < 2147483647 := by unfold hstep; omega
theorem hshFrom_bd : ∀ (l : List Int) (d : Int), 0 ≤ d → d < 2147483647 → 0 ≤ hshFrom d l ∧ hshFrom d l < 2147483647
  | [], d, h0, h1 => ⟨h0, h1⟩
  | v :: l, d, _, _ => hshFrom_bd l (hstep d v) (hstep_bd d v).1 (hstep_bd d v).2
theorem hsh_bd (l : List Int) : 0 ≤ hsh l ∧ hsh l < 2147483647 := hshFrom_bd l 11 (by decide) (by decide)
theorem keyed_bd (k : Int) (l : List Int) : 0 ≤ keyed k l ∧ keyed k l < 2147483647 := hsh_bd _
theorem hsh_take (l : List Int) (k : Nat) (h : k < l.length) : hsh (l.take (k + 1)) = hstep (hsh (l.take k)) l[k] := by
  unfold hsh hshFrom
  rw [List.take_succ_eq_append_getElem h, List.foldl_append]
  rfl
theorem hstep_inj {d d' v : Int} (h0 : 0 ≤ d) (h1 : d < 2147483647) (h2 : 0 ≤ d') (h3 : d' < 2147483647) (h : hstep d v = hstep d' v) : d = d' := by
  unfold hstep at h
  generalize v % 2147483647 = r at h
  have h4 := Int.emod_eq_emod_iff_emod_sub_eq_zero.1 h
  obtain ⟨t, ht⟩ := Int.dvd_of_emod_eq_zero h4
  clear h h4
  have h5 : (d - d') * 1000003 = 2147483647 * t := by rw [← ht, Int.sub_mul]; omega
  clear ht
  obtain ⟨x, hx⟩ : ∃ x, d - d' = x := ⟨_, rfl⟩
  rw [hx] at h5
  have h6 : x = 2147483647 * (1523789695 * t - 709572 * x) := by omega
  obtain ⟨u, hu⟩ : ∃ u, 1523789695 * t - 709572 * x = u := ⟨_, rfl⟩
  rw [hu] at h6
  clear h5 hu
  omega
theorem hstep_val {d v v' : Int} (h : hstep d v = hstep d v') : v % 2147483647 = v' % 2147483647 := by
  unfold hstep at h
  omega
theorem hshFrom_ne : ∀ (l : List Int) (d d' : Int), 0 ≤ d → d < 2147483647 → 0 ≤ d' → d' < 2147483647 → d ≠ d' → hshFrom d l ≠ hshFrom d' l
  | [], d, d', _, _, _, _, h => h
  | v :: l, d, d', a, b, a', b', h => hshFrom_ne l _ _ (hstep_bd d v).1 (hstep_bd d v).2 (hstep_bd d' v).1 (hstep_bd d' v).2 fun e => h (hstep_inj a b a' b' e)
/-- One value that is changed changes the hash. -/
theorem hsh_changed (p q : List Int) (x y : Int) (h : x % 2147483647 ≠ y % 2147483647) : hsh (p ++ x :: q) ≠ hsh (p ++ y :: q) := by
  have e : ∀ z, hsh (p ++ z :: q) = hshFrom (hstep (hsh p) z) q := fun z => by unfold hsh hshFrom; rw [List.foldl_append, List.foldl_cons]
  rw [e, e]
  exact hshFrom_ne q _ _ (hstep_bd _ _).1 (hstep_bd _ _).2 (hstep_bd _ _).1 (hstep_bd _ _).2 fun e => h (hstep_val e)
theorem keyed_changed (k : Int) (l : List Int) (i : Nat) (h : i < l.length) (y : Int) (hy : l[i] % 2147483647 ≠ y % 2147483647) : keyed k (l.set i y) ≠ keyed k l := by
  have e1 : l.set i y = l.take i ++ y :: l.drop (i + 1) := List.set_eq_take_append_cons_drop .. |>.trans (by rw [if_pos h])
  have e2 : l.take i ++ l[i] :: l.drop (i + 1) = l := by rw [← List.drop_eq_getElem_cons h, List.take_append_drop]
  have e3 : k :: (l.take i ++ ((l[i] :: l.drop (i + 1)) ++ [k])) = k :: (l ++ [k]) := by rw [← List.append_assoc, e2]
  have e4 := hsh_changed (k :: l.take i) (l.drop (i + 1) ++ [k]) y l[i] (fun e => hy e.symm)
  unfold keyed
  intro e
  refine e4 ?_
  rw [e1] at e
  have e5 : k :: l ++ [k] = (k :: l.take i) ++ l[i] :: (l.drop (i + 1) ++ [k]) := e3.symm
  have e6 : k :: (l.take i ++ y :: l.drop (i + 1)) ++ [k] = (k :: l.take i) ++ y :: (l.drop (i + 1) ++ [k]) := by simp
  rw [e5, e6] at e
  exact e
theorem modOf_val (v : Int) : modOf v 2147483647 = v % 2147483647 := by unfold modOf; rw [if_pos (by decide)]
theorem modOf_byte (v : Int) : modOf v 256 = v % 256 := by unfold modOf; rw [if_pos (by decide)]
theorem hstep_mod (d v : Int) : (d * 1000003 + modOf v 2147483647 + 13) % 2147483647 = hstep d v := by rw [modOf_val]; rfl

/-- The first k values of a list, each turned by its place. -/
def crypt (f : Nat → Int → Int) (l : List Int) (k : Nat) : List Int := (List.range k).map fun i => f i (l.getD i 0)
theorem crypt_len (f : Nat → Int → Int) (l : List Int) (k : Nat) : (crypt f l k).length = k := by simp [crypt]
theorem crypt_succ (f : Nat → Int → Int) (l : List Int) (k : Nat) : crypt f l (k + 1) = crypt f l k ++ [f k (l.getD k 0)] := by simp [crypt, List.range_succ]
def encF (s : Int) (i : Nat) (x : Int) : Int := (x + keyed s [(i : Int)] % 256) % 256
def decF (s : Int) (i : Nat) (x : Int) : Int := (x - keyed s [(i : Int)] % 256) % 256
def encL (s : Int) (l : List Int) : List Int := crypt (encF s) l l.length
def decL (s : Int) (l : List Int) : List Int := crypt (decF s) l l.length
theorem encL_len (s : Int) (l : List Int) : (encL s l).length = l.length := crypt_len ..
theorem decL_len (s : Int) (l : List Int) : (decL s l).length = l.length := crypt_len ..
theorem crypt_back (f g : Nat → Int → Int) (l : List Int) (hl : ∀ x ∈ l, 0 ≤ x ∧ x ≤ 255) (h : ∀ i x, 0 ≤ x → x ≤ 255 → f i (g i x) = x) : crypt f (crypt g l l.length) (crypt g l l.length).length = l := by
  apply List.ext_getElem
  · rw [crypt_len, crypt_len]
  · intro i h1 h2
    have h3 : i < (crypt g l l.length).length := by rw [crypt_len]; exact h2
    obtain ⟨b0, b1⟩ := hl _ (List.getElem_mem h2)
    simp only [crypt, List.getElem_map, List.getElem_range, List.getD, List.getElem?_map, List.length_map, List.length_range, List.getElem?_range h2, Option.map_some, Option.getD_some, List.getElem?_eq_getElem h2]
    exact h i _ b0 b1
theorem dec_enc (s : Int) (l : List Int) (hl : ∀ x ∈ l, 0 ≤ x ∧ x ≤ 255) : decL s (encL s l) = l :=
  crypt_back _ _ l hl fun i x h0 h1 => by unfold encF decF; omega
theorem enc_dec (s : Int) (l : List Int) (hl : ∀ x ∈ l, 0 ≤ x ∧ x ≤ 255) : encL s (decL s l) = l :=
  crypt_back _ _ l hl fun i x h0 h1 => by unfold encF decF; omega
/-- What BytesToInts answers. -/
def bytesInts (l : List Int) : List Int := (l.length : Int) :: l
/-- What DeriveFromString answers. -/
def derived (k : Int) (l : List Int) : Int := if keyed k (bytesInts l) = 0 then 1 else keyed k (bytesInts l)
theorem derived_bd (k : Int) (l : List Int) : 1 ≤ derived k l ∧ derived k l < 2147483647 := by
  have := keyed_bd k (bytesInts l)
  unfold derived
  split <;> omega
end Go.Proofs.YtjfmmingkciapaaDoor
/- Contracts of chapter 3's model: Hash, KeyedHash, IsValidKey, BytesToInts, EqualInts. -/
namespace Go.Proofs.YtjfmmingkciapaaDoor
open Go.ChangeShapes Go.WideShapes Go.ChangeAt Go.RowKit
set_option linter.unusedVariables false

/-- The literal '[]T{x}' is the call's own. -/
theorem Own.one (E : TypeId) (K : IntKind) (w : World) (x : Int) (hx : (Lit.int K x).wf = true) : Own E K (w.alloc (.cells #[.int K x] E)) w.heap.size (w.heap.size + 1) (.slice (some ⟨w.heap.size, 0, none⟩) 1 1) [x] :=
  ⟨World.ownsRow_lit w #[.int K x] 1 (Nat.le_refl _) (by decide) rfl, fun k hk => by
    have : w.heap.size = k := by simpa [Value.ownBlock] using hk
    omega, fun y hy => by
    have : y = x := by simpa using hy
    rw [this]
    exact hx⟩
set_option maxHeartbeats 1000000 in
theorem spec_hash (w : World) (hi : Nat) (v : Value) (l : List Int) (h : Row .i64 w hi v l) (hn : l.length ≤ 1099511627776) :
    Calls Tryd.prog 66 #[v] w fun e w' => e = .returned (.int .i64 (hsh l)) ∧ w = w' := by
  obtain ⟨⟨A, c, rfl, r1, r2, _, r3⟩, _⟩ := h
  unfold maxLen at r2
  have R3 := Lib.hid r3
  clear r3
  go_enter Tryd.func66, Tryd.ntmps66
  go_wp2
  go_loop [3, 4] (fun d i => ∃ (k : Nat) (q : Int), k ≤ l.length ∧ i = .int .i64 (k : Int) ∧ d = .int .i64 q ∧ 0 ≤ q ∧ q < 2147483647 ∧ Hid (hsh (l.take k) = q)) (fun _ i => l.length - (intOf i).toNat)
  case atStart => exact ⟨0, 11, Nat.zero_le _, rfl, rfl, by decide, by decide, rfl⟩
  case round =>
    obtain ⟨k, q, hk, rfl, rfl, hq0, hq1, HQ⟩ := hrel
    by_cases hlt : k < l.length
    · obtain ⟨b, off, rfl, _, _, p3⟩ := R3.out (by omega)
      have hx := p3 k hlt
      rw [show l.getD k 0 = l[k] by simp [List.getD, hlt]] at hx
      have HT := Lib.hid (hsh_take l k hlt)
      generalize l[k] = x at hx HT
      clear p3
      obtain ⟨m, hm⟩ : ∃ m, modOf x 2147483647 = m := ⟨_, rfl⟩
      have hm0 : 0 ≤ m ∧ m < 2147483647 := by rw [← hm, modOf_val]; omega
      obtain ⟨hm0, hm1⟩ := hm0
      have HM := Lib.hid hm
      clear hm
      go_wp2_with fail
      refine (spec_mod x 2147483647 w).mono ?_
      rintro e w' ⟨rfl, rfl⟩
      rw [HM.out]
      go_wp2
      refine ⟨⟨k + 1, (q * 1000003 + m + 13) % 2147483647, by omega, by go_num, rfl, by omega, by omega, ?_⟩, by simp only [intOf]; omega⟩
      unfold Hid
      rw [HT.out, HQ.out, ← HM.out, hstep_mod]
    · go_wp2
      go_ret
      have e := HQ.out
      rw [List.take_of_length_le (by omega)] at e
      exact ⟨ret_int e.symm, rfl⟩
theorem spec_keyed (w : World) (hi : Nat) (s : Int) (v : Value) (l : List Int) (hs : (Lit.int .i64 s).wf = true) (h : Row .i64 w hi v l) (hh : hi ≤ w.heap.size) (hn : l.length ≤ 137438953472) :
    Calls Tryd.prog 53 #[.int .i64 s, v] w fun e w' => e = .returned (.int .i64 (keyed s l)) ∧ Below w.heap.size w w' := by
  obtain ⟨i0, hi0, hz0, hz1, hz2⟩ := info_parts infoIntS
  have hA := (Below.refl w.heap.size w).alloc (Nat.le_refl _) (.cells #[.int .i64 s] 3)
  have hR := h.below hA hh
  have hO := Own.one 3 .i64 w s hs
  have hle : [s].length + l.length ≤ 2199023255552 := by simp; omega
  have hsz : w.heap.size ≤ (w.alloc (.cells #[.int .i64 s] 3)).heap.size := by simp
  go_enter Tryd.func53, Tryd.ntmps53
  go_wp2_with (first
    | (at_builtin; refine wpList_append_Own rfl _ _ 24 rfl 3 i0 (.int .i64 0) 8 Tryd.underlying24 hi0 hz0 hz1 hz2 rfl .i64 w.heap.size _ _ [s] rfl hO hi _ l rfl hR hle (by decide) hsz ?_; intro v1 w1 hown hb1; have hb1' := hA.trans hb1; have hO2 := hown.below (B := w1.heap.size) ((Below.refl _ w1).alloc (Nat.le_refl _) (.cells #[.int .i64 s] 3)) (Nat.le_refl _); have hR2 := row_one .i64 3 w1 s hs; have hle2 : ([s] ++ l).length + [s].length ≤ 2199023255552 := (by simp; omega); have hsz2 : w.heap.size ≤ (w1.alloc (.cells #[.int .i64 s] 3)).heap.size := (by have := hb1'.size; simp; omega); have hb2 := hb1'.alloc hb1'.size (.cells #[.int .i64 s] 3))
    | (at_builtin; refine wpList_append_Own rfl _ _ 24 rfl 3 i0 (.int .i64 0) 8 Tryd.underlying24 hi0 hz0 hz1 hz2 rfl .i64 w.heap.size _ _ ([s] ++ l) rfl hO2 _ _ [s] rfl hR2 hle2 (by decide) hsz2 ?_; intro v2 w2 hown2 hb3))
  refine (spec_hash w2 _ v2 ([s] ++ l ++ [s]) hown2.read (by simp only [List.length_append, List.length_cons, List.length_nil]; omega)).mono ?_
  rintro e w' ⟨rfl, rfl⟩
  go_wp2
  go_ret
  exact ⟨rfl, hb2.trans hb3⟩
theorem spec_valid (s : Int) (w : World) :
    Calls Tryd.prog 48 #[.int .i64 s] w fun e w' => e = .returned (.bool (decide (1 ≤ s ∧ s ≤ 2147483646))) ∧ w = w' := by
  go_enter Tryd.func48, Tryd.ntmps48
  go_wp2_with fail
  refine (spec_l1In s 1 2147483646 w).mono ?_
  rintro e w' ⟨rfl, rfl⟩
  go_wp2
  go_ret
  exact ⟨ret_b (by simp), rfl⟩
end Go.Proofs.YtjfmmingkciapaaDoor
/- Contracts of the program's chapter 3: Hash, KeyedHash (by slices.Concat), BytesToInts. -/
namespace Go.Proofs.YtjfmmingkciapaaDoor
open Go.ChangeShapes Go.WideShapes Go.ChangeAt Go.RowKit
set_option linter.unusedVariables false

theorem own_none (E : TypeId) (K : IntKind) (w : World) (lo hi : Nat) : Own E K w lo hi (.slice none 0 0) [] :=
  ⟨World.ownsRow_nil w lo E 1, fun k hk => by simp [Value.ownBlock] at hk, fun x hx => by cases hx⟩
/-- A slice of no elements with room in a new block is the call's own. -/
theorem own_room (E : TypeId) (K : IntKind) (w : World) (cs : Array Value) (c : Nat) (hm : c ≤ maxLen) (hs : cs.size = c) :
    Own E K (w.alloc (.cells cs E)) w.heap.size (w.heap.size + 1) (.slice (some ⟨w.heap.size, 0, none⟩) 0 c) [] :=
  ⟨⟨rfl, .inr ⟨w.heap.size, c, cs, rfl, Nat.le_refl _, heap_alloc_new w _, Nat.zero_le _, hm, by omega, by simp⟩⟩, fun k hk => by
    have : w.heap.size = k := by simpa [Value.ownBlock] using hk
    omega, fun x hx => by cases hx⟩

set_option maxHeartbeats 1000000 in
theorem impl_hash0 (w : World) (hi : Nat) (v : Value) (l : List Int) (h : Row .i64 w hi v l) (hn : l.length ≤ 1099511627776) :
    Calls Tryd.prog 80 #[v] w fun e w' => e = .returned (.int .i64 (hsh l)) ∧ w = w' := by
  obtain ⟨⟨A, c, rfl, r1, r2, _, r3⟩, _⟩ := h
  unfold maxLen at r2
  have R3 := Lib.hid r3
  clear r3
  go_enter Tryd.func80, Tryd.ntmps80
  go_wp2
  go_loop [3, 8] (fun d i => ∃ (k : Nat) (q : Int), k ≤ l.length ∧ i = .int .i64 (k : Int) ∧ d = .int .i64 q ∧ 0 ≤ q ∧ q < 2147483647 ∧ Hid (hsh (l.take k) = q)) (fun _ i => l.length - (intOf i).toNat)
  case atStart => exact ⟨0, 11, Nat.zero_le _, rfl, rfl, by decide, by decide, rfl⟩
  case round =>
    obtain ⟨k, q, hk, rfl, rfl, hq0, hq1, HQ⟩ := hrel
    by_cases hlt : k < l.length
    · obtain ⟨b, off, rfl, _, _, p3⟩ := R3.out (by omega)
      have hx := p3 k hlt
      rw [show l.getD k 0 = l[k] by simp [List.getD, hlt]] at hx
      have HT := Lib.hid (hsh_take l k hlt)
      generalize l[k] = x at hx HT
      clear p3
      obtain ⟨m, hm⟩ : ∃ m, modOf x 2147483647 = m := ⟨_, rfl⟩
      have hm0 : 0 ≤ m ∧ m < 2147483647 := by rw [← hm, modOf_val]; omega
      obtain ⟨hm0, hm1⟩ := hm0
      have HM := Lib.hid hm
      clear hm
      go_wp2_with fail
      refine (impl_mod x 2147483647 w).mono ?_
      rintro e w' ⟨rfl, rfl⟩
      rw [HM.out]
      go_wp2
      refine ⟨⟨k + 1, (q * 1000003 + m + 13) % 2147483647, by omega, by go_num, rfl, by omega, by omega, ?_⟩, by simp only [intOf]; omega⟩
      unfold Hid
      rw [HT.out, HQ.out, ← HM.out, hstep_mod]
    · go_wp2
      go_ret
      have e := HQ.out
      rw [List.take_of_length_le (by omega)] at e
      exact ⟨ret_int e.symm, rfl⟩
theorem impl_hash (w : World) (hi : Nat) (v : Value) (l : List Int) (h : Row .i64 w hi v l) (hh : hi ≤ w.heap.size) (hn : l.length ≤ 1099511627776) :
    Calls Tryd.prog 80 #[v] w fun e w' => e = .returned (.int .i64 (hsh l)) ∧ Below w.heap.size w w' :=
  (impl_hash0 w hi v l h hn).mono fun e w' he => ⟨he.1, he.2 ▸ Below.refl _ _⟩
set_option maxHeartbeats 2000000 in
set_option maxRecDepth 100000 in
/-- slices.Grow of nil: nil for none, else a new slice of no elements with room. -/
theorem grow_none (w : World) (n : Nat) (hn : n ≤ 1099511627776) :
    Calls Tryd.prog 84 #[.slice none 0 0, .int .i64 (n : Int)] w fun e w' => ∃ u, e = .returned u ∧ Own 3 .i64 w' w.heap.size w'.heap.size u [] ∧ Below w.heap.size w w' := by
  obtain ⟨i0, hi0, hz0, hz1, hz2⟩ := info_parts infoIntS
  by_cases hp : 0 < n
  · have hold : (Builtin.firstCells i0.size 0 (.slice none 0 0)).run Tryd.prog w.drew = .ok ([] : List Value).toArray w.drew := run_firstCells_none w.drew i0.size 0 0 0
    have hrz : ∀ ty, (Builtin.append_ #[24, 3] ty #[.slice none 0 0, .int .i64 (n : Int)]).run Tryd.prog w = _ := fun ty =>
      Lib.run_append_grow_zeros w 24 3 ty 3 i0 (.int .i64 0) .i64 .i64 Tryd.underlying24 Tryd.underlying3 hi0 hz0 none 0 0 [] hold n hp (by rw [hz1]; decide) (by omega) (by omega) (by rw [hz2]; omega) (growslice_fits (by omega) (by rw [hz2]; omega))
    simp only [Nat.zero_add] at hrz
    have hGn : n ≤ grownCap w n 0 3 := grownCap_ge w _ _ _
    have hGm := grownCap_le_maxLen w n 0 3 (by unfold maxLen; omega)
    obtain ⟨G, hG⟩ : ∃ G, G = grownCap w n 0 3 := ⟨_, rfl⟩
    rw [← hG] at hrz hGn hGm
    have hsz : (([] : List Value).toArray ++ Builtin.zeroCells (Value.int .i64 0).cells n ++ Builtin.zeroCells (Value.int .i64 0).cells (G - n)).size = G := by
      simp [Builtin.zeroCells, Value.cells]; omega
    have hO := own_room 3 .i64 w.drew _ G hGm hsz
    have hB := (Below.refl w.heap.size w).drew.alloc (Nat.le_refl _) (.cells (([] : List Value).toArray ++ Builtin.zeroCells (Value.int .i64 0).cells n ++ Builtin.zeroCells (Value.int .i64 0).cells (G - n)) 3)
    have hs2 : (w.drew.alloc (.cells (([] : List Value).toArray ++ Builtin.zeroCells (Value.int .i64 0).cells n ++ Builtin.zeroCells (Value.int .i64 0).cells (G - n)) 3)).heap.size = w.heap.size + 1 := by simp
    obtain ⟨w1, hw1⟩ : ∃ w1, w.drew.alloc (.cells (([] : List Value).toArray ++ Builtin.zeroCells (Value.int .i64 0).cells n ++ Builtin.zeroCells (Value.int .i64 0).cells (G - n)) 3) = w1 := ⟨_, rfl⟩
    rw [hw1] at hO hB hs2 hrz
    have hO2 := hO.wide (lo' := w.heap.size) (hi' := w1.heap.size) (Nat.le_refl _) (by rw [hs2]; exact Nat.le_refl _)
    have HO := Lib.hid hO2
    have HB := Lib.hid hB
    clear hO hO2 hB hs2 hw1 hsz hold hG
    unfold maxLen at hGm
    go_enter Tryd.func84, Tryd.ntmps84
    go_wp2_with (at_builtin; refine Lib.wpList_append_run _ rfl _ _ _ _ rfl _ _ rfl rfl _ _ (hrz _) ?_)
    go_ret
    exact ⟨_, rfl, HO.out, HB.out⟩
  · obtain rfl : n = 0 := by omega
    go_enter Tryd.func84, Tryd.ntmps84
    go_wp2
    go_ret
    exact ⟨_, rfl, own_none _ _ _ _ _, Below.refl _ _⟩
/-- The first k of some lists, one behind the other. -/
def cat (ps : List (Value × List Int)) (k : Nat) : List Int := ((ps.take k).map Prod.snd).flatten
theorem cat_zero (ps : List (Value × List Int)) : cat ps 0 = [] := rfl
theorem cat_succ (ps : List (Value × List Int)) (k : Nat) (h : k < ps.length) : cat ps (k + 1) = cat ps k ++ ps[k].2 := by
  unfold cat
  rw [List.take_succ_eq_append_getElem h]
  simp only [List.map_append, List.flatten_append, List.map_cons, List.map_nil, List.flatten_cons, List.flatten_nil, List.append_nil]
theorem cat_le (ps : List (Value × List Int)) (k : Nat) (h : k ≤ ps.length) : (cat ps k).length ≤ (cat ps ps.length).length := by
  have e : cat ps ps.length = cat ps k ++ ((ps.drop k).map Prod.snd).flatten := by
    unfold cat
    rw [List.take_length, ← List.flatten_append, ← List.map_append, List.take_append_drop]
  rw [e, List.length_append]
  omega
set_option maxRecDepth 100000 in
set_option maxHeartbeats 2000000 in
/-- slices.Concat: some lists in one new slice. -/
theorem concat_ints (w : World) (hi b : Nat) (ps : List (Value × List Int)) (hm : ps.length ≤ 1000) (hb : b < w.heap.size)
    (hc : ∀ i (h : i < ps.length), w.cell? ⟨b, i, none⟩ = some ps[i].1) (hr : ∀ i (h : i < ps.length), Row .i64 w hi ps[i].1 ps[i].2) (hh : hi ≤ w.heap.size) (hn : (cat ps ps.length).length ≤ 1099511627776) :
    Calls Tryd.prog 81 #[.slice (some ⟨b, 0, none⟩) ps.length ps.length] w fun e w' => ∃ u, e = .returned u ∧ Own 3 .i64 w' w.heap.size w'.heap.size u (cat ps ps.length) ∧ Below w.heap.size w w' := by
  obtain ⟨i0, hi0, hz0, hz1, hz2⟩ := info_parts infoIntS
  have HC := Lib.hid hc
  have HR := Lib.hid hr
  clear hc hr
  obtain ⟨n, hnn⟩ : ∃ n, ps.length = n := ⟨_, rfl⟩
  have HN := Lib.hid hnn
  rw [hnn] at hm hn ⊢
  clear hnn
  have HNL := Lib.hid hn
  clear hn
  go_enter Tryd.func81, Tryd.ntmps81
  go_wp2
  go_loop [3, 11] (fun d i => ∃ k q : Nat, k ≤ n ∧ i = .int .i64 (k : Int) ∧ d = .int .i64 (q : Int) ∧ Hid ((cat ps k).length = q) ∧ q ≤ 1099511627776) (fun _ i => n - (intOf i).toNat)
  case atStart => exact ⟨0, 0, Nat.zero_le _, rfl, rfl, rfl, by decide⟩
  case round =>
    obtain ⟨k, q, hk, rfl, rfl, HQ, hq⟩ := hrel
    by_cases hlt : k < n
    · have hlt2 : k < ps.length := by rw [HN.out]; exact hlt
      have hx := HC.out k hlt2
      obtain ⟨⟨A, c, hA, r1, r2, _, _⟩, _⟩ := HR.out k hlt2
      rw [hA] at hx
      have hl2 := cat_le ps (k + 1) hlt2
      rw [HN.out, cat_succ ps k hlt2, List.length_append, HQ.out] at hl2
      have hl3 : q + ps[k].2.length ≤ 1099511627776 := Nat.le_trans hl2 HNL.out
      have HL := Lib.hid (show (cat ps (k + 1)).length = q + ps[k].2.length by rw [cat_succ ps k hlt2, List.length_append, HQ.out])
      clear hl2 hA
      generalize ps[k].2.length = m at hx hl3 HL r1
      go_wp2
      exact ⟨⟨k + 1, q + m, by omega, by go_num, by go_num, HL, hl3⟩, by simp only [intOf]; omega⟩
    · go_wp2_with fail
      refine (grow_none w q hq).mono ?_
      rintro e w1 ⟨u, rfl, hO, hb1⟩
      go_wp2
      go_loopw [6, 27] (fun o i wr => ∃ k : Nat, k ≤ n ∧ i = .int .i64 (k : Int) ∧ Own 3 .i64 wr w.heap.size wr.heap.size o (cat ps k) ∧ Below w.heap.size w wr) (fun _ i _ => n - (intOf i).toNat)
      case atStart => exact ⟨0, Nat.zero_le _, rfl, hO, hb1⟩
      case round =>
        obtain ⟨j, hj, rfl, hown, hbj⟩ := hrel
        by_cases hlt2 : j < n
        · have hlt3 : j < ps.length := by rw [HN.out]; exact hlt2
          have hx := (hbj.cell (p := ⟨b, j, none⟩) (by show b < _; omega)).trans (HC.out j hlt3)
          have hRj := (HR.out j hlt3).below hbj hh
          have hl2 := cat_le ps (j + 1) hlt3
          rw [HN.out, cat_succ ps j hlt3, List.length_append] at hl2
          have hle : (cat ps j).length + ps[j].2.length ≤ 2199023255552 := by have := HNL.out; omega
          have HS := Lib.hid (cat_succ ps j hlt3)
          have hsz := hbj.size
          clear hl2
          generalize cat ps j = acc at hown hle HS
          generalize ps[j].2 = l at hRj hle HS
          generalize ps[j].1 = x at hx hRj
          have hRx := Lib.hid hRj
          obtain ⟨⟨A, c, rfl, _, _, _, _⟩, _⟩ := hRj
          go_wp2_with (at_builtin; refine wpList_append_Own rfl _ _ 24 rfl 3 i0 (.int .i64 0) 8 Tryd.underlying24 hi0 hz0 hz1 hz2 rfl .i64 w.heap.size _ _ acc rfl hown hi _ l rfl hRx.out hle (by decide) hsz ?_; intro v2 w2 hown3 hb4)
          go_roundw
          case rel => exact ⟨j + 1, by omega, by go_num, by rw [HS.out]; exact hown3, hbj.trans hb4⟩
          case measure => simp only [intOf]; omega
        · go_wp2
          go_ret
          obtain rfl : j = n := by omega
          exact ⟨_, rfl, hown, hbj⟩
set_option maxRecDepth 100000 in
theorem impl_keyed (w : World) (hi : Nat) (s : Int) (v : Value) (l : List Int) (hs : (Lit.int .i64 s).wf = true) (h : Row .i64 w hi v l) (hh : hi ≤ w.heap.size) (hn : l.length ≤ 137438953472) :
    Calls Tryd.prog 74 #[.int .i64 s, v] w fun e w' => e = .returned (.int .i64 (keyed s l)) ∧ Below w.heap.size w w' := by
  have HR := Lib.hid h
  obtain ⟨⟨A, c, rfl, r1, r2, _, r3⟩, _⟩ := h
  clear r3
  have hA0 := Below.refl w.heap.size w
  obtain ⟨wa, hwa⟩ : ∃ wa, w.alloc (.cells #[.int .i64 s] 3) = wa := ⟨_, rfl⟩
  have ra0 := row_one .i64 3 w s hs
  have sa : wa.heap.size = w.heap.size + 1 := by rw [← hwa]; simp
  have ba := hA0.alloc (Nat.le_refl _) (.cells #[.int .i64 s] 3)
  rw [hwa] at ra0 ba
  obtain ⟨wb, hwb⟩ : ∃ wb, wa.alloc (.cells #[.int .i64 s] 3) = wb := ⟨_, rfl⟩
  have rb1 := row_one .i64 3 wa s hs
  have sb : wb.heap.size = w.heap.size + 2 := by rw [← hwb]; simp; omega
  have bb := (Below.refl wa.heap.size wa).alloc (Nat.le_refl _) (.cells #[.int .i64 s] 3)
  rw [hwb] at rb1 bb
  rw [sa] at rb1 bb
  obtain ⟨wc, hwc⟩ : ∃ wc, wb.alloc (.cells #[.slice (some ⟨w.heap.size, 0, none⟩) 1 1, .slice A l.length c, .slice (some ⟨w.heap.size + 1, 0, none⟩) 1 1] 24) = wc := ⟨_, rfl⟩
  have sc : wc.heap.size = w.heap.size + 3 := by rw [← hwc]; simp; omega
  have bc := (Below.refl wb.heap.size wb).alloc (Nat.le_refl _) (.cells #[.slice (some ⟨w.heap.size, 0, none⟩) 1 1, .slice A l.length c, .slice (some ⟨w.heap.size + 1, 0, none⟩) 1 1] 24)
  have hcells : ∀ i, wc.cell? ⟨w.heap.size + 2, i, none⟩ = (#[.slice (some ⟨w.heap.size, 0, none⟩) 1 1, .slice A l.length c, .slice (some ⟨w.heap.size + 1, 0, none⟩) 1 1] : Array Value)[i]? := fun i => by rw [← hwc, ← sb, World.cell?_alloc_new]
  rw [hwc] at bc
  rw [sb] at bc
  have bac := (bb.mono (by omega)).trans (bc.mono (B' := w.heap.size + 1) (by omega))
  have bAll := ba.trans (bac.mono (by omega))
  have r0 := (ra0.below bac (Nat.le_refl _)).more (show w.heap.size + 1 ≤ w.heap.size + 2 by omega)
  have r1' := rb1.below bc (Nat.le_refl _)
  have r2' := (HR.out.below bAll hh).more (show hi ≤ w.heap.size + 2 by omega)
  have hwcEq : ((w.alloc (.cells #[.int .i64 s] 3)).alloc (.cells #[.int .i64 s] 3)).alloc (.cells #[.slice (some ⟨w.heap.size, 0, none⟩) 1 1, .slice A l.length c, .slice (some ⟨w.heap.size + 1, 0, none⟩) 1 1] 24) = wc := by rw [hwa, hwb, hwc]
  have CC := concat_ints wc (w.heap.size + 2) (w.heap.size + 2) [(.slice (some ⟨w.heap.size, 0, none⟩) 1 1, [s]), (.slice A l.length c, l), (.slice (some ⟨w.heap.size + 1, 0, none⟩) 1 1, [s])] (by simp) (by omega)
    (fun i h => by
      rw [hcells i]
      rcases i with _ | _ | _ | i
      · rfl
      · rfl
      · rfl
      · simp at h; omega)
    (fun i h => by
      rcases i with _ | _ | _ | i
      · exact r0
      · exact r2'
      · exact r1'
      · simp at h; omega) (by omega) (by simp [cat]; omega)
  have HB := Lib.hid bAll
  have HS := Lib.hid sc
  clear hwa hwb hwc ra0 rb1 sa sb sc ba bb bc bac bAll r0 r1' r2' hcells hA0
  have HC := Lib.hid CC
  clear CC
  go_enter Tryd.func74, Tryd.ntmps74
  go_wp2_with fail
  refine HC.out.mono ?_
  rintro e w1 ⟨u, rfl, hO, hb1⟩
  have hcat : cat [(.slice (some ⟨w.heap.size, 0, none⟩) 1 1, [s]), (.slice A l.length c, l), (.slice (some ⟨w.heap.size + 1, 0, none⟩) 1 1, [s])] 3 = s :: l ++ [s] := by simp [cat]
  have hO2 : Own 3 .i64 w1 wc.heap.size w1.heap.size u (s :: l ++ [s]) := hcat ▸ hO
  clear hO hcat hwcEq
  go_wp2_with fail
  refine (impl_hash w1 w1.heap.size u (s :: l ++ [s]) hO2.read (Nat.le_refl _) (by simp; omega)).mono ?_
  rintro e w2 ⟨rfl, hb2⟩
  go_wp2
  go_ret
  have := HS.out
  exact ⟨rfl, HB.out.trans ((hb1.mono (by omega)).trans (hb2.mono (by have := hb1.size; omega)))⟩
end Go.Proofs.YtjfmmingkciapaaDoor
/- Contract of chapter 3's model: DeriveFromString. -/
namespace Go.Proofs.YtjfmmingkciapaaDoor
open Go.ChangeShapes Go.WideShapes Go.ChangeAt Go.RowKit
set_option linter.unusedVariables false

/-- The bytes of a string. -/
def strL (s : ByteArray) : List Int := s.data.toList.map fun x => (x.toNat : Int)
theorem strL_len (s : ByteArray) : (strL s).length = s.size := by simp [strL]
/-- '[]byte(s)' reads as the bytes of s. -/
theorem row_string (w : World) (E : TypeId) (s : ByteArray) (h : s.size ≤ maxLen) : Row .u8 (Lib.bytesWorld w E s) (w.heap.size + 1) (.slice (some ⟨w.heap.size, 0, none⟩) s.size (grownCap w s.size 0 E)) (strL s) := by
  refine ⟨⟨_, grownCap w s.size 0 E, by rw [strL_len], by rw [strL_len]; exact grownCap_ge .., grownCap_le_maxLen _ _ _ _ h, (fun e => by cases e), fun hp => ⟨w.heap.size, 0, rfl, by omega, by rw [Lib.bytesWorld_size]; omega, fun i hi => ?_⟩⟩, fun x hx => ?_⟩
  · rw [strL_len] at hi
    rw [Nat.zero_add, Lib.bytesWorld_cell w E s i hi]
    have h2 : i < s.data.toList.length := by simpa using hi
    simp only [strL, List.getD, List.getElem?_map, List.getElem?_eq_getElem h2, Option.map_some, Option.getD_some]
  · simp only [strL, List.mem_map] at hx
    obtain ⟨b, _, rfl⟩ := hx
    have := b.toNat_lt
    exact wf_u8 (by omega) (by omega)
theorem mx_derived (k : Int) (l : List Int) : mx 1 (keyed k (bytesInts l)) = derived k l := by
  have := keyed_bd k (bytesInts l)
  unfold mx derived
  split <;> split <;> omega
end Go.Proofs.YtjfmmingkciapaaDoor
/- A copy of a slice of integers: the landed helper as it is instantiated at integers. No condition but the length of what came in. -/
namespace Go.Proofs.YtjfmmingkciapaaDoor
open Go.ChangeShapes Go.WideShapes Go.ChangeAt Go.RowKit
set_option linter.unusedVariables false

set_option maxHeartbeats 1000000 in
theorem impl_copyInts (w : World) (hi c : Nat) (a : Option Addr) (xs : List Int) (h : Row .i64 w hi (.slice a xs.length c) xs) (hh : hi ≤ w.heap.size) (hn : xs.length ≤ 1099511627776) :
    Calls Tryd.prog 44 #[.slice a xs.length c] w fun e w' => ∃ u, e = .returned u ∧ Own 3 .i64 w' w.heap.size w'.heap.size u xs ∧ Below w.heap.size w w' := by
  obtain ⟨i0, hi0, hz0, hz1, hz2⟩ := info_parts infoIntS
  have hE := Own.empty 3 .i64 w
  have hb0 : Below w.heap.size w (w.alloc (.cells #[] 3)) := (Below.refl _ _).alloc (Nat.le_refl _) _
  have hr := h.below hb0 hh
  go_enter Tryd.func44, Tryd.ntmps44
  go_wp2_with (at_builtin; refine wpList_append_Own rfl _ _ 24 rfl 3 i0 (.int .i64 0) 8 Tryd.underlying24 hi0 hz0 hz1 hz2 rfl .i64 w.heap.size _ (.slice (some ⟨w.heap.size, 0, none⟩) 0 0) [] rfl hE _ _ xs rfl hr (by simp; omega) (by decide) (by simp) ?_; intro v w' ho hb)
  go_ret
  refine ⟨_, rfl, ?_, hb0.trans hb⟩
  rw [List.nil_append] at ho
  exact ho
end Go.Proofs.YtjfmmingkciapaaDoor
