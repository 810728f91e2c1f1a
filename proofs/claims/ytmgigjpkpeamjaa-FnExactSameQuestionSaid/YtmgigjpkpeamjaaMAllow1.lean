/- Some texts in one: Hash, Bytes, Hash2, Allow1. -/
import Derived.Test.YtmgigjpkpeamjaaRow
import Derived.Test.YtmgigjpkpeamjaaInts
import Derived.WalkKit
import Derived.ProofKit
import Derived.OpenShut
import Derived.WalkLawsBesides
import Derived.WalkSpells
import Derived.LoopTactic
import Derived.Deep.QuietTactic
import Derived.BigQuiet
import Derived.Outline
import Derived.Test.YtmgigjpkpeamjaaMCellI
import Derived.Test.YtmgigjpkpeamjaaMReqM
import Derived.Deep.DeepCutAuto
/- Plain mathematics of the hash and of the ciphers. No condition. -/
namespace Go.Proofs.Ytmgigjpkpeamjaa
open Go.RowKit
set_option linter.unusedVariables false

/-- One step of the hash. -/
def hstep (d v : Int) : Int := (d * 1000003 + v % 2147483647 + 13) % 2147483647
def hshFrom (d : Int) (l : List Int) : Int := l.foldl hstep d
def hsh (l : List Int) : Int := hshFrom 11 l
def keyed (k : Int) (l : List Int) : Int := hsh (k :: l ++ [k])
theorem hstep_bd (d v : Int) : 0 ≤ hstep d v ∧ hstep d v < 2147483647 := by unfold hstep; omega
theorem hshFrom_bd : ∀ (l : List Int) (d : Int), 0 ≤ d → d < 2147483647 → 0 ≤ hshFrom d l ∧ hshFrom d l < 2147483647
  | [], d, h0, h1 => ⟨h0, h1⟩
  | v :: l, d, _, _ => hshFrom_bd l (hstep d v) (hstep_bd d v).1 (hstep_bd d v).2
theorem hsh_bd (l : List Int) : 0 ≤ hsh l ∧ hsh l < 2147483647 := hshFrom_bd l 11 (by decide) (by decide)
theorem keyed_bd (k : Int) (l : List Int) : 0 ≤ keyed k l ∧ keyed k l < 2147483647 := hsh_bd _
theorem hsh_take (l : List Int) (k : Nat) (h : k < l.length) : hsh (l.take (k + 1)) = hstep (hsh (l.take k)) l[k] := by
  unfold hsh hshFrom
  rw [List.take_succ_eq_append_getElem h, List.foldl_append]
  rfl
theorem hstep_inj {d d' v : Int} (h0 : 0 ≤ d) (h1 : d < 2147483647) (h2 : 0 ≤ d') (h3 : d' < 2147483647) (h : hstep d v = hstep d' v) : d = d' := by
  unfold hstep at h
  generalize v % 2147483647 = r at h
  have h4 := Int.emod_eq_emod_iff_emod_sub_eq_zero.1 h
  obtain ⟨t, ht⟩ := Int.dvd_of_emod_eq_zero h4
  clear h h4
  have h5 : (d - d') * 1000003 = 2147483647 * t := by rw [← ht, Int.sub_mul]; omega
  clear ht
  obtain ⟨x, hx⟩ : ∃ x, d - d' = x := ⟨_, rfl⟩
  rw [hx] at h5
  have h6 : x = 2147483647 * (1523789695 * t - 709572 * x) := by omega
  obtain ⟨u, hu⟩ : ∃ u, 1523789695 * t - 709572 * x = u := ⟨_, rfl⟩
  rw [hu] at h6
  clear h5 hu
  omega
theorem hstep_val {d v v' : Int} (h : hstep d v = hstep d v') : v % 2147483647 = v' % 2147483647 := by
  unfold hstep at h
  omega
theorem hshFrom_ne : ∀ (l : List Int) (d d' : Int), 0 ≤ d → d < 2147483647 → 0 ≤ d' → d' < 2147483647 → d ≠ d' → hshFrom d l ≠ hshFrom d' l
  | [], d, d', _, _, _, _, h => h
  | v :: l, d, d', a, b, a', b', h => hshFrom_ne l _ _ (hstep_bd d v).1 (hstep_bd d v).2 (hstep_bd d' v).1 (hstep_bd d' v).2 fun e => h (hstep_inj a b a' b' e)
/-- One value that is changed changes the hash. -/
theorem hsh_changed (p q : List Int) (x y : Int) (h : x % 2147483647 ≠ y % 2147483647) : hsh (p ++ x :: q) ≠ hsh (p ++ y :: q) := by
  have e : ∀ z, hsh (p ++ z :: q) = hshFrom (hstep (hsh p) z) q := fun z => by unfold hsh hshFrom; rw [List.foldl_append, List.foldl_cons]
  rw [e, e]
  exact hshFrom_ne q _ _ (hstep_bd _ _).1 (hstep_bd _ _).2 (hstep_bd _ _).1 (hstep_bd _ _).2 fun e => h (hstep_val e)
theorem keyed_changed (k : Int) (l : List Int) (i : Nat) (h : i < l.length) (y : Int) (hy : l[i] % 2147483647 ≠ y % 2147483647) : keyed k (l.set i y) ≠ keyed k l := by
  have e1 : l.set i y = l.take i ++ y :: l.drop (i + 1) := List.set_eq_take_append_cons_drop .. |>.trans (by rw [if_pos h])
  have e2 : l.take i ++ l[i] :: l.drop (i + 1) = l := by rw [← List.drop_eq_getElem_cons h, List.take_append_drop]
  have e3 : k :: (l.take i ++ ((l[i] :: l.drop (i + 1)) ++ [k])) = k :: (l ++ [k]) := by rw [← List.append_assoc, e2]
  have e4 := hsh_changed (k :: l.take i) (l.drop (i + 1) ++ [k]) y l[i] (fun e => hy e.symm)
  unfold keyed
  intro e
  refine e4 ?_
  rw [e1] at e
  have e5 : k :: l ++ [k] = (k :: l.take i) ++ l[i] :: (l.drop (i + 1) ++ [k]) := e3.symm
  have e6 : k :: (l.take i ++ y :: l.drop (i + 1)) ++ [k] = (k :: l.take i) ++ y :: (l.drop (i + 1) ++ [k]) := by simp
  rw [e5, e6] at e
  exact e
theorem modOf_val (v : Int) : modOf v 2147483647 = v % 2147483647 := by unfold modOf; rw [if_pos (by decide)]
theorem modOf_byte (v : Int) : modOf v 256 = v % 256 := by unfold modOf; rw [if_pos (by decide)]
theorem hstep_mod (d v : Int) : (d * 1000003 + modOf v 2147483647 + 13) % 2147483647 = hstep d v := by rw [modOf_val]; rfl

/-- The first k values of a list, each turned by its place. -/
def crypt (f : Nat → Int → Int) (l : List Int) (k : Nat) : List Int := (List.range k).map fun i => f i (l.getD i 0)
theorem crypt_len (f : Nat → Int → Int) (l : List Int) (k : Nat) : (crypt f l k).length = k := by simp [crypt]
theorem crypt_succ (f : Nat → Int → Int) (l : List Int) (k : Nat) : crypt f l (k + 1) = crypt f l k ++ [f k (l.getD k 0)] := by simp [crypt, List.range_succ]
def encF (s : Int) (i : Nat) (x : Int) : Int := (x + keyed s [(i : Int)] % 256) % 256
def decF (s : Int) (i : Nat) (x : Int) : Int := (x - keyed s [(i : Int)] % 256) % 256
def encL (s : Int) (l : List Int) : List Int := crypt (encF s) l l.length
def decL (s : Int) (l : List Int) : List Int := crypt (decF s) l l.length
theorem encL_len (s : Int) (l : List Int) : (encL s l).length = l.length := crypt_len ..
theorem decL_len (s : Int) (l : List Int) : (decL s l).length = l.length := crypt_len ..
theorem crypt_back (f g : Nat → Int → Int) (l : List Int) (hl : ∀ x ∈ l, 0 ≤ x ∧ x ≤ 255) (h : ∀ i x, 0 ≤ x → x ≤ 255 → f i (g i x) = x) : crypt f (crypt g l l.length) (crypt g l l.length).length = l := by
  apply List.ext_getElem
  · rw [crypt_len, crypt_len]
  · intro i h1 h2
    have h3 : i < (crypt g l l.length).length := by rw [crypt_len]; exact h2
    obtain ⟨b0, b1⟩ := hl _ (List.getElem_mem h2)
    simp only [crypt, List.getElem_map, List.getElem_range, List.getD, List.getElem?_map, List.length_map, List.length_range, List.getElem?_range h2, Option.map_some, Option.getD_some, List.getElem?_eq_getElem h2]
    exact h i _ b0 b1
theorem dec_enc (s : Int) (l : List Int) (hl : ∀ x ∈ l, 0 ≤ x ∧ x ≤ 255) : decL s (encL s l) = l :=
  crypt_back _ _ l hl fun i x h0 h1 => by unfold encF decF; omega
theorem enc_dec (s : Int) (l : List Int) (hl : ∀ x ∈ l, 0 ≤ x ∧ x ≤ 255) : encL s (decL s l) = l :=
  crypt_back _ _ l hl fun i x h0 h1 => by unfold encF decF; omega
/-- What BytesToInts answers. -/
def bytesInts (l : List Int) : List Int := (l.length : Int) :: l
/-- What DeriveFromString answers. -/
def derived (k : Int) (l : List Int) : Int := if keyed k (bytesInts l) = 0 then 1 else keyed k (bytesInts l)
theorem derived_bd (k : Int) (l : List Int) : 1 ≤ derived k l ∧ derived k l < 2147483647 := by
  have := keyed_bd k (bytesInts l)
  unfold derived
  split <;> omega
end Go.Proofs.Ytmgigjpkpeamjaa
/- The helpers of the exact statements over slices of bytes: a copy, a comparison, marks, and whether the marks are still there. -/
namespace Go.Proofs.Ytmgigjpkpeamjaa
open Go.ChangeShapes Go.WideShapes Go.ChangeAt Go.RowKit
set_option linter.unusedVariables false

theorem infoByteS : (Try.prog.info? 5).map (fun i => (i.zero, i.size, i.bytes)) = some (some (.int .u8 0), 1, 1) := by kernel_rfl

/-- What the helper that marks writes. -/
def marksByteS (k : Int) (n : Nat) : List Int := (List.range n).map fun (i : Nat) => (k + (i : Int)) % 256
theorem marksByteS_length (k : Int) (n : Nat) : (marksByteS k n).length = n := by simp [marksByteS]
theorem marksByteS_at (k : Int) (n i : Nat) (h : i < (marksByteS k n).length) : (marksByteS k n)[i] = (k + (i : Int)) % 256 := by simp [marksByteS]
theorem marksByteS_wf (k : Int) (n : Nat) (hk0 : 0 ≤ k) (hk1 : k ≤ 1099511627776000) (hn : n ≤ 1099511627776) : ∀ x ∈ marksByteS k n, (Lit.int .u8 x).wf = true := by
  intro x hx
  simp only [marksByteS, List.mem_map] at hx
  obtain ⟨i, hi, rfl⟩ := hx
  have := List.mem_range.1 hi
  exact wf_u8 (by omega) (by omega)

end Go.Proofs.Ytmgigjpkpeamjaa
/- Contracts of chapter 3's model: Hash, KeyedHash, IsValidKey, BytesToInts, EqualInts. -/
namespace Go.Proofs.Ytmgigjpkpeamjaa
open Go.ChangeShapes Go.WideShapes Go.ChangeAt Go.RowKit
set_option linter.unusedVariables false

/-- The literal '[]T{x}' is the call's own. -/
theorem Own.one (E : TypeId) (K : IntKind) (w : World) (x : Int) (hx : (Lit.int K x).wf = true) : Own E K (w.alloc (.cells #[.int K x] E)) w.heap.size (w.heap.size + 1) (.slice (some ⟨w.heap.size, 0, none⟩) 1 1) [x] :=
  ⟨World.ownsRow_lit w #[.int K x] 1 (Nat.le_refl _) (by decide) rfl, fun k hk => by
    have : w.heap.size = k := by simpa [Value.ownBlock] using hk
    omega, fun y hy => by
    have : y = x := by simpa using hy
    rw [this]
    exact hx⟩
end Go.Proofs.Ytmgigjpkpeamjaa
/- Appraisal (chapter 13): contracts of the model: lists of numbers. No condition but the bounds of what came in. -/
namespace Go.Proofs.Ytmgigjpkpeamjaa
open Go.ChangeShapes Go.WideShapes Go.ChangeAt Go.RowKit
set_option linter.unusedVariables false

set_option maxHeartbeats 1000000 in
theorem spec_l13Has (w : World) (hi c : Nat) (a : Option Addr) (l : List Int) (n : Int) (h : Row .i64 w hi (.slice a l.length c) l) :
    Calls Try.prog 47 #[.slice a l.length c, .int .i64 n] w fun e w' => e = .returned (.bool (hasI l n)) ∧ Below w.heap.size w w' := by
  obtain ⟨a', c', e0, h1, h2, -⟩ := id h.form
  injection e0 with e0 e1 e2
  subst e0 e2
  unfold maxLen at h2
  have H := Lib.hid h
  clear h
  obtain ⟨R, hR⟩ : ∃ R, hasI l n = R := ⟨_, rfl⟩
  rw [hR]
  have HR := Lib.hid hR
  clear hR
  go_enter Try.func47, Try.ntmps47
  go_wp2
  go_loopw [5] (fun i wr => ∃ k : Nat, k ≤ l.length ∧ i = .int .i64 (k : Int) ∧ Hid (R = hasI (l.drop k) n) ∧ Below w.heap.size w wr) (fun i _ => l.length - (intOf i).toNat)
  case atStart => exact ⟨0, Nat.zero_le _, rfl, Lib.hid HR.out.symm, Below.refl _ _⟩
  case round =>
    obtain ⟨k, hk, rfl, HI, hb⟩ := hrel
    by_cases hlt : k < l.length
    · obtain ⟨x, hx⟩ : ∃ x, l[k]? = some x := ⟨_, List.getElem?_eq_getElem hlt⟩
      have HS := Lib.hid (hasI_drop (n := n) hx)
      obtain ⟨v, hv⟩ : ∃ v, (x == n) = v := ⟨_, rfl⟩
      rw [hv] at HS
      obtain ⟨b, off, rfl, g1, g2, c0⟩ := Row.cellAt H.out hx
      have c1 := (hb.cell (p := ⟨b, off + k, none⟩) g2).trans c0
      clear hx c0
      cases v
      · have HF := Lib.hid (show R = hasI (l.drop (k + 1)) n by rw [HI.out, HS.out]; rfl)
        go_wp2
        exact ⟨⟨k + 1, by omega, by go_num, HF, hb⟩, by simp only [intOf]; omega⟩
      · have HF := Lib.hid (show R = true by rw [HI.out, HS.out]; rfl)
        go_wp2
        go_ret
        exact ⟨ret_b HF.out.symm, hb⟩
    · obtain rfl : k = l.length := by omega
      have HF := Lib.hid (show R = false by rw [HI.out, List.drop_of_length_le (Nat.le_refl _)]; rfl)
      go_wp2
      go_ret
      exact ⟨ret_b HF.out.symm, hb⟩
end Go.Proofs.Ytmgigjpkpeamjaa
