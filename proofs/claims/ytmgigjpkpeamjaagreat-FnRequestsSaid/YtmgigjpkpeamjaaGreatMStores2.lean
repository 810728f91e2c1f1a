/- Some texts in one: First, Stores3, Stores2. -/
import Derived.Test.YtmgigjpkpeamjaaGreatRow
import Derived.Test.YtmgigjpkpeamjaaGreatStores
import Derived.Laws.StructEq
/- The place of the first element that a test holds at. No condition. -/
namespace Go.Proofs.YtmgigjpkpeamjaaGreat
set_option linter.unusedVariables false

def firstI {X : Type} (p : X → Bool) : List X → Int → Int
  | [], _ => -1
  | x :: t, i => if p x then i else firstI p t (i + 1)
theorem firstI_any {X : Type} (p : X → Bool) : ∀ (xs : List X) (n : Int), 0 ≤ n → (decide (0 ≤ firstI p xs n) = xs.any p)
  | [], n, h => by simp [firstI]
  | x :: xs, n, h => by
    unfold firstI
    cases hp : p x
    · simp only [Bool.false_eq_true, if_false, List.any_cons, hp, Bool.false_or]
      exact firstI_any p xs (n + 1) (by omega)
    · simp [hp, h]
end Go.Proofs.YtmgigjpkpeamjaaGreat
/- Stores of facts (chapter 7): contracts of the model: what is found, and the greatest value. -/
namespace Go.Proofs.YtmgigjpkpeamjaaGreat
open Go.ChangeShapes Go.WideShapes Go.ChangeAt Go.RowKit
set_option linter.unusedVariables false

def wantF (k s v now age : Int) (x : FactD) : Bool := decide (x.Kind = k ∧ x.Subject = s ∧ x.Value = v) && holdsB x now age
def findF (xs : List FactD) (k s v now age : Int) : Int := firstI (wantF k s v now age) xs 0
def keepF (k s now age : Int) (x : FactD) : Bool := decide (x.Kind = k ∧ x.Subject = s) && holdsB x now age
def bestF (xs : List FactD) (k s now age : Int) : Int := xs.foldl (fun b x => if keepF k s now age x then mx b x.Value else b) (-1)
end Go.Proofs.YtmgigjpkpeamjaaGreat
/- Stores of facts (chapter 7): contracts of the model: copies, what is left, what is found. -/
namespace Go.Proofs.YtmgigjpkpeamjaaGreat
open Go.ChangeShapes Go.WideShapes Go.ChangeAt Go.RowKit
set_option linter.unusedVariables false

set_option maxHeartbeats 1000000 in
theorem spec_l7Copy (w : World) (hi c : Nat) (a : Option Addr) (xs : List FactD) (h : RowFact w hi (.slice a xs.length c) xs) (hh : hi ≤ w.heap.size) (hn : xs.length ≤ 1048576) :
    Calls Tryz.prog 62 #[.slice a xs.length c] w fun e w' => ∃ u, e = .returned u ∧ OwnFact w' w.heap.size w'.heap.size u xs ∧ Below w.heap.size w w' := by
  obtain ⟨i0, hi0, hz0, hz1, hz2⟩ := info_parts infoFact
  obtain ⟨h1, h2⟩ := h.fits
  unfold maxLen at h2
  have hE := OwnC.empty 34 6 w
  have hb0 : Below w.heap.size w (w.alloc (.cells #[] 34)) := (Below.refl _ _).alloc (Nat.le_refl _) _
  have hr := h.below hb0 hh
  go_enter Tryz.func62, Tryz.ntmps62
  go_wp2_with (at_builtin; refine wpList_append_OwnC rfl _ _ _ rfl i0 (.agg zerosFact.toArray) 48 Tryz.underlying25 hi0 hz0 hz1 hz2 rfl (by decide) rfl hE _ _ _ _ rfl hr (flat_one FactD.one xs) (by omega) (by decide) (by simp) ?_; intro v w' ho hb)
  go_ret
  refine ⟨_, rfl, ?_, hb0.trans hb⟩
  have e : 0 + xs.length = xs.length := Nat.zero_add _
  rw [e, List.nil_append] at ho
  exact ho
def dropF (xs : List FactD) (now : Int) : List FactD := xs.filter fun x => decide (now ≤ x.Until)
end Go.Proofs.YtmgigjpkpeamjaaGreat
