/- Some texts in one: ReqM, ReqW, ReqF, NamesI. -/
import Derived.Test.YtmgigjpkpeamjaaGreatMRequestT
import Derived.Test.YtmgigjpkpeamjaaGreatMDraw5
import Derived.Test.YtmgigjpkpeamjaaGreatMFacts
import Derived.Test.YtmgigjpkpeamjaaGreatRoleN
import Derived.Test.YtmgigjpkpeamjaaGreatMCellI
import Derived.Test.YtmgigjpkpeamjaaGreatMAllowM
import Derived.Test.YtmgigjpkpeamjaaGreatStoreM
import Derived.Test.YtmgigjpkpeamjaaGreatRoleM
import Derived.WalkKit
import Derived.Test.YtmgigjpkpeamjaaGreatRow
import Derived.Lib.OthersKept
import Derived.Lib.SliceRun
import Derived.BigFrame
/- Requests (chapter 17): mathematics of requests and of leaves. No condition. -/
namespace Go.Proofs.YtmgigjpkpeamjaaGreat
open Go.ChangeShapes Go.WideShapes Go.ChangeAt Go.RowKit
set_option linter.unusedVariables false

def reqB (q : RequestD) : Bool := hasOf q.Person 1 && (hasOf q.Device 2 && (hasOf q.Program 3 && (hasOf q.Object 4 && (decide (0 ≤ q.Action ∧ q.Action ≤ 5) && decide (isT q.Now)))))
def atQ (q : RequestD) (n : Int) : RequestD := ⟨q.Person, q.Device, q.Program, q.Action, q.Object, n⟩
def sameQ (a b : RequestD) : Bool := a.Person == b.Person && (a.Device == b.Device && (a.Program == b.Program && (a.Action == b.Action && a.Object == b.Object)))
/-- Whether a leaf with these numbers holds for a request. -/
def leafQ (ls : List IncludesD) (xs : List FactD) (o a b : Int) (q : RequestD) : Bool :=
  if o = 1 then true
  else if o = 2 then hasI (Role.ofL (Role.prs ls) (valsF xs 1 q.Person q.Now b)) a
  else if o = 3 then decide (0 ≤ findF xs 2 q.Person q.Device q.Now b)
  else if o = 4 then decide (a ≤ bestF xs 3 q.Device q.Now b)
  else if o = 5 then decide (a ≤ bestF xs 4 q.Program q.Now b)
  else if o = 6 then decide (q.Now ≤ a)
  else false
theorem atQ_wf {q : RequestD} {n : Int} (h : q.wf) (hn : (Lit.int .i64 n).wf = true) : (atQ q n).wf := by
  obtain ⟨h0, h1, h2, h3, h4, h5⟩ := h
  exact ⟨h0, h1, h2, h3, h4, hn⟩
theorem sameQ_no {p d g a o n p' d' g' a' o' n' : Int} (h : sameQ ⟨p, d, g, a, o, n⟩ ⟨p', d', g', a', o', n'⟩ = false) : (p == p') = false ∨ p = p' ∧ ((d == d') = false ∨ d = d' ∧ ((g == g') = false ∨ g = g' ∧ ((a == a') = false ∨ a = a' ∧ ((o == o') = false)))) := by
  simp only [sameQ, Bool.and_eq_false_iff] at h
  rcases h with h | h | h | h | h
  · exact .inl h
  · by_cases h1 : p = p'
    · exact .inr ⟨h1, .inl h⟩
    · exact .inl (beq_eq_false_iff_ne.2 h1)
  · by_cases h1 : p = p'
    · by_cases h2 : d = d'
      · exact .inr ⟨h1, .inr ⟨h2, .inl h⟩⟩
      · exact .inr ⟨h1, .inl (beq_eq_false_iff_ne.2 h2)⟩
    · exact .inl (beq_eq_false_iff_ne.2 h1)
  · by_cases h1 : p = p'
    · by_cases h2 : d = d'
      · by_cases h3 : g = g'
        · exact .inr ⟨h1, .inr ⟨h2, .inr ⟨h3, .inl h⟩⟩⟩
        · exact .inr ⟨h1, .inr ⟨h2, .inl (beq_eq_false_iff_ne.2 h3)⟩⟩
      · exact .inr ⟨h1, .inl (beq_eq_false_iff_ne.2 h2)⟩
    · exact .inl (beq_eq_false_iff_ne.2 h1)
  · by_cases h1 : p = p'
    · by_cases h2 : d = d'
      · by_cases h3 : g = g'
        · by_cases h4 : a = a'
          · exact .inr ⟨h1, .inr ⟨h2, .inr ⟨h3, .inr ⟨h4, h⟩⟩⟩⟩
          · exact .inr ⟨h1, .inr ⟨h2, .inr ⟨h3, .inl (beq_eq_false_iff_ne.2 h4)⟩⟩⟩
        · exact .inr ⟨h1, .inr ⟨h2, .inl (beq_eq_false_iff_ne.2 h3)⟩⟩
      · exact .inr ⟨h1, .inl (beq_eq_false_iff_ne.2 h2)⟩
    · exact .inl (beq_eq_false_iff_ne.2 h1)
theorem sameQ_yes {p d g a o n p' d' g' a' o' n' : Int} (h : sameQ ⟨p, d, g, a, o, n⟩ ⟨p', d', g', a', o', n'⟩ = true) : p = p' ∧ d = d' ∧ g = g' ∧ a = a' ∧ o = o' := by
  simpa [sameQ] using h
theorem sameQ_at (q : RequestD) (n : Int) : sameQ q (atQ q n) = true := by simp [sameQ, atQ]
end Go.Proofs.YtmgigjpkpeamjaaGreat
/- Requests (chapter 17): further facts take nothing away from a leaf. No condition. -/
namespace Go.Proofs.YtmgigjpkpeamjaaGreat
open Go.ChangeShapes Go.WideShapes Go.ChangeAt Go.RowKit
set_option linter.unusedVariables false

theorem ins_more {f : FactD} {xs : List FactD} (h : ∀ x ∈ xs, sameB x f = false) : ∀ x ∈ xs, x ∈ ins f xs := fun x hx => by
  rcases ins_keeps hx (f := f) with h1 | ⟨-, h2, -⟩
  · exact h1
  · have h3 := h x hx
    rw [sameB_comm h2] at h3
    cases h3
theorem hasI_iff {l : List Int} {n : Int} : hasI l n = true ↔ n ∈ l := by
  unfold hasI
  rw [List.any_eq_true]
  constructor
  · rintro ⟨x, hx, he⟩
    rw [← eq_of_beq he]
    exact hx
  · intro h
    exact ⟨n, h, by simp⟩
theorem valsF_more {xs ys : List FactD} (h : ∀ x ∈ xs, x ∈ ys) {k s now age v : Int} (hv : v ∈ valsF xs k s now age) : v ∈ valsF ys k s now age := by
  unfold valsF at hv ⊢
  obtain ⟨x, hx, rfl⟩ := List.mem_map.1 hv
  obtain ⟨h1, h2⟩ := List.mem_filter.1 hx
  exact List.mem_map.2 ⟨x, List.mem_filter.2 ⟨h x h1, h2⟩, rfl⟩
theorem roles_more {l : List (Int × Int)} {us vs : List Int} (h : ∀ x ∈ us, x ∈ vs) {r : Int} (hr : hasI (Role.ofL l us) r = true) : hasI (Role.ofL l vs) r = true := by
  rw [hasI_iff] at hr ⊢
  unfold Role.ofL Role.rolesL at hr ⊢
  rw [List.mem_filter, Role.closed_iff] at hr ⊢
  obtain ⟨h0, a, h1, h2⟩ := hr
  exact ⟨h0, a, h a h1, h2⟩
theorem find_iff (xs : List FactD) (k s v now age : Int) : 0 ≤ findF xs k s v now age ↔ ∃ x ∈ xs, wantF k s v now age x = true := by
  rcases firstI_cases (wantF k s v now age) xs 0 with ⟨h1, h2⟩ | ⟨i, hi, h1, h2⟩
  · constructor
    · intro h
      unfold findF at h
      have : firstI (wantF k s v now age) xs 0 = -1 := h1
      omega
    · rintro ⟨x, hx, he⟩
      rw [h2 x hx] at he
      cases he
  · constructor
    · intro _
      exact ⟨_, List.getElem_mem hi, h2⟩
    · intro _
      unfold findF
      have : firstI (wantF k s v now age) xs 0 = ((0 + i : Nat) : Int) := h1
      omega
theorem best_iff (xs : List FactD) (k s now age a : Int) : a ≤ bestF xs k s now age ↔ a ≤ -1 ∨ ∃ v ∈ valsF xs k s now age, a ≤ v := by
  rw [best_vals]
  have : ∀ (l : List Int) (b : Int), a ≤ l.foldl mx b ↔ a ≤ b ∨ ∃ v ∈ l, a ≤ v := by
    intro l
    induction l with
    | nil => intro b; simp
    | cons y t ih =>
      intro b
      rw [List.foldl_cons, ih]
      have hm : a ≤ mx b y ↔ a ≤ b ∨ a ≤ y := by unfold mx; split <;> omega
      rw [hm]
      constructor
      · rintro ((h | h) | ⟨v, h1, h2⟩)
        · exact .inl h
        · exact .inr ⟨y, List.mem_cons_self, h⟩
        · exact .inr ⟨v, List.mem_cons_of_mem _ h1, h2⟩
      · rintro (h | ⟨v, h1, h2⟩)
        · exact .inl (.inl h)
        · rcases List.mem_cons.1 h1 with rfl | h1
          · exact .inl (.inr h2)
          · exact .inr ⟨v, h1, h2⟩
  exact this _ _
/-- What a leaf says with more facts. -/
theorem leafQ_more {xs ys : List FactD} (h : ∀ x ∈ xs, x ∈ ys) {ls : List IncludesD} {o a b : Int} {q : RequestD} (hl : leafQ ls xs o a b q = true) : leafQ ls ys o a b q = true := by
  unfold leafQ at hl ⊢
  split
  · rfl
  · rename_i h1
    rw [if_neg h1] at hl
    split
    · rename_i h2
      rw [if_pos h2] at hl
      exact roles_more (fun x => valsF_more h) hl
    · rename_i h2
      rw [if_neg h2] at hl
      split
      · rename_i h3
        rw [if_pos h3, decide_eq_true_iff, find_iff] at hl
        rw [decide_eq_true_iff, find_iff]
        obtain ⟨x, hx, he⟩ := hl
        exact ⟨x, h x hx, he⟩
      · rename_i h3
        rw [if_neg h3] at hl
        split
        · rename_i h4
          rw [if_pos h4, decide_eq_true_iff, best_iff] at hl
          rw [decide_eq_true_iff, best_iff]
          rcases hl with hl | ⟨v, hv, hl⟩
          · exact .inl hl
          · exact .inr ⟨v, valsF_more h hv, hl⟩
        · rename_i h4
          rw [if_neg h4] at hl
          split
          · rename_i h5
            rw [if_pos h5, decide_eq_true_iff, best_iff] at hl
            rw [decide_eq_true_iff, best_iff]
            rcases hl with hl | ⟨v, hv, hl⟩
            · exact .inl hl
            · exact .inr ⟨v, valsF_more h hv, hl⟩
          · rename_i h5
            rw [if_neg h5] at hl
            exact hl
/-- The leaf's answer behind PutFact of a claim that is not there. -/
theorem leafQ_put {xs : List FactD} {f : FactD} (hok : (putF xs f).2 = true) (hn : ∀ x ∈ xs, sameB x f = false) {ls : List IncludesD} {o a b : Int} {q : RequestD} (hl : leafQ ls xs o a b q = true) : leafQ ls (putF xs f).1 o a b q = true := by
  rcases putF_cases xs f with ⟨h, -, -, -⟩ | ⟨h, -⟩
  · rw [h]
    exact leafQ_more (ins_more hn) hl
  · rw [h] at hok
    cases hok
end Go.Proofs.YtmgigjpkpeamjaaGreat
/- A field read out of a request that a call handed back. No condition. -/
namespace Go.Proofs.YtmgigjpkpeamjaaGreat
open Go.ChangeShapes Go.WideShapes Go.ChangeAt Go.RowKit
theorem run_field_5 (p d g k o t : Int) (W : World) : (Instr.field 30 (.agg #[.int .i64 p, .int .i64 d, .int .i64 g, .int .i64 k, .int .i64 o, .int .i64 t]) 5).run Tryz.prog W = .ok (.int .i64 t) W := by
  kernel_rfl
end Go.Proofs.YtmgigjpkpeamjaaGreat
/- Contracts of the landed functions of chapter 5 (7a1659f). No condition but that ParseName's text is no longer than what the laws draw. -/
namespace Go.Proofs.YtmgigjpkpeamjaaGreat
open Go.ChangeShapes Go.WideShapes Go.ChangeAt Go.RowKit
set_option linter.unusedVariables false
theorem impl_isName0 (x : Int) (w : World) : Calls Tryz.prog 75 #[.int .i64 x] w fun e w' => e = .returned (.bool (decide (isN x))) ∧ w = w' := by
  go_enter Tryz.func75, Tryz.ntmps75
  go_wp2_with fail
  refine (impl_range x 10 49 w).mono ?_
  rintro e w' ⟨rfl, rfl⟩
  go_wp2
  go_ret
  exact ⟨ret_b (by show _ = decide (10 ≤ x ∧ x ≤ 49); simp), rfl⟩
theorem impl_isName (x : Int) (w : World) : Calls Tryz.prog 75 #[.int .i64 x] w fun e w' => e = .returned (.bool (decide (isN x))) ∧ Below w.heap.size w w' :=
  (impl_isName0 x w).mono fun e w' he => ⟨he.1, bBelow he.2⟩
theorem impl_isName_is {x : Int} {b : Bool} (h : decide (isN x) = b) (w : World) : Calls Tryz.prog 75 #[.int .i64 x] w fun e w' => e = .returned (.bool b) ∧ w = w' := by
  subst h
  exact impl_isName0 x w
theorem impl_kindOf0 (x : Int) (w : World) : Calls Tryz.prog 76 #[.int .i64 x] w fun e w' => e = .returned (.int .i64 (kindOf x)) ∧ w = w' := by
  by_cases h : 10 ≤ x ∧ x ≤ 49
  · have H := Lib.hid h
    obtain ⟨h0, h1⟩ := h
    go_enter Tryz.func76, Tryz.ntmps76
    go_wp2_with (go_at_call 75; refine (impl_isName_is (isN_yes H.out) _).mono ?_; rintro e w' ⟨rfl, rfl⟩)
    go_ret
    exact ⟨ret_int (by unfold kindOf; rw [if_pos (show isN x from H.out)]), rfl⟩
  · have H := Lib.hid h
    clear h
    go_enter Tryz.func76, Tryz.ntmps76
    go_wp2_with (go_at_call 75; refine (impl_isName_is (isN_no H.out) _).mono ?_; rintro e w' ⟨rfl, rfl⟩)
    go_ret
    exact ⟨ret_int (by unfold kindOf; rw [if_neg (show ¬ isN x from H.out)]), rfl⟩
theorem impl_kindOf (x : Int) (w : World) : Calls Tryz.prog 76 #[.int .i64 x] w fun e w' => e = .returned (.int .i64 (kindOf x)) ∧ Below w.heap.size w w' :=
  (impl_kindOf0 x w).mono fun e w' he => ⟨he.1, bBelow he.2⟩
theorem impl_hasKind (x k : Int) (w : World) : Calls Tryz.prog 65 #[.int .i64 x, .int .i64 k] w fun e w' => e = .returned (.bool (hasOf x k)) ∧ Below w.heap.size w w' := by
  by_cases h : 10 ≤ x ∧ x ≤ 49
  · have H := Lib.hid h
    obtain ⟨q, hq⟩ : ∃ q, kindOf x = q := ⟨_, rfl⟩
    have HQ := Lib.hid hq
    have HX := Lib.hid (show x / 10 = q by rw [← hq]; unfold kindOf; rw [if_pos (show isN x from h)])
    clear hq h
    by_cases hk : q = k
    · subst hk
      go_enter Tryz.func65, Tryz.ntmps65
      go_wp2_with (first
        | (go_at_call 75; refine (impl_isName_is (isN_yes H.out) _).mono ?_; rintro e w' ⟨rfl, rfl⟩)
        | (go_at_call 76; refine (impl_kindOf0 _ _).mono ?_; rintro e w' ⟨rfl, rfl⟩; rw [HQ.out]))
      go_ret
      exact ⟨ret_b (by unfold hasOf; rw [decide_eq_true (p := isN x ∧ x / 10 = q) ⟨H.out, HX.out⟩]), Below.refl _ _⟩
    · have e1 : (q == k) = false := by rw [beq_eq_false_iff_ne]; exact hk
      have HK := Lib.hid hk
      clear hk
      go_enter Tryz.func65, Tryz.ntmps65
      go_wp2_with (first
        | (go_at_call 75; refine (impl_isName_is (isN_yes H.out) _).mono ?_; rintro e w' ⟨rfl, rfl⟩)
        | (go_at_call 76; refine (impl_kindOf0 _ _).mono ?_; rintro e w' ⟨rfl, rfl⟩; rw [HQ.out]))
      go_ret
      exact ⟨ret_b (by unfold hasOf; rw [decide_eq_false (p := isN x ∧ x / 10 = k) (fun e => HK.out (HX.out.symm.trans e.2))]), Below.refl _ _⟩
  · have H := Lib.hid h
    clear h
    go_enter Tryz.func65, Tryz.ntmps65
    go_wp2_with (go_at_call 75; refine (impl_isName_is (isN_no H.out) _).mono ?_; rintro e w' ⟨rfl, rfl⟩)
    go_ret
    exact ⟨ret_b (by unfold hasOf; rw [decide_eq_false (p := isN x ∧ x / 10 = k) (fun e => H.out e.1)]), Below.refl _ _⟩
theorem ret_two {a b c d : Int} (h : a = c) (g : b = d) : Ending.returned (.tuple #[.int .i64 a, .int .i64 b]) = .returned (.tuple #[.int .i64 c, .int .i64 d]) := by rw [h, g]
/-- What a rune stands for in a name, and where. -/
def part (c : Int) : Int := if c = 112 then 1 else if c = 100 then 2 else if c = 103 then 3 else if c = 111 then 4 else if 48 ≤ c ∧ c ≤ 57 then c - 48 else 0
def place (c : Int) : Int := if c = 112 ∨ c = 100 ∨ c = 103 ∨ c = 111 then 0 else if 48 ≤ c ∧ c ≤ 57 then 1 else -1
end Go.Proofs.YtmgigjpkpeamjaaGreat
