/- A range over an iterator that keeps cells of its own between two rounds: its contract, and the law for the caller; a scope in which the run jumps back to a label. No condition; any program. -/
import Derived.Test.YtmdmkdjeaffhaaaGreatDoorCell2
import Derived.RangeFuncNested
import Derived.RangeFuncBox
import Derived.ScopeJumps
namespace Go.Proofs.YtmdmkdjeaffhaaaGreatDoor
open Go.ChangeShapes Go.WideShapes Go.ChangeAt Go.RowKit
set_option linter.unusedVariables false

/-- Some blocks lie as they lay. -/
structure Same (M : List Nat) (A B : World) : Prop where
  size : A.heap.size ≤ B.heap.size
  block : ∀ k ∈ M, B.heap[k]? = A.heap[k]?
theorem Same.refl (M : List Nat) (A : World) : Same M A A := ⟨Nat.le_refl _, fun _ _ => rfl⟩
theorem Same.trans {M : List Nat} {A B C : World} (h : Same M A B) (k : Same M B C) : Same M A C := ⟨Nat.le_trans h.size k.size, fun i hi => (k.block i hi).trans (h.block i hi)⟩
theorem Same.sub {M N : List Nat} {A B : World} (h : Same M A B) (hs : ∀ k ∈ N, k ∈ M) : Same N A B := ⟨h.size, fun k hk => h.block k (hs k hk)⟩
theorem Same.put {M : List Nat} (A : World) (l : Nat) (o : Obj) (hl : l ∉ M) : Same M A (A.putObj l o) := ⟨by simp, fun k hk => World.putObj_heap_other (by rintro rfl; exact hl hk)⟩
theorem Touch.put {M : List Nat} (A : World) (l : Nat) (o : Obj) (hl : l ∈ M) : Touch M A (A.putObj l o) := ⟨rfl, rfl, rfl, by simp, fun k _ hk => World.putObj_heap_other (by rintro rfl; exact hk hl)⟩
/-- What a state of an iterator abides: its own blocks turn, new ones come. -/
def Abides {σ : Type} (K : σ → List Nat → World → Prop) (R : List Nat) : Prop :=
  ∀ s M M' A B, K s M A → Touch (R ++ M) A B → (∀ k ∈ M', (k ∈ M ∨ A.heap.size ≤ k) ∧ k < B.heap.size) → K s M' B
/-- An iterator's contract: its state s, its own blocks M. -/
def SeqM {σ : Type} (F : Fence) (n : Nat) (P : Program) (g : Nat) (lb : Array Value) (encs : σ → Array Value) (Go : σ → Prop) (Step : σ → σ → List Nat → World → Prop) (s0 : σ) (w : World) : Prop :=
  ∀ (l : Nat) (K : σ → List Nat → World → Prop) (Kx : List Nat → World → Prop) (W : World), Below w.heap.size w W → Abides K [] → Abides (fun (_ : Unit) => Kx) [] →
    (∀ s M A, K s M A → (∀ k ∈ M, W.heap.size ≤ k ∧ k < A.heap.size) → Go s → YieldAt F (n - 1) P l (encs s) A fun e B => Same M A B ∧
      ((e = .returned (.bool true) ∧ ∃ s', Step s s' M B ∧ K s' M B) ∨ (e = .returned (.bool false) ∧ Kx M B))) →
    K s0 [] W →
    CallsIn F n P g (#[.func (.yield l) #[] #[]] ++ lb) W fun e B => (∃ v, e = .returned v) ∧ ((∃ s M, ¬ Go s ∧ K s M B) ∨ (∃ M, Kx M B))
/-- How the body of a round may be left. -/
def postM {σ : Type} (D : Nat) (Step : σ → σ → List Nat → World → Prop) (I : σ → List Nat → World → Prop) (Ix : Code → List Nat → World → Prop) (s : σ) (M : List Nat) (W : World) : Exit → Act → World → Prop
  | .normal, _, W' => Same (D :: (D + 1) :: M) W W' ∧ ∃ s', Step s s' M W' ∧ I s' M W'
  | .ret, _, W' => Same (D :: (D + 1) :: M) W W' ∧ Ix .ret M W'
  | .exit id, _, W' => Same (D :: (D + 1) :: M) W W' ∧ Ix (.exit id) M W'
  | .goto t, _, W' => Same (D :: (D + 1) :: M) W W' ∧ Ix (.goto t) M W'
  | .panic _, _, _ => False
  | .outgrown, _, _ => False
section
variable {F : Fence} {n : Nat} {P : Program} {σ : Type}
theorem wpIn_rangeM {g : Operand} {ps : Array Tmp} {assign body : Code} {Q : Exit → Act → World → Prop} {a : Act} {w : World}
    (hro : F.round = none) (h1 : 1 ≤ n) {gf : Nat} {lb : Array Value} (hg : a.eval g = .func (.func gf) #[] lb) (hFg : F.fn gf) (eg : ∀ args w, (callFunc gf args).run P w = .ok (.enter gf args) w)
    {encs : σ → Array Value} {Go : σ → Prop} {Step : σ → σ → List Nat → World → Prop} {s0 : σ} {w0 : World} (hseq : SeqM F (n - 1) P gf lb encs Go Step s0 w0)
    (hb0 : Below w0.heap.size w0 w) (hps : ∀ s, (encs s).size = ps.size)
    (I : σ → List Nat → World → Prop) (Ix : Code → List Nat → World → Prop)
    (hI : ∀ s M M' A B, I s M A → w.heap.size + 2 ≤ A.heap.size ∨ (M = [] ∧ M' = []) → (∀ k ∈ M, w.heap.size + 2 ≤ k) → Touch (w.heap.size :: (w.heap.size + 1) :: M) A B → (∀ k ∈ M', (k ∈ M ∨ A.heap.size ≤ k) ∧ k < B.heap.size) → I s M' B)
    (hIx : ∀ c M M' A B, Ix c M A → w.heap.size + 2 ≤ A.heap.size → (∀ k ∈ M, w.heap.size + 2 ≤ k) → Touch (w.heap.size :: (w.heap.size + 1) :: M) A B → (∀ k ∈ M', (k ∈ M ∨ A.heap.size ≤ k) ∧ k < B.heap.size) → Ix c M' B)
    (hS : ∀ s s' M A l r o, Step s s' M A → A.heap[l]? = some (.loop r) → Step s s' M (A.putObj l o))
    (h0 : I s0 [] w) (a₁ : σ → Act)
    (hassign : ∀ (l : Nat) (s : σ) (W : World) (K : Act → World → Prop), K (a₁ s) W →
      assign.wpIn (F.inRound l) (n - 1 - 1) P (Exit.then K (fun _ _ _ => False)) { tmps := (ps.zip (encs s)).foldl (fun t (p, v) => t.setIfInBounds p v) a.tmps, defers := [] } W)
    (hbody : ∀ (l : Nat) (s : σ) (M : List Nat) (W : World), w.heap.size + 2 ≤ W.heap.size → (∀ k ∈ M, w.heap.size + 2 ≤ k ∧ k < W.heap.size) → I s M W → Go s → body.wpIn (F.inRound l) (n - 1 - 1) P (postM w.heap.size Step I Ix s M W) (a₁ s) W)
    (hdone : ∀ (s : σ) (M : List Nat) (W : World), ¬ Go s → I s M W → W.heap[w.heap.size]? = some (.deferred (some [])) → Q .normal { a with defers := { target := .collected w.heap.size, args := #[] } :: a.defers } W)
    (hstop : ∀ (c : Code) (M : List Nat) (W : World), Ix c M W → W.heap[w.heap.size]? = some (.deferred (some [])) → c.wpIn F n P Q { a with defers := { target := .collected w.heap.size, args := #[] } :: a.defers } W) :
    (Code.rangeFunc g ps assign body).wpIn F n P Q a w := by
  refine wpIn_rangeFunc ?_
  intro fn hfn
  rw [hro]
  obtain ⟨rec, hrec⟩ : ∃ rec : LoopState → Option Code → Loop, rec = fun st pe => { state := st, pending := pe, fn, tmps := a.tmps, params := ps, assign, body, defers := w.heap.size } := ⟨_, rfl⟩
  obtain ⟨W1, hW1⟩ : ∃ W1, (w.alloc (.deferred (some []))).alloc (.loop (rec .ready none)) = W1 := ⟨_, rfl⟩
  have hz1 : W1.heap.size = w.heap.size + 2 := by rw [← hW1]; simp
  have hL1 : W1.heap[w.heap.size + 1]? = some (.loop (rec .ready none)) := by
    rw [← hW1]
    have := World.alloc_heap_new (w.alloc (.deferred (some []))) (.loop (rec .ready none))
    rwa [World.size_alloc] at this
  have hK1 : W1.heap[w.heap.size]? = some (.deferred (some [])) := by
    rw [← hW1]
    exact (Below.heap_alloc _ _ _ (by simp)).trans (World.alloc_heap_new w _)
  have hB1 : Below w.heap.size w W1 := by
    rw [← hW1]
    exact ((Below.refl _ w).alloc (Nat.le_refl _) _).alloc (by simp) _
  have hI1 : I s0 [] W1 := hI s0 [] [] w W1 h0 (.inr ⟨rfl, rfl⟩) (fun k hk => by cases hk) (Touch.of hB1) (fun k hk => by cases hk)
  refine ⟨w.heap.size + 1, [{ target := .collected w.heap.size, args := #[] }], W1, { target := .fn (.func gf) lb, args := #[.func (.yield (w.heap.size + 1)) #[] #[]] }, W1, gf,
    #[.func (.yield (w.heap.size + 1)) #[] #[]] ++ lb, W1, ?_, ?_, ?_, ?_, fun _ => h1, ?_⟩
  · rw [← hW1, hrec]; exact run_enterLoop_outer _ _ _ _ _
  · simp only [resolve, hg]
    simp [go_sem]
  · intro f' hf'; simp [Target.leads] at hf'; subst hf'; exact hFg
  · simp [invoke, go_sem, eg]
  · refine (hseq (w.heap.size + 1)
      (fun s M W => I s M W ∧ w.heap.size + 2 ≤ W.heap.size ∧ (∀ k ∈ M, w.heap.size + 2 ≤ k) ∧ W.heap[w.heap.size + 1]? = some (.loop (rec .ready none)) ∧ W.heap[w.heap.size]? = some (.deferred (some [])))
      (fun M W => ∃ c, Ix c M W ∧ w.heap.size + 2 ≤ W.heap.size ∧ (∀ k ∈ M, w.heap.size + 2 ≤ k) ∧ W.heap[w.heap.size + 1]? = some (.loop (rec .done (some c))) ∧ W.heap[w.heap.size]? = some (.deferred (some [])))
      W1 (hb0.trans (hB1.mono hb0.size)) ?_ ?_ ?_ ⟨hI1, by omega, fun k hk => (by cases hk), hL1, hK1⟩).mono ?_
    · rintro s M M' A B ⟨hi, hz, hM, hl, hk⟩ ht hm
      have ht' : Touch (w.heap.size :: (w.heap.size + 1) :: M) A B := ht.sub fun k hk => List.mem_cons_of_mem _ (List.mem_cons_of_mem _ (by simpa using hk))
      refine ⟨hI s M M' A B hi (.inl hz) hM ht' hm, Nat.le_trans hz ht.size, fun k hk => ?_, ?_, ?_⟩
      · rcases (hm k hk).1 with h | h
        · exact hM k h
        · omega
      · exact (ht.block _ (by omega) fun h => by have := hM _ (by simpa using h); omega).trans hl
      · exact (ht.block _ (by omega) fun h => by have := hM _ (by simpa using h); omega).trans hk
    · rintro s M M' A B ⟨c, hi, hz, hM, hl, hk⟩ ht hm
      have ht' : Touch (w.heap.size :: (w.heap.size + 1) :: M) A B := ht.sub fun k hk => List.mem_cons_of_mem _ (List.mem_cons_of_mem _ (by simpa using hk))
      refine ⟨c, hIx c M M' A B hi hz hM ht' hm, Nat.le_trans hz ht.size, fun k hk => ?_, ?_, ?_⟩
      · rcases (hm k hk).1 with h | h
        · exact hM k h
        · omega
      · exact (ht.block _ (by omega) fun h => by have := hM _ (by simpa using h); omega).trans hl
      · exact (ht.block _ (by omega) fun h => by have := hM _ (by simpa using h); omega).trans hk
    · rintro s M W ⟨hi, hz, hM, hl, hk⟩ hMW hgo
      have hlt : w.heap.size + 1 < W.heap.size := by omega
      have hy := run_yield (P := P) (args := encs s) hl (by rw [hrec]; exact hps s)
      rw [hrec] at hy
      refine ⟨fn, _, assign, body, hy, roundIn_of_wpIn hfn (hassign _ s W _ ⟨_, run_beginRound hl (by rw [hrec]), ?_⟩)⟩
      have hnM : w.heap.size + 1 ∉ M := fun h => by have := hM _ h; omega
      have put : ∀ (s : σ) (A : World) (o : Obj), w.heap.size + 2 ≤ A.heap.size → (∀ k ∈ M, k < A.heap.size) → I s M A → I s M (A.putObj (w.heap.size + 1) o) := fun s A o hA hMA h =>
        hI s M M A _ h (.inl hA) hM (Touch.put A _ o (by simp)) (fun k hk => ⟨.inl hk, by rw [World.putObj_size]; exact hMA k hk⟩)
      have putx : ∀ (c : Code) (A : World) (o : Obj), w.heap.size + 2 ≤ A.heap.size → (∀ k ∈ M, k < A.heap.size) → Ix c M A → Ix c M (A.putObj (w.heap.size + 1) o) := fun c A o hA hMA h =>
        hIx c M M A _ h hA hM (Touch.put A _ o (by simp)) (fun k hk => ⟨.inl hk, by rw [World.putObj_size]; exact hMA k hk⟩)
      have hl2 : (W.putObj (w.heap.size + 1) (.loop { rec .ready none with state := .busy })).heap[w.heap.size + 1]? = some (.loop { rec .ready none with state := .busy }) := World.putObj_heap_same hlt
      have hk2 : (W.putObj (w.heap.size + 1) (.loop { rec .ready none with state := .busy })).heap[w.heap.size]? = some (.deferred (some [])) := (World.putObj_heap_other (by omega)).trans hk
      refine wpIn_mono (hbody _ s M _ (by rw [World.putObj_size]; exact hz) (fun k hk => ⟨hM k hk, by rw [World.putObj_size]; exact (hMW k hk).2⟩) (put s W _ hz (fun k hk => (hMW k hk).2) hi) hgo) ?_
      have fin : ∀ (jump : Option Code) (W3 : World), Same (w.heap.size :: (w.heap.size + 1) :: M) (W.putObj (w.heap.size + 1) (.loop { rec .ready none with state := .busy })) W3 →
          (Instr.endRound (w.heap.size + 1) jump).run P W3 = .ok (.bool jump.isNone) (W3.putObj (w.heap.size + 1) (.loop (rec (if jump.isNone then .ready else .done) jump))) ∧
          W3.heap[w.heap.size + 1]? = some (.loop { rec .ready none with state := .busy }) ∧
          (W3.putObj (w.heap.size + 1) (.loop (rec (if jump.isNone then .ready else .done) jump))).heap[w.heap.size + 1]? = some (.loop (rec (if jump.isNone then .ready else .done) jump)) ∧
          (W3.putObj (w.heap.size + 1) (.loop (rec (if jump.isNone then .ready else .done) jump))).heap[w.heap.size]? = some (.deferred (some [])) ∧
          Same M W (W3.putObj (w.heap.size + 1) (.loop (rec (if jump.isNone then .ready else .done) jump))) ∧ w.heap.size + 2 ≤ W3.heap.size ∧ ∀ k ∈ M, k < W3.heap.size := fun jump W3 hk3 => by
        have hl3 := (hk3.block _ (by simp)).trans hl2
        have := run_endRound (P := P) jump hl3
        rw [hrec] at this ⊢
        have hz3 : W.heap.size ≤ W3.heap.size := by have := hk3.size; rwa [World.putObj_size] at this
        refine ⟨this, by rw [hrec] at hl3; exact hl3, World.putObj_heap_same (Array.getElem?_eq_some_iff.1 hl3).1, (World.putObj_heap_other (by omega)).trans ((hk3.block _ (by simp)).trans hk2), ?_, by omega, fun k hk => by have := (hMW k hk).2; omega⟩
        exact (Same.put W _ _ hnM).trans ((hk3.sub fun k hk => by simp [hk]).trans (Same.put W3 _ _ hnM))
      rintro e a3 W3 hp
      cases e with
      | normal =>
        obtain ⟨hk3, s', hs3, hi3⟩ := hp
        obtain ⟨hr, hl3, hl4, hk4, hsm, hz3, hM3⟩ := fin none W3 hk3
        exact ⟨_, _, hr, hsm, .inl ⟨rfl, s', hS _ _ _ _ _ _ _ hs3 hl3, put s' W3 _ hz3 hM3 hi3, by rw [World.putObj_size]; exact hz3, hM, hl4, hk4⟩⟩
      | ret =>
        obtain ⟨hk3, hi3⟩ := hp
        obtain ⟨hr, hl3, hl4, hk4, hsm, hz3, hM3⟩ := fin (some .ret) W3 hk3
        exact ⟨_, _, hr, hsm, .inr ⟨rfl, .ret, putx _ W3 _ hz3 hM3 hi3, by rw [World.putObj_size]; exact hz3, hM, hl4, hk4⟩⟩
      | exit id =>
        obtain ⟨hk3, hi3⟩ := hp
        obtain ⟨hr, hl3, hl4, hk4, hsm, hz3, hM3⟩ := fin (some (.exit id)) W3 hk3
        exact ⟨_, _, hr, hsm, .inr ⟨rfl, .exit id, putx _ W3 _ hz3 hM3 hi3, by rw [World.putObj_size]; exact hz3, hM, hl4, hk4⟩⟩
      | goto t =>
        obtain ⟨hk3, hi3⟩ := hp
        obtain ⟨hr, hl3, hl4, hk4, hsm, hz3, hM3⟩ := fin (some (.goto t)) W3 hk3
        exact ⟨_, _, hr, hsm, .inr ⟨rfl, .goto t, putx _ W3 _ hz3 hM3 hi3, by rw [World.putObj_size]; exact hz3, hM, hl4, hk4⟩⟩
      | panic ch => exact hp.elim
      | outgrown => exact hp.elim
    · rintro e W2 ⟨⟨v, rfl⟩, (⟨s, M, hgo, hi, hz, hM, hl, hk⟩ | ⟨M, c, hi, hz, hM, hl, hk⟩)⟩
      · refine ⟨none, _, by have := run_endLoop (P := P) hl (by rw [hrec]; simp); rw [hrec] at this; exact this, hdone s [] _ hgo (hI s M [] W2 _ hi (.inl hz) hM (Touch.put W2 _ _ (by simp)) (fun k hk => by cases hk)) ((World.putObj_heap_other (by omega)).trans hk)⟩
      · refine ⟨some c, _, by have := run_endLoop (P := P) hl (by rw [hrec]; simp); rw [hrec] at this; exact this, hstop c [] _ (hIx c M [] W2 _ hi hz hM (Touch.put W2 _ _ (by simp)) (fun k hk => by cases hk)) ((World.putObj_heap_other (by omega)).trans hk)⟩
end
/-- A scope in which the run jumps back to one label; the measure is a ghost. -/
theorem wpIn_scope_ghost {n : Nat} {P : Program} {a : Act} {w : World} {Q : Exit → Act → World → Prop} {c rest : Code} (l : Nat) (J : Nat → Act → World → Prop) (hf : findLabel c l = some rest)
    (first : c.wpIn Fence.wide n P (Exit.jump l (fun a w => ∃ m, J m a w) Q) a w)
    (pass : ∀ m a w, J m a w → rest.wpIn Fence.wide n P (Exit.jump l (fun a' w' => ∃ m', J m' a' w' ∧ m' < m) Q) a w) : (Code.scope c).wpIn Fence.wide n P Q a w := by
  classical
  have hmin : ∀ a w, (∃ m, J m a w) → ∃ m, J m a w ∧ ∀ k, J k a w → m ≤ k := fun a w ⟨m, hm⟩ => by
    induction m using Nat.strongRecOn with
    | ind m ih =>
      by_cases h : ∃ k, k < m ∧ J k a w
      · obtain ⟨k, hk, hj⟩ := h
        exact ih k hk hj
      · exact ⟨m, hm, fun k hk => Nat.le_of_not_lt fun hlt => h ⟨k, hlt, hk⟩⟩
  let μ : Act → World → Nat := fun a w => if h : ∃ m, J m a w then (hmin a w h).choose else 0
  have hμ : ∀ a w k, J k a w → μ a w ≤ k := fun a w k hk => by
    have h : ∃ m, J m a w := ⟨k, hk⟩
    show (if h : ∃ m, J m a w then (hmin a w h).choose else 0) ≤ k
    rw [dif_pos h]
    exact (hmin a w h).choose_spec.2 k hk
  have hμ2 : ∀ a w, (∃ m, J m a w) → J (μ a w) a w := fun a w h => by
    show J (if h : ∃ m, J m a w then (hmin a w h).choose else 0) a w
    rw [dif_pos h]
    exact (hmin a w h).choose_spec.1
  refine wpIn_wide.2 (wp_scope_jumps l (fun a w => ∃ m, J m a w) μ hf (wpIn_wide.1 first) fun a w hj => ?_)
  refine wpIn_wide.1 (wpIn_mono (pass _ a w (hμ2 a w hj)) ?_)
  intro e a' w' h
  cases e with
  | goto t =>
    obtain ⟨rfl, m', hm, hlt⟩ := h
    exact ⟨rfl, ⟨m', hm⟩, Nat.lt_of_le_of_lt (hμ _ _ _ hm) hlt⟩
  | normal => exact h
  | ret => exact h
  | exit id => exact h
  | panic ch => exact h
  | outgrown => exact h
end Go.Proofs.YtmdmkdjeaffhaaaGreatDoor
