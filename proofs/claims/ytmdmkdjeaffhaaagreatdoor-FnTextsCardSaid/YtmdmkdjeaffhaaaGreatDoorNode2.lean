/- Conditions (chapter 15): what an iterator over a condition's nodes keeps: nodes that are ahead, labels in preorder; a scope with a label behind two pieces of code; marks of ranges over functions. No condition. -/
import Derived.Test.YtmdmkdjeaffhaaaGreatDoorMSeqR
import Derived.Test.YtmdmkdjeaffhaaaGreatDoorCondM
import Derived.Test.YtmdmkdjeaffhaaaGreatDoorMCond1
namespace Go.Proofs.YtmdmkdjeaffhaaaGreatDoor
open Go.ChangeShapes Go.WideShapes Go.ChangeAt Go.RowKit Go.Shelf
set_option linter.unusedVariables false

/-- A node: where it lies, and what it is. -/
structure Nd where
  b : Nat
  off : Nat
  d : CondD
def Nd.ptr (x : Nd) : Value := .pointer (some ⟨x.b, x.off, none⟩)
def kidsAt (b : Nat) : Nat → List CondD → List Nd
  | _, [] => []
  | off, e :: es => ⟨b, off, e⟩ :: kidsAt b (off + 4) es
theorem kidsAt_len (b : Nat) : ∀ (off : Nat) (es : List CondD), (kidsAt b off es).length = es.length
  | _, [] => rfl
  | off, e :: es => by rw [kidsAt, List.length_cons, List.length_cons, kidsAt_len b (off + 4) es]
theorem kidsAt_at (b : Nat) : ∀ (off : Nat) (es : List CondD) (k : Nat), (kidsAt b off es)[k]? = es[k]?.map (fun e => ⟨b, off + k * 4, e⟩)
  | _, [], k => by simp [kidsAt]
  | off, e :: es, 0 => by simp [kidsAt]
  | off, e :: es, k + 1 => by
    rw [kidsAt, List.getElem?_cons_succ, List.getElem?_cons_succ, kidsAt_at b (off + 4) es k]
    congr 1
    funext e
    rw [show off + 4 + k * 4 = off + (k + 1) * 4 by omega]
theorem kidsAt_data (b : Nat) : ∀ (off : Nat) (es : List CondD), (kidsAt b off es).map (·.d) = es
  | _, [] => rfl
  | off, e :: es => by rw [kidsAt, List.map_cons, kidsAt_data b (off + 4) es]
/-- A node without its arguments. -/
structure Lab where
  op : Int
  a : Int
  b : Int
  n : Nat
def labOf (x : CondD) : Lab := ⟨x.Op, x.A, x.B, x.Args.length⟩
mutual
/-- The nodes, each before its arguments. -/
def preC : CondD → List CondD
  | ⟨o, a, b, es⟩ => ⟨o, a, b, es⟩ :: preCs es
def preCs : List CondD → List CondD
  | [] => []
  | x :: xs => preC x ++ preCs xs
end
theorem preCs_flat : ∀ xs : List CondD, preCs xs = xs.flatMap preC
  | [] => by rw [preCs]; rfl
  | x :: xs => by rw [preCs, preCs_flat xs, List.flatMap_cons]
theorem preC_eq (x : CondD) : preC x = x :: x.Args.flatMap preC := by
  obtain ⟨o, a, b, es⟩ := x
  rw [preC, preCs_flat]
mutual
theorem preC_len : ∀ x : CondD, ((preC x).length : Int) = sizeD x
  | ⟨o, a, b, es⟩ => by
    have := preCs_len es
    rw [preC, List.length_cons, sizeD_mk]
    push_cast
    omega
theorem preCs_len : ∀ xs : List CondD, ((preCs xs).length : Int) = (xs.length : Int) + szE (xs.flatMap CondD.c)
  | [] => by rw [preCs, List.flatMap_nil, szE_nil]; rfl
  | x :: xs => by
    have h1 := preC_len x
    have h2 := preCs_len xs
    rw [preCs, List.length_append, sizeCons]
    push_cast
    omega
end
/-- The nodes that are still to come. -/
def todo (T : List Nd) : List CondD := T.flatMap (fun x => preC x.d)
theorem todo_cons (x : Nd) (T : List Nd) : todo (x :: T) = preC x.d ++ todo T := by unfold todo; rw [List.flatMap_cons]
theorem todo_app (S T : List Nd) : todo (S ++ T) = todo S ++ todo T := by unfold todo; rw [List.flatMap_append]
theorem todo_kids (b off : Nat) (es : List CondD) : todo (kidsAt b off es) = es.flatMap preC := by
  have h := congrArg (List.flatMap preC) (kidsAt_data b off es)
  rw [List.flatMap_map] at h
  exact h
theorem todo_step (x : Nd) (T : List Nd) (b off : Nat) : todo (x :: T) = x.d :: todo (kidsAt b off x.d.Args ++ T) := by
  rw [todo_cons, preC_eq, todo_app, todo_kids, List.cons_append]
theorem todo_len (T : List Nd) : T.length ≤ (todo T).length := by
  induction T with
  | nil => exact Nat.zero_le _
  | cons x T ih =>
    rw [todo_cons, preC_eq, List.length_append, List.length_cons, List.length_cons]
    omega
/-- A round's arguments: the node's address. -/
def encN (T : List Nd) : Array Value := match T with | [] => #[.pointer none] | x :: _ => #[x.ptr]
/-- Behind a round: the node's arguments, as they lie now, come next. -/
def stepN (N : Nat) (T T' : List Nd) (M : List Nat) (B : World) : Prop :=
  ∃ (x : Nd) (rest : List Nd) (b off : Nat) (A : Option Addr) (c : Nat), T = x :: rest ∧ T' = kidsAt b off x.d.Args ++ rest ∧ T'.length ≤ N ∧ x.b ∉ M ∧ B.cell? ⟨x.b, x.off + 3, none⟩ = some (.slice A x.d.Args.length c) ∧ x.d.Args.length ≤ c ∧
    (0 < x.d.Args.length → A = some ⟨b, off, none⟩ ∧ b ∉ M) ∧ ∀ k, k < x.d.Args.length → ∀ j, j < 4 → ∃ u, B.cell? ⟨b, off + k * 4 + j, none⟩ = some u
theorem cell_put {A : World} {l : Nat} {r : Loop} {p : Addr} {u : Value} (h : A.heap[l]? = some (.loop r)) (hp : A.cell? p = some u) (o : Obj) : (A.putObj l o).cell? p = some u := by
  have hne : p.block ≠ l := by
    rintro rfl
    unfold World.cell? at hp
    rw [h] at hp
    cases hp
  rw [World.cell?_of_block (w := A) (World.putObj_heap_other hne)]
  exact hp
theorem stepN_put {N : Nat} {T T' : List Nd} {M : List Nat} {A : World} {l : Nat} {r : Loop} {o : Obj} (h : stepN N T T' M A) (hl : A.heap[l]? = some (.loop r)) : stepN N T T' M (A.putObj l o) := by
  obtain ⟨x, rest, b, off, a, c, h1, h2, h3, h4, h5, h6, h7, h8⟩ := h
  exact ⟨x, rest, b, off, a, c, h1, h2, h3, h4, cell_put hl h5 o, h6, h7, fun k hk j hj => by
    obtain ⟨u, hu⟩ := h8 k hk j hj
    exact ⟨u, cell_put hl hu o⟩⟩
/-- A scope whose label stands behind two pieces of code. -/
theorem wpIn_scope_at {n : Nat} {P : Program} {a : Act} {w : World} {Q : Exit → Act → World → Prop} {x y R : Code} (l : Nat) (J : Nat → Act → World → Prop) (hf : findLabel (x.seq (y.seq ((Code.label l).seq R))) l = some (Code.skip.seq R))
    (front : x.wpIn Fence.wide n P (Exit.then (y.wpIn Fence.wide n P (Exit.then (fun a w => ∃ m, J m a w) (fun _ _ _ => False))) (fun _ _ _ => False)) a w)
    (pass : ∀ m a w, J m a w → R.wpIn Fence.wide n P (Exit.jump l (fun a' w' => ∃ m', J m' a' w' ∧ m' < m) Q) a w) : (Code.scope (x.seq (y.seq ((Code.label l).seq R)))).wpIn Fence.wide n P Q a w := by
  refine wpIn_scope_ghost l J hf ?_ ?_
  · refine wpIn_seq (wpIn_mono front ?_)
    intro e a1 w1 h
    cases e with
    | normal =>
      refine wpIn_seq (wpIn_mono h ?_)
      intro e a2 w2 h
      cases e with
      | normal =>
        obtain ⟨m, hm⟩ := h
        refine wpIn_seq (wpIn_label (wpIn_mono (pass m a2 w2 hm) ?_))
        intro e a3 w3 h
        cases e with
        | goto t =>
          obtain ⟨rfl, m', hm', _⟩ := h
          exact ⟨rfl, m', hm'⟩
        | normal => exact h
        | ret => exact h
        | exit id => exact h
        | panic ch => exact h
        | outgrown => exact h
      | _ => exact h.elim
    | _ => exact h.elim
  · intro m a1 w1 hm
    refine wpIn_seq (wpIn_skip (wpIn_mono (pass m a1 w1 hm) ?_))
    intro e a3 w3 h
    cases e with
    | goto t => exact h
    | normal => exact h
    | ret => exact h
    | exit id => exact h
    | panic ch => exact h
    | outgrown => exact h
/-- Marks among the deferred calls: their blocks are shut, one after another. -/
def marks (Ds : List Nat) : List Deferred := Ds.map fun D => { target := .collected D, args := #[] }
theorem leaves_marks {F : Fence} {n : Nat} {P : Program} {fn : Func} {tmps : Array Value} {R : Ending → World → Prop} {u : FrameMode} (hu : u ≠ .run) : ∀ (Ds : List Nat) (w : World), Ds.Nodup → (∀ D ∈ Ds, w.heap[D]? = some (.deferred (some []))) →
    (∀ w', Touch Ds w w' → w'.heap.size = w.heap.size → LeavesIn F n P fn tmps R [] u w') → LeavesInM F n P fn tmps R (marks Ds) u w
  | [], w, _, _, h => by
    show LeavesIn F n P fn tmps R [] u w
    exact h w (Touch.refl _ _) rfl
  | D :: Ds, w, nd, hd, h => by
    obtain ⟨n1, n2⟩ := List.nodup_cons.1 nd
    have h0 := hd D List.mem_cons_self
    refine ⟨hu, .inl ⟨D, _, rfl, run_takeDeferred h0, ?_⟩⟩
    refine leaves_marks hu Ds _ n2 (fun E hE => ?_) (fun w' ht hs => ?_)
    · rw [World.putObj_heap_other (by rintro rfl; exact n1 hE)]
      exact hd E (List.mem_cons_of_mem _ hE)
    · exact h w' ((Touch.put w D (.deferred none) List.mem_cons_self).trans (ht.sub fun k hk => List.mem_cons_of_mem _ hk)) (by rw [hs, World.putObj_size])
/-- A row of the call's own with its last element given away. -/
theorem owns_pop {w : World} {lo c n g : Nat} {E : TypeId} {us : List Value} {u : Value} (h : w.ownsRow lo E 1 (.slice (some ⟨g, 0, none⟩) (n + 1) c) (n + 1) (us ++ [u])) : w.ownsRow lo E 1 (.slice (some ⟨g, 0, none⟩) n c) n us ∧ w.cell? ⟨g, n, none⟩ = some u ∧ n + 1 ≤ c ∧ w.frozen? ⟨g, n, none⟩ = false := by
  have hl : us.length = n := by have := h.1; simp at this; omega
  rcases h.2 with ⟨h0, _⟩ | ⟨g', cap, cur, e, h1, h2, h3, h4, h5, h6⟩
  · cases h0
  · injection e with e1 e2 e3
    injection e1 with e1
    injection e1 with e1
    subst e1 e3
    have h7 : cur.toList[n]? = some u := by
      have h8 : (cur.toList.take ((n + 1) * 1))[n]? = some u := by rw [h6, List.getElem?_append_right (by omega), hl]; simp
      rwa [List.getElem?_take_of_lt (by omega)] at h8
    refine ⟨⟨by simpa using hl, .inr ⟨g, c, cur, rfl, h1, h2, by omega, h4, h5, ?_⟩⟩, ?_, h3, by simp [World.frozen?, h2]⟩
    · have h8 : (cur.toList.take ((n + 1) * 1)).take n = (us ++ [u]).take n := by rw [h6]
      rw [List.take_take, Nat.min_eq_left (by omega), List.take_left' hl] at h8
      rwa [Nat.mul_one]
    · exact blk_cell h2 n (by rw [← Array.getElem?_toList]; exact h7)
end Go.Proofs.YtmdmkdjeaffhaaaGreatDoor
