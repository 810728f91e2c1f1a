/- Some texts in one: IssS, IssE, IssC. -/
import Derived.Test.YtmmnajlncmnnhaaGreatDoorIss
import Derived.Deep.RegionHeld3
import Derived.Test.YtmmnajlncmnnhaaGreatDoorGround
import Derived.WalkKit
import Derived.BigQuiet
/- Issuers (chapter 8): the laws' own helpers over issuers and slices of them: sizes, equality, copies. No condition but the bounds of what came in. -/
namespace Go.Proofs.YtmmnajlncmnnhaaGreatDoor
open Go.ChangeShapes Go.WideShapes Go.ChangeAt Go.RowKit
set_option linter.unusedVariables false

theorem Own.setLow {E : TypeId} {K : IntKind} {w : World} {lo hi : Nat} {v : Value} {xs : List Int} (h : Own E K w lo hi v xs) {a : Addr} (ha : a.block < lo) (u : Value) : Own E K (w.setCell a u) lo hi v xs :=
  h.keep fun k hk _ _ => Below.heap_setCell _ _ _ _ (by omega)
end Go.Proofs.YtmmnajlncmnnhaaGreatDoor
/- Issuers (chapter 8): the laws' own helpers over slices of issuers: sizes, equality. No condition but the bounds of what came in. -/
namespace Go.Proofs.YtmmnajlncmnnhaaGreatDoor
open Go.ChangeShapes Go.WideShapes Go.ChangeAt Go.RowKit
set_option linter.unusedVariables false

end Go.Proofs.YtmmnajlncmnnhaaGreatDoor
/- Issuers (chapter 8): the laws' own copies of slices of issuers: the slice and every slice inside are the call's own, apart from one another. No condition but the bounds of what came in. -/
namespace Go.Proofs.YtmmnajlncmnnhaaGreatDoor
open Go.ChangeShapes Go.WideShapes Go.ChangeAt Go.RowKit
set_option linter.unusedVariables false

def issC (x : IssuerD) (kv : Value) : List Value := [.int .i64 x.Id, kv, .int .i64 x.Secret]
def zerosIss : List Value := [.int .i64 0, .slice none 0 0, .int .i64 0]
/-- Of n issuers the first are laid (as many as there are slices of kinds), behind them zeros. -/
def doneC (xs : List IssuerD) (kvs : List Value) : List Value := (List.zipWith issC xs kvs).flatten ++ (List.replicate (xs.length - kvs.length) zerosIss).flatten
theorem zip_len : ∀ (xs : List IssuerD) (kvs : List Value), kvs.length ≤ xs.length → (List.zipWith issC xs kvs).flatten.length = kvs.length * 3
  | [], [], _ => rfl
  | [], _ :: _, h => by simp at h
  | _ :: _, [], _ => rfl
  | x :: xs, kv :: kvs, h => by
    have h2 : kvs.length ≤ xs.length := by simpa using h
    rw [List.zipWith_cons_cons, List.flatten_cons, List.length_append, zip_len xs kvs h2, List.length_cons, Nat.add_mul]
    show 3 + _ = _
    omega
theorem zip_snoc : ∀ {xs : List IssuerD} {kvs : List Value} {x : IssuerD} (kv : Value), xs[kvs.length]? = some x → List.zipWith issC xs (kvs ++ [kv]) = List.zipWith issC xs kvs ++ [issC x kv]
  | [], kvs, x, kv, h => by simp at h
  | y :: ys, [], x, kv, h => by
    have : y = x := by simpa using h
    subst this
    cases ys <;> rfl
  | y :: ys, k :: kvs, x, kv, h => by
    have h2 : ys[kvs.length]? = some x := by simpa using h
    rw [List.cons_append, List.zipWith_cons_cons, List.zipWith_cons_cons, zip_snoc kv h2, List.cons_append]
theorem doneC_set {xs : List IssuerD} {kvs : List Value} {x : IssuerD} (kv : Value) (hx : xs[kvs.length]? = some x) : setMany (doneC xs kvs) (kvs.length * 3) (issC x kv) = doneC xs (kvs ++ [kv]) := by
  have hk : kvs.length < xs.length := (List.getElem?_eq_some_iff.1 hx).1
  unfold doneC
  rw [zip_snoc kv hx, List.length_append, List.length_singleton, show xs.length - kvs.length = (xs.length - (kvs.length + 1)) + 1 by omega, List.replicate_succ, List.flatten_cons, ← zip_len xs kvs (Nat.le_of_lt hk), setMany_mid (issC x kv) _ zerosIss _ rfl, List.flatten_append]
  simp
theorem doneC_at {xs : List IssuerD} {kvs : List Value} (hk : kvs.length < xs.length) {j : Nat} (hj : j < 3) : (doneC xs kvs)[kvs.length * 3 + j]? = zerosIss[j]? := by
  unfold doneC
  rw [← zip_len xs kvs (Nat.le_of_lt hk), List.getElem?_append_right (by omega), Nat.add_sub_cancel_left, show xs.length - kvs.length = (xs.length - (kvs.length + 1)) + 1 by omega, List.replicate_succ, List.flatten_cons, List.getElem?_append_left (by exact hj)]
theorem Own.manyLow {E : TypeId} {K : IntKind} {lo hi g : Nat} {v : Value} {xs : List Int} (hg : g < lo) : ∀ (us : List Value) {w : World} (i : Nat), Own E K w lo hi v xs → Own E K (wsetMany w g i us) lo hi v xs
  | [], w, i, h => h
  | u :: us, w, i, h => Own.manyLow hg us (i + 1) (h.setLow hg u)
/-- A slice of issuers of the call's own: its block is lo, the kinds' blocks lie behind it, each behind those ahead of it. -/
structure OwnIss (w : World) (lo hi : Nat) (u : Value) (xs : List IssuerD) (kvs : List Value) : Prop where
  row : OwnC 26 3 w lo (lo + 1) u xs.length (doneC xs kvs)
  kinds : ∀ (i : Nat) (kv : Value) (x : IssuerD), kvs[i]? = some kv → xs[i]? = some x → Own 3 .i64 w (lo + 1) hi kv x.Kinds
  apart : kvs.Pairwise fun a b => ∀ k m, a.ownBlock = some k → b.ownBlock = some m → k < m
/-- What is owned can be read. -/
theorem OwnIss.reads {w : World} {lo hi : Nat} {u : Value} {xs : List IssuerD} {kvs : List Value} (h : OwnIss w lo hi u xs kvs) (hl : kvs.length = xs.length) (hlo : lo + 1 ≤ hi) : RowIssuer w hi u xs := by
  refine ⟨List.zipWith issC xs kvs, by rw [List.length_zipWith]; omega, ?_, fun i c x hc hx => ?_⟩
  · have h2 := h.row.read
    unfold doneC at h2
    rw [hl, Nat.sub_self, List.replicate_zero, List.flatten_nil, List.append_nil] at h2
    exact h2.more hlo
  · have hi2 : i < kvs.length := by have := (List.getElem?_eq_some_iff.1 hx).1; omega
    have hk : kvs[i]? = some kvs[i] := List.getElem?_eq_getElem hi2
    rw [List.getElem?_zipWith, hx, hk] at hc
    obtain rfl := Option.some.inj hc
    exact ⟨kvs[i], rfl, (h.kinds i _ x hk hx).read⟩
theorem OwnIss.below {w w' : World} {lo hi : Nat} {u : Value} {xs : List IssuerD} {kvs : List Value} {B : Nat} (h : OwnIss w lo hi u xs kvs) (hb : Below B w w') (hB : hi ≤ B) (hlo : lo + 1 ≤ hi) : OwnIss w' lo hi u xs kvs :=
  ⟨h.row.below hb (Nat.le_trans hlo hB), fun i kv x h1 h2 => (h.kinds i kv x h1 h2).below hb hB, h.apart⟩
end Go.Proofs.YtmmnajlncmnnhaaGreatDoor
