/- Issuers (chapter 8): issuers as data that reach into memory (a slice of integers inside). No condition. -/
import Derived.Test.YtjfmmingkciapaaGreatDoorGround
namespace Go.Proofs.YtjfmmingkciapaaGreatDoor
open Go.ChangeShapes Go.WideShapes Go.ChangeAt Go.RowKit
set_option linter.unusedVariables false

structure IssuerD where
  Id : Int
  Kinds : List Int
  Secret : Int
deriving DecidableEq
def IssuerR : Rep IssuerD := ⟨3, fun w hi cs x => ∃ kv, cs = [.int .i64 x.Id, kv, .int .i64 x.Secret] ∧ Row .i64 w hi kv x.Kinds, fun w fp cs x => ∃ kv, cs = [.int .i64 x.Id, kv, .int .i64 x.Secret] ∧ ownsI 3 w fp kv x.Kinds⟩
theorem IssuerR.fine : IssuerR.Fine where
  len h := by
    obtain ⟨kv, rfl, _⟩ := h
    rfl
  one h := by
    obtain ⟨kv, rfl, hr⟩ := h
    obtain ⟨a, c, e, _⟩ := hr.form
    intro u hu
    rcases List.mem_cons.1 hu with rfl | hu
    · rfl
    · rcases List.mem_cons.1 hu with rfl | hu
      · rw [e]; rfl
      · rw [List.mem_singleton.1 hu]; rfl
  keep h hs hb := by
    obtain ⟨kv, rfl, hr⟩ := h
    exact ⟨kv, rfl, hr.keep hs hb⟩
  more h hh := by
    obtain ⟨kv, rfl, hr⟩ := h
    exact ⟨kv, rfl, hr.more hh⟩
  okeep h hb := by
    obtain ⟨kv, rfl, hr⟩ := h
    exact ⟨kv, rfl, hr.keep hb⟩
  olt h := by
    obtain ⟨kv, rfl, hr⟩ := h
    exact hr.lt
  oread h hh := by
    obtain ⟨kv, rfl, hr⟩ := h
    exact ⟨kv, rfl, hr.read hh⟩
/-- A slice of issuers that is read. -/
abbrev RowIssuer (w : World) (hi : Nat) (v : Value) (xs : List IssuerD) : Prop := IssuerR.reads w hi v xs
theorem RowIssuer.fits {w : World} {hi n c : Nat} {a : Option Addr} {xs : List IssuerD} (h : RowIssuer w hi (.slice a n c) xs) : xs.length = n ∧ n ≤ c ∧ c ≤ maxLen := by
  obtain ⟨_, _, h2, _⟩ := h
  obtain ⟨_, _, _, e, h3, h4, _⟩ := h2
  injection e with e1 e2 e3
  exact ⟨e2.symm, by omega, by omega⟩
theorem RowIssuer.at {w : World} {hi c k : Nat} {a : Option Addr} {xs : List IssuerD} {i s : Int} {ks : List Int} (h : RowIssuer w hi (.slice a xs.length c) xs) (hx : xs[k]? = some ⟨i, ks, s⟩) :
    ∃ kv b off, Row .i64 w hi kv ks ∧ a = some ⟨b, off, none⟩ ∧ b < hi ∧ b < w.heap.size ∧ ∀ (B : Nat) (w' : World), b < B → Below B w w' →
      w'.cell? ⟨b, off + k * 3, none⟩ = some (.int .i64 i) ∧ w'.cell? ⟨b, off + k * 3 + 1, none⟩ = some kv ∧ w'.cell? ⟨b, off + k * 3 + 2, none⟩ = some (.int .i64 s) := by
  obtain ⟨cs, b, off, ⟨kv, rfl, hr⟩, ha, h1, h2, h3⟩ := Rep.reads.at IssuerR.fine h hx
  exact ⟨kv, b, off, hr, ha, h1, h2, fun B w' hB hb => ⟨h3 0 _ rfl B w' hB hb, h3 1 _ rfl B w' hB hb, h3 2 _ rfl B w' hB hb⟩⟩
end Go.Proofs.YtjfmmingkciapaaGreatDoor
