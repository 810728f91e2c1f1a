/-
  No cell of these rows narrows 'for every input' (looked for: loops, veiled, ifaces, maps, wideKeys, modest, calm, conditions, laid).
  DERIVED. THE GIVEN ROWS OF THIS SEAT. 9 by the template 'for every input the law returns true; each argument reads behind the call as it read before'; 0 by the template 'total and deterministic' (their statements: YtjfmmingkciapaaTotals.lean).
  GIVEN WITH THE SEED: the statements are not yours to turn. If you find one false, say at which input.
  Laid BY PROGRAM, IN A SANDBOX (cutbox-rows.mjs): the forced cells as the released guide's own fill.sh prints them over the translation fce582789fa78492… (all of the seat's roots in one cut). By AI agents, Wed Nov 11 2026. No macro, syntax, notation, axiom, sorry.
-/
import Derived.Test.YtjfmmingkciapaaChecked
import GoSem.Claim
import GoSem.ClaimJoined
import GoSem.ClaimMapViews
import Derived.JoinedTies
import Derived.KernelRfl
namespace Go.Proofs.Ytjfmmingkciapaa
/- THE CELL 'sum', in the pinned program and in every row, IS THE sha256 OF THE DUMP (.gsa) THAT YtjfmmingkciapaaProg.lean LOADS. Nothing in Lean hashes anything: it is a label: what it is worth is what the hold of that sum in a sandbox is worth. -/
noncomputable def Try.pinned : Pinned := { name := "ytjfmmingkciapaa", sum := "fce582789fa78492dc3c62a12262067d9d05e096d20b898c38b3d2f679e33400", checked := Try.checked }
namespace Rows
def none {H : Type} : Left H := { results := [], args := [] }

/-- 'laws.FnStores': WHATEVER THE INPUT: true; the input reads as it did. -/
def fnStoresSpec : ChangeSpec := { name := "fnStores", fn := fun _ => fun
  | [d] => { results := [.lit (.bool true)], args := [d] }
  | _ => none }
def fnStoresRow : OpenClaim := { program := "ytjfmmingkciapaa", sum := "fce582789fa78492dc3c62a12262067d9d05e096d20b898c38b3d2f679e33400", func := "loop.example/g00594/laws.FnStores", spec := "fnStores", inPlace := ["slices.overlaps[loop.example/g00594/impl.Fact]"], unfollowed := true, recurses := true, plainKeys := false, apart := false }
def FnStoresSaid : Prop := fnStoresRow.holds Try.pinned (OpenSpec.ofChange fnStoresSpec)

/-- ITS FALSE NEIGHBOUR: 'it returns false'. Refute it at one input. -/
def fnStoresWrong : ChangeSpec := { name := "fnStores", fn := fun _ => fun
  | [d] => { results := [.lit (.bool false)], args := [d] }
  | _ => none }
def FnStoresWrongFalsely : Prop := fnStoresRow.holds Try.pinned (OpenSpec.ofChange fnStoresWrong)

/-- 'laws.FnRevocation': WHATEVER THE INPUT: true; the input reads as it did. -/
def fnRevocationSpec : ChangeSpec := { name := "fnRevocation", fn := fun _ => fun
  | [d] => { results := [.lit (.bool true)], args := [d] }
  | _ => none }
def fnRevocationRow : OpenClaim := { program := "ytjfmmingkciapaa", sum := "fce582789fa78492dc3c62a12262067d9d05e096d20b898c38b3d2f679e33400", func := "loop.example/g00594/laws.FnRevocation", spec := "fnRevocation", inPlace := ["slices.overlaps[loop.example/g00594/impl.Revoked]"], unfollowed := true, recurses := true, plainKeys := false, apart := false }
def FnRevocationSaid : Prop := fnRevocationRow.holds Try.pinned (OpenSpec.ofChange fnRevocationSpec)

/-- ITS FALSE NEIGHBOUR: 'it returns false'. Refute it at one input. -/
def fnRevocationWrong : ChangeSpec := { name := "fnRevocation", fn := fun _ => fun
  | [d] => { results := [.lit (.bool false)], args := [d] }
  | _ => none }
def FnRevocationWrongFalsely : Prop := fnRevocationRow.holds Try.pinned (OpenSpec.ofChange fnRevocationWrong)

/-- 'laws.FnExactPutFact': WHATEVER THE INPUT: true; the input reads as it did. -/
def fnExactPutFactSpec : ChangeSpec := { name := "fnExactPutFact", fn := fun _ => fun
  | [d1, d2] => { results := [.lit (.bool true)], args := [d1, d2] }
  | _ => none }
def fnExactPutFactRow : OpenClaim := { program := "ytjfmmingkciapaa", sum := "fce582789fa78492dc3c62a12262067d9d05e096d20b898c38b3d2f679e33400", func := "loop.example/g00594/laws.FnExactPutFact", spec := "fnExactPutFact", inPlace := ["slices.overlaps[loop.example/g00594/impl.Fact]"], unfollowed := true, recurses := true, plainKeys := false, apart := false }
def FnExactPutFactSaid : Prop := fnExactPutFactRow.holds Try.pinned (OpenSpec.ofChange fnExactPutFactSpec)

/-- ITS FALSE NEIGHBOUR: 'it returns false'. Refute it at one input. -/
def fnExactPutFactWrong : ChangeSpec := { name := "fnExactPutFact", fn := fun _ => fun
  | [d1, d2] => { results := [.lit (.bool false)], args := [d1, d2] }
  | _ => none }
def FnExactPutFactWrongFalsely : Prop := fnExactPutFactRow.holds Try.pinned (OpenSpec.ofChange fnExactPutFactWrong)

/-- 'laws.FnExactMergeStores': WHATEVER THE INPUT: true; the input reads as it did. -/
def fnExactMergeStoresSpec : ChangeSpec := { name := "fnExactMergeStores", fn := fun _ => fun
  | [d1, d2] => { results := [.lit (.bool true)], args := [d1, d2] }
  | _ => none }
def fnExactMergeStoresRow : OpenClaim := { program := "ytjfmmingkciapaa", sum := "fce582789fa78492dc3c62a12262067d9d05e096d20b898c38b3d2f679e33400", func := "loop.example/g00594/laws.FnExactMergeStores", spec := "fnExactMergeStores", inPlace := ["slices.overlaps[loop.example/g00594/impl.Fact]"], unfollowed := true, recurses := true, plainKeys := false, apart := false }
def FnExactMergeStoresSaid : Prop := fnExactMergeStoresRow.holds Try.pinned (OpenSpec.ofChange fnExactMergeStoresSpec)

/-- ITS FALSE NEIGHBOUR: 'it returns false'. Refute it at one input. -/
def fnExactMergeStoresWrong : ChangeSpec := { name := "fnExactMergeStores", fn := fun _ => fun
  | [d1, d2] => { results := [.lit (.bool false)], args := [d1, d2] }
  | _ => none }
def FnExactMergeStoresWrongFalsely : Prop := fnExactMergeStoresRow.holds Try.pinned (OpenSpec.ofChange fnExactMergeStoresWrong)

/-- 'laws.FnExactAddRevoked': WHATEVER THE INPUT: true; the input reads as it did. -/
def fnExactAddRevokedSpec : ChangeSpec := { name := "fnExactAddRevoked", fn := fun _ => fun
  | [d1, d2, d3] => { results := [.lit (.bool true)], args := [d1, d2, d3] }
  | _ => none }
def fnExactAddRevokedRow : OpenClaim := { program := "ytjfmmingkciapaa", sum := "fce582789fa78492dc3c62a12262067d9d05e096d20b898c38b3d2f679e33400", func := "loop.example/g00594/laws.FnExactAddRevoked", spec := "fnExactAddRevoked", inPlace := ["slices.overlaps[loop.example/g00594/impl.Revoked]"], unfollowed := true, recurses := true, plainKeys := false, apart := false }
def FnExactAddRevokedSaid : Prop := fnExactAddRevokedRow.holds Try.pinned (OpenSpec.ofChange fnExactAddRevokedSpec)

/-- ITS FALSE NEIGHBOUR: 'it returns false'. Refute it at one input. -/
def fnExactAddRevokedWrong : ChangeSpec := { name := "fnExactAddRevoked", fn := fun _ => fun
  | [d1, d2, d3] => { results := [.lit (.bool false)], args := [d1, d2, d3] }
  | _ => none }
def FnExactAddRevokedWrongFalsely : Prop := fnExactAddRevokedRow.holds Try.pinned (OpenSpec.ofChange fnExactAddRevokedWrong)

/-- 'laws.FnExactMergeRevoked': WHATEVER THE INPUT: true; the input reads as it did. -/
def fnExactMergeRevokedSpec : ChangeSpec := { name := "fnExactMergeRevoked", fn := fun _ => fun
  | [d1, d2] => { results := [.lit (.bool true)], args := [d1, d2] }
  | _ => none }
def fnExactMergeRevokedRow : OpenClaim := { program := "ytjfmmingkciapaa", sum := "fce582789fa78492dc3c62a12262067d9d05e096d20b898c38b3d2f679e33400", func := "loop.example/g00594/laws.FnExactMergeRevoked", spec := "fnExactMergeRevoked", inPlace := ["slices.overlaps[loop.example/g00594/impl.Revoked]"], unfollowed := true, recurses := true, plainKeys := false, apart := false }
def FnExactMergeRevokedSaid : Prop := fnExactMergeRevokedRow.holds Try.pinned (OpenSpec.ofChange fnExactMergeRevokedSpec)

/-- ITS FALSE NEIGHBOUR: 'it returns false'. Refute it at one input. -/
def fnExactMergeRevokedWrong : ChangeSpec := { name := "fnExactMergeRevoked", fn := fun _ => fun
  | [d1, d2] => { results := [.lit (.bool false)], args := [d1, d2] }
  | _ => none }
def FnExactMergeRevokedWrongFalsely : Prop := fnExactMergeRevokedRow.holds Try.pinned (OpenSpec.ofChange fnExactMergeRevokedWrong)

/-- 'laws.FnExactReplaceAllowed': WHATEVER THE INPUT: true; the input reads as it did. -/
def fnExactReplaceAllowedSpec : ChangeSpec := { name := "fnExactReplaceAllowed", fn := fun _ => fun
  | [d1, d2] => { results := [.lit (.bool true)], args := [d1, d2] }
  | _ => none }
def fnExactReplaceAllowedRow : OpenClaim := { program := "ytjfmmingkciapaa", sum := "fce582789fa78492dc3c62a12262067d9d05e096d20b898c38b3d2f679e33400", func := "loop.example/g00594/laws.FnExactReplaceAllowed", spec := "fnExactReplaceAllowed", plainKeys := false, apart := false }
def FnExactReplaceAllowedSaid : Prop := fnExactReplaceAllowedRow.holds Try.pinned (OpenSpec.ofChange fnExactReplaceAllowedSpec)

/-- ITS FALSE NEIGHBOUR: 'it returns false'. Refute it at one input. -/
def fnExactReplaceAllowedWrong : ChangeSpec := { name := "fnExactReplaceAllowed", fn := fun _ => fun
  | [d1, d2] => { results := [.lit (.bool false)], args := [d1, d2] }
  | _ => none }
def FnExactReplaceAllowedWrongFalsely : Prop := fnExactReplaceAllowedRow.holds Try.pinned (OpenSpec.ofChange fnExactReplaceAllowedWrong)

/-- 'laws.FnExactIsAllowed': WHATEVER THE INPUT: true; the input reads as it did. -/
def fnExactIsAllowedSpec : ChangeSpec := { name := "fnExactIsAllowed", fn := fun _ => fun
  | [d] => { results := [.lit (.bool true)], args := [d] }
  | _ => none }
def fnExactIsAllowedRow : OpenClaim := { program := "ytjfmmingkciapaa", sum := "fce582789fa78492dc3c62a12262067d9d05e096d20b898c38b3d2f679e33400", func := "loop.example/g00594/laws.FnExactIsAllowed", spec := "fnExactIsAllowed", plainKeys := false, apart := false }
def FnExactIsAllowedSaid : Prop := fnExactIsAllowedRow.holds Try.pinned (OpenSpec.ofChange fnExactIsAllowedSpec)

/-- ITS FALSE NEIGHBOUR: 'it returns false'. Refute it at one input. -/
def fnExactIsAllowedWrong : ChangeSpec := { name := "fnExactIsAllowed", fn := fun _ => fun
  | [d] => { results := [.lit (.bool false)], args := [d] }
  | _ => none }
def FnExactIsAllowedWrongFalsely : Prop := fnExactIsAllowedRow.holds Try.pinned (OpenSpec.ofChange fnExactIsAllowedWrong)

/-- 'laws.FnExactAppraiseOne': WHATEVER THE INPUT: true; the input reads as it did. -/
def fnExactAppraiseOneSpec : ChangeSpec := { name := "fnExactAppraiseOne", fn := fun _ => fun
  | [d1, d2] => { results := [.lit (.bool true)], args := [d1, d2] }
  | _ => none }
def fnExactAppraiseOneRow : OpenClaim := { program := "ytjfmmingkciapaa", sum := "fce582789fa78492dc3c62a12262067d9d05e096d20b898c38b3d2f679e33400", func := "loop.example/g00594/laws.FnExactAppraiseOne", spec := "fnExactAppraiseOne", plainKeys := false, apart := false }
def FnExactAppraiseOneSaid : Prop := fnExactAppraiseOneRow.holds Try.pinned (OpenSpec.ofChange fnExactAppraiseOneSpec)

/-- ITS FALSE NEIGHBOUR: 'it returns false'. Refute it at one input. -/
def fnExactAppraiseOneWrong : ChangeSpec := { name := "fnExactAppraiseOne", fn := fun _ => fun
  | [d1, d2] => { results := [.lit (.bool false)], args := [d1, d2] }
  | _ => none }
def FnExactAppraiseOneWrongFalsely : Prop := fnExactAppraiseOneRow.holds Try.pinned (OpenSpec.ofChange fnExactAppraiseOneWrong)

/- THE SECOND FORM. 'bulk': how many values and letters a reading holds, each counted each time it is reached (what is shared counts as often as it is met; a slice's spare places count too). A statement '..UptoSaid' is the law's where the arguments, and the package variables that the reading takes, are together of bulk at most 1048576: NARROWER than '..Said'. Prove '..Said' where nothing that the law and all that it calls make is longer than what came in: it says more and counts as full. Else prove '..UptoSaid'. A law counts once. -/
mutual
def uptoBulk {H : Type} : DataW H → Nat
  | .lit (.string bytes) => bytes.length + 1
  | .lit _ => 1
  | .nil => 1
  | .ptr d => uptoBulk d + 1
  | .slice elems spare => uptoBulkAll elems + uptoBulkAll spare + 1
  | .agg parts => uptoBulkAll parts + 1
  | .iface _ d => uptoBulk d + 1
  | .map entries => uptoBulkEntries entries + 1
  | .held _ => 1
def uptoBulkAll {H : Type} : List (DataW H) → Nat
  | [] => 0
  | d :: r => uptoBulk d + uptoBulkAll r
def uptoBulkEntries {H : Type} : List (Lit × DataW H) → Nat
  | [] => 0
  | x :: r => uptoBulkEntry x + uptoBulkEntries r
def uptoBulkEntry {H : Type} : Lit × DataW H → Nat
  | (.string bytes, d) => bytes.length + uptoBulk d + 1
  | (_, d) => uptoBulk d + 1
 end
def uptoSmall : (H : Type) → List (DataW H) → Bool := fun _ ds => decide (uptoBulkAll ds ≤ 1048576)
def OpenSpec.upto (s : _root_.Go.ChangeSpec) : _root_.Go.OpenSpec := { _root_.Go.OpenSpec.ofChange s with cond := some uptoSmall }

/-- 'laws.FnStores', WHERE WHAT IT READS IS OF BULK AT MOST 1048576: true; the input reads as it did. -/
def fnStoresUptoRow : OpenClaim := { program := "ytjfmmingkciapaa", sum := "fce582789fa78492dc3c62a12262067d9d05e096d20b898c38b3d2f679e33400", func := "loop.example/g00594/laws.FnStores", spec := "fnStores", inPlace := ["slices.overlaps[loop.example/g00594/impl.Fact]"], unfollowed := true, recurses := true, plainKeys := false, apart := false, narrowed := true }
def FnStoresUptoSaid : Prop := fnStoresUptoRow.holds Try.pinned (OpenSpec.upto fnStoresSpec)

/-- 'laws.FnRevocation', WHERE WHAT IT READS IS OF BULK AT MOST 1048576: true; the input reads as it did. -/
def fnRevocationUptoRow : OpenClaim := { program := "ytjfmmingkciapaa", sum := "fce582789fa78492dc3c62a12262067d9d05e096d20b898c38b3d2f679e33400", func := "loop.example/g00594/laws.FnRevocation", spec := "fnRevocation", inPlace := ["slices.overlaps[loop.example/g00594/impl.Revoked]"], unfollowed := true, recurses := true, plainKeys := false, apart := false, narrowed := true }
def FnRevocationUptoSaid : Prop := fnRevocationUptoRow.holds Try.pinned (OpenSpec.upto fnRevocationSpec)

/-- 'laws.FnExactPutFact', WHERE WHAT IT READS IS OF BULK AT MOST 1048576: true; the input reads as it did. -/
def fnExactPutFactUptoRow : OpenClaim := { program := "ytjfmmingkciapaa", sum := "fce582789fa78492dc3c62a12262067d9d05e096d20b898c38b3d2f679e33400", func := "loop.example/g00594/laws.FnExactPutFact", spec := "fnExactPutFact", inPlace := ["slices.overlaps[loop.example/g00594/impl.Fact]"], unfollowed := true, recurses := true, plainKeys := false, apart := false, narrowed := true }
def FnExactPutFactUptoSaid : Prop := fnExactPutFactUptoRow.holds Try.pinned (OpenSpec.upto fnExactPutFactSpec)

/-- 'laws.FnExactMergeStores', WHERE WHAT IT READS IS OF BULK AT MOST 1048576: true; the input reads as it did. -/
def fnExactMergeStoresUptoRow : OpenClaim := { program := "ytjfmmingkciapaa", sum := "fce582789fa78492dc3c62a12262067d9d05e096d20b898c38b3d2f679e33400", func := "loop.example/g00594/laws.FnExactMergeStores", spec := "fnExactMergeStores", inPlace := ["slices.overlaps[loop.example/g00594/impl.Fact]"], unfollowed := true, recurses := true, plainKeys := false, apart := false, narrowed := true }
def FnExactMergeStoresUptoSaid : Prop := fnExactMergeStoresUptoRow.holds Try.pinned (OpenSpec.upto fnExactMergeStoresSpec)

/-- 'laws.FnExactAddRevoked', WHERE WHAT IT READS IS OF BULK AT MOST 1048576: true; the input reads as it did. -/
def fnExactAddRevokedUptoRow : OpenClaim := { program := "ytjfmmingkciapaa", sum := "fce582789fa78492dc3c62a12262067d9d05e096d20b898c38b3d2f679e33400", func := "loop.example/g00594/laws.FnExactAddRevoked", spec := "fnExactAddRevoked", inPlace := ["slices.overlaps[loop.example/g00594/impl.Revoked]"], unfollowed := true, recurses := true, plainKeys := false, apart := false, narrowed := true }
def FnExactAddRevokedUptoSaid : Prop := fnExactAddRevokedUptoRow.holds Try.pinned (OpenSpec.upto fnExactAddRevokedSpec)

/-- 'laws.FnExactMergeRevoked', WHERE WHAT IT READS IS OF BULK AT MOST 1048576: true; the input reads as it did. -/
def fnExactMergeRevokedUptoRow : OpenClaim := { program := "ytjfmmingkciapaa", sum := "fce582789fa78492dc3c62a12262067d9d05e096d20b898c38b3d2f679e33400", func := "loop.example/g00594/laws.FnExactMergeRevoked", spec := "fnExactMergeRevoked", inPlace := ["slices.overlaps[loop.example/g00594/impl.Revoked]"], unfollowed := true, recurses := true, plainKeys := false, apart := false, narrowed := true }
def FnExactMergeRevokedUptoSaid : Prop := fnExactMergeRevokedUptoRow.holds Try.pinned (OpenSpec.upto fnExactMergeRevokedSpec)

/-- 'laws.FnExactReplaceAllowed', WHERE WHAT IT READS IS OF BULK AT MOST 1048576: true; the input reads as it did. -/
def fnExactReplaceAllowedUptoRow : OpenClaim := { program := "ytjfmmingkciapaa", sum := "fce582789fa78492dc3c62a12262067d9d05e096d20b898c38b3d2f679e33400", func := "loop.example/g00594/laws.FnExactReplaceAllowed", spec := "fnExactReplaceAllowed", plainKeys := false, apart := false, narrowed := true }
def FnExactReplaceAllowedUptoSaid : Prop := fnExactReplaceAllowedUptoRow.holds Try.pinned (OpenSpec.upto fnExactReplaceAllowedSpec)

/-- 'laws.FnExactIsAllowed', WHERE WHAT IT READS IS OF BULK AT MOST 1048576: true; the input reads as it did. -/
def fnExactIsAllowedUptoRow : OpenClaim := { program := "ytjfmmingkciapaa", sum := "fce582789fa78492dc3c62a12262067d9d05e096d20b898c38b3d2f679e33400", func := "loop.example/g00594/laws.FnExactIsAllowed", spec := "fnExactIsAllowed", plainKeys := false, apart := false, narrowed := true }
def FnExactIsAllowedUptoSaid : Prop := fnExactIsAllowedUptoRow.holds Try.pinned (OpenSpec.upto fnExactIsAllowedSpec)

/-- 'laws.FnExactAppraiseOne', WHERE WHAT IT READS IS OF BULK AT MOST 1048576: true; the input reads as it did. -/
def fnExactAppraiseOneUptoRow : OpenClaim := { program := "ytjfmmingkciapaa", sum := "fce582789fa78492dc3c62a12262067d9d05e096d20b898c38b3d2f679e33400", func := "loop.example/g00594/laws.FnExactAppraiseOne", spec := "fnExactAppraiseOne", plainKeys := false, apart := false, narrowed := true }
def FnExactAppraiseOneUptoSaid : Prop := fnExactAppraiseOneUptoRow.holds Try.pinned (OpenSpec.upto fnExactAppraiseOneSpec)

end Rows
end Go.Proofs.Ytjfmmingkciapaa
