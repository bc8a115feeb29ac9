/-
  No cell of these rows narrows 'for every input' (looked for: loops, veiled, ifaces, maps, wideKeys, modest, calm, conditions, laid).
  DERIVED. THE GIVEN ROWS OF THIS SEAT. 5 by the template 'for every input the law returns true; each argument reads behind the call as it read before'; 0 by the template 'total and deterministic' (their statements: YtejcalpnidgmoaaTotals.lean).
  GIVEN WITH THE SEED: the statements are not yours to turn. If you find one false, say at which input.
  Laid BY PROGRAM, IN A SANDBOX (cutbox-rows.mjs): the forced cells as the released guide's own fill.sh prints them over the translation 1818ef4dba55296b… (all of the seat's roots in one cut). By AI agents, Wed Nov 11 2026. No macro, syntax, notation, axiom, sorry.
-/
import Derived.Test.YtejcalpnidgmoaaChecked
import GoSem.Claim
import GoSem.ClaimJoined
import GoSem.ClaimMapViews
import Derived.JoinedTies
import Derived.KernelRfl
namespace Go.Proofs.Ytejcalpnidgmoaa
/- THE CELL 'sum', in the pinned program and in every row, IS THE sha256 OF THE DUMP (.gsa) THAT YtejcalpnidgmoaaProg.lean LOADS. Nothing in Lean hashes anything: it is a label: what it is worth is what the hold of that sum in a sandbox is worth. -/
noncomputable def Try.pinned : Pinned := { name := "ytejcalpnidgmoaa", sum := "1818ef4dba55296ba70436b9b2daa1ac655d4913f5bddff8c1892e2571a1c10e", checked := Try.checked }
namespace Rows
def none {H : Type} : Left H := { results := [], args := [] }

/-- 'girandolelaw2.BasisAll': WHATEVER THE INPUT: true; the input reads as it did. -/
def basisAllSpec : ChangeSpec := { name := "basisAll", fn := fun _ => fun
  | [d1, d2, d3, d4] => { results := [.lit (.bool true)], args := [d1, d2, d3, d4] }
  | _ => none }
def basisAllRow : OpenClaim := { program := "ytejcalpnidgmoaa", sum := "1818ef4dba55296ba70436b9b2daa1ac655d4913f5bddff8c1892e2571a1c10e", func := "girandole/girandolelaw2.BasisAll", spec := "basisAll", unfollowed := true, recurses := true, apart := false }
def BasisAllSaid : Prop := basisAllRow.holds Try.pinned (OpenSpec.ofChange basisAllSpec)

/-- ITS FALSE NEIGHBOUR: 'it returns false'. Refute it at one input. -/
def basisAllWrong : ChangeSpec := { name := "basisAll", fn := fun _ => fun
  | [d1, d2, d3, d4] => { results := [.lit (.bool false)], args := [d1, d2, d3, d4] }
  | _ => none }
def BasisAllWrongFalsely : Prop := basisAllRow.holds Try.pinned (OpenSpec.ofChange basisAllWrong)

/-- 'girandolelaw2.BasisBack': WHATEVER THE INPUT: true; the input reads as it did. -/
def basisBackSpec : ChangeSpec := { name := "basisBack", fn := fun _ => fun
  | [d1, d2] => { results := [.lit (.bool true)], args := [d1, d2] }
  | _ => none }
def basisBackRow : OpenClaim := { program := "ytejcalpnidgmoaa", sum := "1818ef4dba55296ba70436b9b2daa1ac655d4913f5bddff8c1892e2571a1c10e", func := "girandole/girandolelaw2.BasisBack", spec := "basisBack", unfollowed := true, recurses := true, apart := false }
def BasisBackSaid : Prop := basisBackRow.holds Try.pinned (OpenSpec.ofChange basisBackSpec)

/-- ITS FALSE NEIGHBOUR: 'it returns false'. Refute it at one input. -/
def basisBackWrong : ChangeSpec := { name := "basisBack", fn := fun _ => fun
  | [d1, d2] => { results := [.lit (.bool false)], args := [d1, d2] }
  | _ => none }
def BasisBackWrongFalsely : Prop := basisBackRow.holds Try.pinned (OpenSpec.ofChange basisBackWrong)

/-- 'girandolelaw2.BasisRank': WHATEVER THE INPUT: true; the input reads as it did. -/
def basisRankSpec : ChangeSpec := { name := "basisRank", fn := fun _ => fun
  | [d1, d2] => { results := [.lit (.bool true)], args := [d1, d2] }
  | _ => none }
def basisRankRow : OpenClaim := { program := "ytejcalpnidgmoaa", sum := "1818ef4dba55296ba70436b9b2daa1ac655d4913f5bddff8c1892e2571a1c10e", func := "girandole/girandolelaw2.BasisRank", spec := "basisRank", unfollowed := true, recurses := true, apart := false }
def BasisRankSaid : Prop := basisRankRow.holds Try.pinned (OpenSpec.ofChange basisRankSpec)

/-- ITS FALSE NEIGHBOUR: 'it returns false'. Refute it at one input. -/
def basisRankWrong : ChangeSpec := { name := "basisRank", fn := fun _ => fun
  | [d1, d2] => { results := [.lit (.bool false)], args := [d1, d2] }
  | _ => none }
def BasisRankWrongFalsely : Prop := basisRankRow.holds Try.pinned (OpenSpec.ofChange basisRankWrong)

/-- 'girandolelaw2.BasisForms': WHATEVER THE INPUT: true; the input reads as it did. -/
def basisFormsSpec : ChangeSpec := { name := "basisForms", fn := fun _ => fun
  | [] => { results := [.lit (.bool true)], args := [] }
  | _ => none }
def basisFormsRow : OpenClaim := { program := "ytejcalpnidgmoaa", sum := "1818ef4dba55296ba70436b9b2daa1ac655d4913f5bddff8c1892e2571a1c10e", func := "girandole/girandolelaw2.BasisForms", spec := "basisForms", unfollowed := true, recurses := true, apart := false }
def BasisFormsSaid : Prop := basisFormsRow.holds Try.pinned (OpenSpec.ofChange basisFormsSpec)

/-- ITS FALSE NEIGHBOUR: 'it returns false'. Refute it at one input. -/
def basisFormsWrong : ChangeSpec := { name := "basisForms", fn := fun _ => fun
  | [] => { results := [.lit (.bool false)], args := [] }
  | _ => none }
def BasisFormsWrongFalsely : Prop := basisFormsRow.holds Try.pinned (OpenSpec.ofChange basisFormsWrong)

/-- 'girandolelaw2.BasisCopies': WHATEVER THE INPUT: true; the input reads as it did. -/
def basisCopiesSpec : ChangeSpec := { name := "basisCopies", fn := fun _ => fun
  | [d1, d2] => { results := [.lit (.bool true)], args := [d1, d2] }
  | _ => none }
def basisCopiesRow : OpenClaim := { program := "ytejcalpnidgmoaa", sum := "1818ef4dba55296ba70436b9b2daa1ac655d4913f5bddff8c1892e2571a1c10e", func := "girandole/girandolelaw2.BasisCopies", spec := "basisCopies", unfollowed := true, recurses := true, apart := false }
def BasisCopiesSaid : Prop := basisCopiesRow.holds Try.pinned (OpenSpec.ofChange basisCopiesSpec)

/-- ITS FALSE NEIGHBOUR: 'it returns false'. Refute it at one input. -/
def basisCopiesWrong : ChangeSpec := { name := "basisCopies", fn := fun _ => fun
  | [d1, d2] => { results := [.lit (.bool false)], args := [d1, d2] }
  | _ => none }
def BasisCopiesWrongFalsely : Prop := basisCopiesRow.holds Try.pinned (OpenSpec.ofChange basisCopiesWrong)

/- THE SECOND FORM. 'bulk': how many values and letters a reading holds, each counted each time it is reached (what is shared counts as often as it is met; a slice's spare places count too). A statement '..UptoSaid' is the law's where the arguments, and the package variables that the reading takes, are together of bulk at most 1048576: NARROWER than '..Said'. Prove '..Said' where nothing that the law and all that it calls make is longer than what came in: it says more and counts as full. Else prove '..UptoSaid'. A law counts once. -/
mutual
def uptoBulk {H : Type} : DataW H → Nat
  | .lit (.string bytes) => bytes.length + 1
  | .lit _ => 1
  | .nil => 1
  | .ptr d => uptoBulk d + 1
  | .slice elems spare => uptoBulkAll elems + uptoBulkAll spare + 1
  | .agg parts => uptoBulkAll parts + 1
  | .iface _ d => uptoBulk d + 1
  | .map entries => uptoBulkEntries entries + 1
  | .held _ => 1
def uptoBulkAll {H : Type} : List (DataW H) → Nat
  | [] => 0
  | d :: r => uptoBulk d + uptoBulkAll r
def uptoBulkEntries {H : Type} : List (Lit × DataW H) → Nat
  | [] => 0
  | x :: r => uptoBulkEntry x + uptoBulkEntries r
def uptoBulkEntry {H : Type} : Lit × DataW H → Nat
  | (.string bytes, d) => bytes.length + uptoBulk d + 1
  | (_, d) => uptoBulk d + 1
 end
def uptoSmall : (H : Type) → List (DataW H) → Bool := fun _ ds => decide (uptoBulkAll ds ≤ 1048576)
def OpenSpec.upto (s : _root_.Go.ChangeSpec) : _root_.Go.OpenSpec := { _root_.Go.OpenSpec.ofChange s with cond := some uptoSmall }

/-- 'girandolelaw2.BasisAll', WHERE WHAT IT READS IS OF BULK AT MOST 1048576: true; the input reads as it did. -/
def basisAllUptoRow : OpenClaim := { program := "ytejcalpnidgmoaa", sum := "1818ef4dba55296ba70436b9b2daa1ac655d4913f5bddff8c1892e2571a1c10e", func := "girandole/girandolelaw2.BasisAll", spec := "basisAll", unfollowed := true, recurses := true, apart := false, narrowed := true }
def BasisAllUptoSaid : Prop := basisAllUptoRow.holds Try.pinned (OpenSpec.upto basisAllSpec)

/-- 'girandolelaw2.BasisBack', WHERE WHAT IT READS IS OF BULK AT MOST 1048576: true; the input reads as it did. -/
def basisBackUptoRow : OpenClaim := { program := "ytejcalpnidgmoaa", sum := "1818ef4dba55296ba70436b9b2daa1ac655d4913f5bddff8c1892e2571a1c10e", func := "girandole/girandolelaw2.BasisBack", spec := "basisBack", unfollowed := true, recurses := true, apart := false, narrowed := true }
def BasisBackUptoSaid : Prop := basisBackUptoRow.holds Try.pinned (OpenSpec.upto basisBackSpec)

/-- 'girandolelaw2.BasisRank', WHERE WHAT IT READS IS OF BULK AT MOST 1048576: true; the input reads as it did. -/
def basisRankUptoRow : OpenClaim := { program := "ytejcalpnidgmoaa", sum := "1818ef4dba55296ba70436b9b2daa1ac655d4913f5bddff8c1892e2571a1c10e", func := "girandole/girandolelaw2.BasisRank", spec := "basisRank", unfollowed := true, recurses := true, apart := false, narrowed := true }
def BasisRankUptoSaid : Prop := basisRankUptoRow.holds Try.pinned (OpenSpec.upto basisRankSpec)

/-- 'girandolelaw2.BasisForms', WHERE WHAT IT READS IS OF BULK AT MOST 1048576: true; the input reads as it did. -/
def basisFormsUptoRow : OpenClaim := { program := "ytejcalpnidgmoaa", sum := "1818ef4dba55296ba70436b9b2daa1ac655d4913f5bddff8c1892e2571a1c10e", func := "girandole/girandolelaw2.BasisForms", spec := "basisForms", unfollowed := true, recurses := true, apart := false, narrowed := true }
def BasisFormsUptoSaid : Prop := basisFormsUptoRow.holds Try.pinned (OpenSpec.upto basisFormsSpec)

/-- 'girandolelaw2.BasisCopies', WHERE WHAT IT READS IS OF BULK AT MOST 1048576: true; the input reads as it did. -/
def basisCopiesUptoRow : OpenClaim := { program := "ytejcalpnidgmoaa", sum := "1818ef4dba55296ba70436b9b2daa1ac655d4913f5bddff8c1892e2571a1c10e", func := "girandole/girandolelaw2.BasisCopies", spec := "basisCopies", unfollowed := true, recurses := true, apart := false, narrowed := true }
def BasisCopiesUptoSaid : Prop := basisCopiesUptoRow.holds Try.pinned (OpenSpec.upto basisCopiesSpec)

end Rows
end Go.Proofs.Ytejcalpnidgmoaa
