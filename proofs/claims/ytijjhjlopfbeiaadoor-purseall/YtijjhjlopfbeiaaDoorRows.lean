/-
  NARROWER THAN 'FOR EVERY INPUT', by the rows' own cells (each row's printed sentence says how): PurseAll: laid · PurseWhole: laid · PurseRanks: laid · PurseForms: laid · PurseOne: laid.
  DERIVED. THE GIVEN ROWS OF THIS SEAT. 5 by the template 'for every input the law returns true; each argument reads behind the call as it read before'; 0 by the template 'total and deterministic' (their statements: YtijjhjlopfbeiaaDoorTotals.lean).
  GIVEN WITH THE SEED: the statements are not yours to turn. If you find one false, say at which input.
  Laid BY PROGRAM, IN A SANDBOX (cutbox-rows.mjs): the forced cells as the released guide's own fill.sh prints them over the translation 7d524c1380e424fb… (all of the seat's roots in one cut). By AI agents, Wed Nov 11 2026. No macro, syntax, notation, axiom, sorry.
-/
import Derived.Test.YtijjhjlopfbeiaaDoorChecked
import GoSem.Claim
import GoSem.ClaimJoined
import GoSem.ClaimMapViews
import Derived.JoinedTies
import Derived.KernelRfl
namespace Go.Proofs.YtijjhjlopfbeiaaDoor
/- THE CELL 'sum', in the pinned program and in every row, IS THE sha256 OF THE DUMP (.gsa) THAT YtijjhjlopfbeiaaDoorProg.lean LOADS. Nothing in Lean hashes anything: it is a label: what it is worth is what the hold of that sum in a sandbox is worth. -/
noncomputable def Tryd.pinned : Pinned := { name := "ytijjhjlopfbeiaadoor", sum := "7d524c1380e424fb4189d34efa52e6c3ef8e9e3c8b345cce52a6a60cf1bed5bb", checked := Tryd.checked }
namespace Rows
def none {H : Type} : Left H := { results := [], args := [] }

/- WHAT THE LISTED PACKAGE-LEVEL VARIABLES READ AS WHEN THE CALL BEGINS. Each datum BY PROGRAM (the guide's laid-datum.mjs) off the statement by which the dump's own 'gosem.cut.vars' lays the variable. In a bare row this is a premise. The card (YtijjhjlopfbeiaaDoorCards.lean) ties it to the program's text. -/
def laid_girandole_purse_weights {H : Type} : DataW H := .agg [.lit (.int .i64 8), .lit (.int .i64 4), .lit (.int .i64 2), .lit (.int .i64 1)]

/-- 'girandolelaw21.PurseAll': WHATEVER THE INPUT: true; the input reads as it did. -/
def purseAllSpec : ChangeSpec := { name := "purseAll", fn := fun _ => fun
  | [d1, d2] => { results := [.lit (.bool true)], args := [d1, d2] }
  | _ => none }
def purseAllRow : OpenClaim := { program := "ytijjhjlopfbeiaadoor", sum := "7d524c1380e424fb4189d34efa52e6c3ef8e9e3c8b345cce52a6a60cf1bed5bb", func := "girandole/girandolelaw21.PurseAll", spec := "purseAll", unfollowed := true, recurses := true, named := ["girandole/purse.weights"], apart := false, laid := [("girandole/purse.weights", laid_girandole_purse_weights)] }
def PurseAllSaid : Prop := purseAllRow.holds Tryd.pinned (OpenSpec.ofChange purseAllSpec)

/-- ITS FALSE NEIGHBOUR: 'it returns false'. Refute it at one input. -/
def purseAllWrong : ChangeSpec := { name := "purseAll", fn := fun _ => fun
  | [d1, d2] => { results := [.lit (.bool false)], args := [d1, d2] }
  | _ => none }
def PurseAllWrongFalsely : Prop := purseAllRow.holds Tryd.pinned (OpenSpec.ofChange purseAllWrong)

/-- 'girandolelaw21.PurseWhole': WHATEVER THE INPUT: true; the input reads as it did. -/
def purseWholeSpec : ChangeSpec := { name := "purseWhole", fn := fun _ => fun
  | [d1, d2] => { results := [.lit (.bool true)], args := [d1, d2] }
  | _ => none }
def purseWholeRow : OpenClaim := { program := "ytijjhjlopfbeiaadoor", sum := "7d524c1380e424fb4189d34efa52e6c3ef8e9e3c8b345cce52a6a60cf1bed5bb", func := "girandole/girandolelaw21.PurseWhole", spec := "purseWhole", unfollowed := true, recurses := true, named := ["girandole/purse.weights"], apart := false, laid := [("girandole/purse.weights", laid_girandole_purse_weights)] }
def PurseWholeSaid : Prop := purseWholeRow.holds Tryd.pinned (OpenSpec.ofChange purseWholeSpec)

/-- ITS FALSE NEIGHBOUR: 'it returns false'. Refute it at one input. -/
def purseWholeWrong : ChangeSpec := { name := "purseWhole", fn := fun _ => fun
  | [d1, d2] => { results := [.lit (.bool false)], args := [d1, d2] }
  | _ => none }
def PurseWholeWrongFalsely : Prop := purseWholeRow.holds Tryd.pinned (OpenSpec.ofChange purseWholeWrong)

/-- 'girandolelaw21.PurseRanks': WHATEVER THE INPUT: true; the input reads as it did. -/
def purseRanksSpec : ChangeSpec := { name := "purseRanks", fn := fun _ => fun
  | [d1, d2, d3] => { results := [.lit (.bool true)], args := [d1, d2, d3] }
  | _ => none }
def purseRanksRow : OpenClaim := { program := "ytijjhjlopfbeiaadoor", sum := "7d524c1380e424fb4189d34efa52e6c3ef8e9e3c8b345cce52a6a60cf1bed5bb", func := "girandole/girandolelaw21.PurseRanks", spec := "purseRanks", unfollowed := true, recurses := true, named := ["girandole/purse.weights"], apart := false, laid := [("girandole/purse.weights", laid_girandole_purse_weights)] }
def PurseRanksSaid : Prop := purseRanksRow.holds Tryd.pinned (OpenSpec.ofChange purseRanksSpec)

/-- ITS FALSE NEIGHBOUR: 'it returns false'. Refute it at one input. -/
def purseRanksWrong : ChangeSpec := { name := "purseRanks", fn := fun _ => fun
  | [d1, d2, d3] => { results := [.lit (.bool false)], args := [d1, d2, d3] }
  | _ => none }
def PurseRanksWrongFalsely : Prop := purseRanksRow.holds Tryd.pinned (OpenSpec.ofChange purseRanksWrong)

/-- 'girandolelaw21.PurseForms': WHATEVER THE INPUT: true; the input reads as it did. -/
def purseFormsSpec : ChangeSpec := { name := "purseForms", fn := fun _ => fun
  | [] => { results := [.lit (.bool true)], args := [] }
  | _ => none }
def purseFormsRow : OpenClaim := { program := "ytijjhjlopfbeiaadoor", sum := "7d524c1380e424fb4189d34efa52e6c3ef8e9e3c8b345cce52a6a60cf1bed5bb", func := "girandole/girandolelaw21.PurseForms", spec := "purseForms", unfollowed := true, recurses := true, named := ["girandole/purse.weights"], apart := false, laid := [("girandole/purse.weights", laid_girandole_purse_weights)] }
def PurseFormsSaid : Prop := purseFormsRow.holds Tryd.pinned (OpenSpec.ofChange purseFormsSpec)

/-- ITS FALSE NEIGHBOUR: 'it returns false'. Refute it at one input. -/
def purseFormsWrong : ChangeSpec := { name := "purseForms", fn := fun _ => fun
  | [] => { results := [.lit (.bool false)], args := [] }
  | _ => none }
def PurseFormsWrongFalsely : Prop := purseFormsRow.holds Tryd.pinned (OpenSpec.ofChange purseFormsWrong)

/-- 'girandolelaw21.PurseOne': WHATEVER THE INPUT: true; the input reads as it did. -/
def purseOneSpec : ChangeSpec := { name := "purseOne", fn := fun _ => fun
  | [d1, d2, d3] => { results := [.lit (.bool true)], args := [d1, d2, d3] }
  | _ => none }
def purseOneRow : OpenClaim := { program := "ytijjhjlopfbeiaadoor", sum := "7d524c1380e424fb4189d34efa52e6c3ef8e9e3c8b345cce52a6a60cf1bed5bb", func := "girandole/girandolelaw21.PurseOne", spec := "purseOne", unfollowed := true, recurses := true, named := ["girandole/purse.weights"], apart := false, laid := [("girandole/purse.weights", laid_girandole_purse_weights)] }
def PurseOneSaid : Prop := purseOneRow.holds Tryd.pinned (OpenSpec.ofChange purseOneSpec)

/-- ITS FALSE NEIGHBOUR: 'it returns false'. Refute it at one input. -/
def purseOneWrong : ChangeSpec := { name := "purseOne", fn := fun _ => fun
  | [d1, d2, d3] => { results := [.lit (.bool false)], args := [d1, d2, d3] }
  | _ => none }
def PurseOneWrongFalsely : Prop := purseOneRow.holds Tryd.pinned (OpenSpec.ofChange purseOneWrong)

/- THE SECOND FORM. 'bulk': how many values and letters a reading holds, each counted each time it is reached (what is shared counts as often as it is met; a slice's spare places count too). A statement '..UptoSaid' is the law's where the arguments, and the package variables that the reading takes, are together of bulk at most 1048576: NARROWER than '..Said'. Prove '..Said' where nothing that the law and all that it calls make is longer than what came in: it says more and counts as full. Else prove '..UptoSaid'. A law counts once. -/
mutual
def uptoBulk {H : Type} : DataW H → Nat
  | .lit (.string bytes) => bytes.length + 1
  | .lit _ => 1
  | .nil => 1
  | .ptr d => uptoBulk d + 1
  | .slice elems spare => uptoBulkAll elems + uptoBulkAll spare + 1
  | .agg parts => uptoBulkAll parts + 1
  | .iface _ d => uptoBulk d + 1
  | .map entries => uptoBulkEntries entries + 1
  | .held _ => 1
def uptoBulkAll {H : Type} : List (DataW H) → Nat
  | [] => 0
  | d :: r => uptoBulk d + uptoBulkAll r
def uptoBulkEntries {H : Type} : List (Lit × DataW H) → Nat
  | [] => 0
  | x :: r => uptoBulkEntry x + uptoBulkEntries r
def uptoBulkEntry {H : Type} : Lit × DataW H → Nat
  | (.string bytes, d) => bytes.length + uptoBulk d + 1
  | (_, d) => uptoBulk d + 1
 end
def uptoSmall : (H : Type) → List (DataW H) → Bool := fun _ ds => decide (uptoBulkAll ds ≤ 1048576)
def OpenSpec.upto (s : _root_.Go.ChangeSpec) : _root_.Go.OpenSpec := { _root_.Go.OpenSpec.ofChange s with cond := some uptoSmall }

/-- 'girandolelaw21.PurseAll', WHERE WHAT IT READS IS OF BULK AT MOST 1048576: true; the input reads as it did. -/
def purseAllUptoRow : OpenClaim := { program := "ytijjhjlopfbeiaadoor", sum := "7d524c1380e424fb4189d34efa52e6c3ef8e9e3c8b345cce52a6a60cf1bed5bb", func := "girandole/girandolelaw21.PurseAll", spec := "purseAll", unfollowed := true, recurses := true, named := ["girandole/purse.weights"], apart := false, laid := [("girandole/purse.weights", laid_girandole_purse_weights)], narrowed := true }
def PurseAllUptoSaid : Prop := purseAllUptoRow.holds Tryd.pinned (OpenSpec.upto purseAllSpec)

/-- 'girandolelaw21.PurseWhole', WHERE WHAT IT READS IS OF BULK AT MOST 1048576: true; the input reads as it did. -/
def purseWholeUptoRow : OpenClaim := { program := "ytijjhjlopfbeiaadoor", sum := "7d524c1380e424fb4189d34efa52e6c3ef8e9e3c8b345cce52a6a60cf1bed5bb", func := "girandole/girandolelaw21.PurseWhole", spec := "purseWhole", unfollowed := true, recurses := true, named := ["girandole/purse.weights"], apart := false, laid := [("girandole/purse.weights", laid_girandole_purse_weights)], narrowed := true }
def PurseWholeUptoSaid : Prop := purseWholeUptoRow.holds Tryd.pinned (OpenSpec.upto purseWholeSpec)

/-- 'girandolelaw21.PurseRanks', WHERE WHAT IT READS IS OF BULK AT MOST 1048576: true; the input reads as it did. -/
def purseRanksUptoRow : OpenClaim := { program := "ytijjhjlopfbeiaadoor", sum := "7d524c1380e424fb4189d34efa52e6c3ef8e9e3c8b345cce52a6a60cf1bed5bb", func := "girandole/girandolelaw21.PurseRanks", spec := "purseRanks", unfollowed := true, recurses := true, named := ["girandole/purse.weights"], apart := false, laid := [("girandole/purse.weights", laid_girandole_purse_weights)], narrowed := true }
def PurseRanksUptoSaid : Prop := purseRanksUptoRow.holds Tryd.pinned (OpenSpec.upto purseRanksSpec)

/-- 'girandolelaw21.PurseForms', WHERE WHAT IT READS IS OF BULK AT MOST 1048576: true; the input reads as it did. -/
def purseFormsUptoRow : OpenClaim := { program := "ytijjhjlopfbeiaadoor", sum := "7d524c1380e424fb4189d34efa52e6c3ef8e9e3c8b345cce52a6a60cf1bed5bb", func := "girandole/girandolelaw21.PurseForms", spec := "purseForms", unfollowed := true, recurses := true, named := ["girandole/purse.weights"], apart := false, laid := [("girandole/purse.weights", laid_girandole_purse_weights)], narrowed := true }
def PurseFormsUptoSaid : Prop := purseFormsUptoRow.holds Tryd.pinned (OpenSpec.upto purseFormsSpec)

/-- 'girandolelaw21.PurseOne', WHERE WHAT IT READS IS OF BULK AT MOST 1048576: true; the input reads as it did. -/
def purseOneUptoRow : OpenClaim := { program := "ytijjhjlopfbeiaadoor", sum := "7d524c1380e424fb4189d34efa52e6c3ef8e9e3c8b345cce52a6a60cf1bed5bb", func := "girandole/girandolelaw21.PurseOne", spec := "purseOne", unfollowed := true, recurses := true, named := ["girandole/purse.weights"], apart := false, laid := [("girandole/purse.weights", laid_girandole_purse_weights)], narrowed := true }
def PurseOneUptoSaid : Prop := purseOneUptoRow.holds Tryd.pinned (OpenSpec.upto purseOneSpec)

end Rows
end Go.Proofs.YtijjhjlopfbeiaaDoor
