/-
  No cell of these rows narrows 'for every input' (looked for: loops, veiled, ifaces, maps, wideKeys, modest, calm, conditions, laid).
  DERIVED. THE GIVEN ROWS OF THIS SEAT. 3 by the template 'for every input the law returns true; each argument reads behind the call as it read before'; 0 by the template 'total and deterministic' (their statements: YtmckfcbhkahcmaaTotals.lean).
  GIVEN WITH THE SEED: the statements are not yours to turn. If you find one false, say at which input.
  Laid BY PROGRAM, IN A SANDBOX (cutbox-rows.mjs): the forced cells as the released guide's own fill.sh prints them over the translation fae413e50a4ab595… (all of the seat's roots in one cut). By AI agents, Wed Nov 11 2026. No macro, syntax, notation, axiom, sorry.
-/
import Derived.Test.YtmckfcbhkahcmaaChecked
import GoSem.Claim
import GoSem.ClaimJoined
import GoSem.ClaimMapViews
import Derived.JoinedTies
import Derived.KernelRfl
namespace Go.Proofs.Ytmckfcbhkahcmaa
/- THE CELL 'sum', in the pinned program and in every row, IS THE sha256 OF THE DUMP (.gsa) THAT YtmckfcbhkahcmaaProg.lean LOADS. Nothing in Lean hashes anything: it is a label: what it is worth is what the hold of that sum in a sandbox is worth. -/
noncomputable def Try.pinned : Pinned := { name := "ytmckfcbhkahcmaa", sum := "fae413e50a4ab5956b3411bcedb41ccaf755a48ba009bf98641a2cf0d4df4e2c", checked := Try.checked }
namespace Rows
def none {H : Type} : Left H := { results := [], args := [] }

/-- 'girandolelaw10.BackAll': WHATEVER THE INPUT: true; the input reads as it did. -/
def backAllSpec : ChangeSpec := { name := "backAll", fn := fun _ => fun
  | [d1, d2, d3, d4] => { results := [.lit (.bool true)], args := [d1, d2, d3, d4] }
  | _ => none }
def backAllRow : OpenClaim := { program := "ytmckfcbhkahcmaa", sum := "fae413e50a4ab5956b3411bcedb41ccaf755a48ba009bf98641a2cf0d4df4e2c", func := "girandole/girandolelaw10.BackAll", spec := "backAll", unfollowed := true, recurses := true, apart := false }
def BackAllSaid : Prop := backAllRow.holds Try.pinned (OpenSpec.ofChange backAllSpec)

/-- ITS FALSE NEIGHBOUR: 'it returns false'. Refute it at one input. -/
def backAllWrong : ChangeSpec := { name := "backAll", fn := fun _ => fun
  | [d1, d2, d3, d4] => { results := [.lit (.bool false)], args := [d1, d2, d3, d4] }
  | _ => none }
def BackAllWrongFalsely : Prop := backAllRow.holds Try.pinned (OpenSpec.ofChange backAllWrong)

/-- 'girandolelaw10.BackBack': WHATEVER THE INPUT: true; the input reads as it did. -/
def backBackSpec : ChangeSpec := { name := "backBack", fn := fun _ => fun
  | [d1, d2, d3, d4] => { results := [.lit (.bool true)], args := [d1, d2, d3, d4] }
  | _ => none }
def backBackRow : OpenClaim := { program := "ytmckfcbhkahcmaa", sum := "fae413e50a4ab5956b3411bcedb41ccaf755a48ba009bf98641a2cf0d4df4e2c", func := "girandole/girandolelaw10.BackBack", spec := "backBack", unfollowed := true, recurses := true, apart := false }
def BackBackSaid : Prop := backBackRow.holds Try.pinned (OpenSpec.ofChange backBackSpec)

/-- ITS FALSE NEIGHBOUR: 'it returns false'. Refute it at one input. -/
def backBackWrong : ChangeSpec := { name := "backBack", fn := fun _ => fun
  | [d1, d2, d3, d4] => { results := [.lit (.bool false)], args := [d1, d2, d3, d4] }
  | _ => none }
def BackBackWrongFalsely : Prop := backBackRow.holds Try.pinned (OpenSpec.ofChange backBackWrong)

/-- 'girandolelaw10.BackForms': WHATEVER THE INPUT: true; the input reads as it did. -/
def backFormsSpec : ChangeSpec := { name := "backForms", fn := fun _ => fun
  | [] => { results := [.lit (.bool true)], args := [] }
  | _ => none }
def backFormsRow : OpenClaim := { program := "ytmckfcbhkahcmaa", sum := "fae413e50a4ab5956b3411bcedb41ccaf755a48ba009bf98641a2cf0d4df4e2c", func := "girandole/girandolelaw10.BackForms", spec := "backForms", unfollowed := true, recurses := true, apart := false }
def BackFormsSaid : Prop := backFormsRow.holds Try.pinned (OpenSpec.ofChange backFormsSpec)

/-- ITS FALSE NEIGHBOUR: 'it returns false'. Refute it at one input. -/
def backFormsWrong : ChangeSpec := { name := "backForms", fn := fun _ => fun
  | [] => { results := [.lit (.bool false)], args := [] }
  | _ => none }
def BackFormsWrongFalsely : Prop := backFormsRow.holds Try.pinned (OpenSpec.ofChange backFormsWrong)

/- THE SECOND FORM. 'bulk': how many values and letters a reading holds, each counted each time it is reached (what is shared counts as often as it is met; a slice's spare places count too). A statement '..UptoSaid' is the law's where the arguments, and the package variables that the reading takes, are together of bulk at most 1048576: NARROWER than '..Said'. Prove '..Said' where nothing that the law and all that it calls make is longer than what came in: it says more and counts as full. Else prove '..UptoSaid'. A law counts once. -/
mutual
def uptoBulk {H : Type} : DataW H → Nat
  | .lit (.string bytes) => bytes.length + 1
  | .lit _ => 1
  | .nil => 1
  | .ptr d => uptoBulk d + 1
  | .slice elems spare => uptoBulkAll elems + uptoBulkAll spare + 1
  | .agg parts => uptoBulkAll parts + 1
  | .iface _ d => uptoBulk d + 1
  | .map entries => uptoBulkEntries entries + 1
  | .held _ => 1
def uptoBulkAll {H : Type} : List (DataW H) → Nat
  | [] => 0
  | d :: r => uptoBulk d + uptoBulkAll r
def uptoBulkEntries {H : Type} : List (Lit × DataW H) → Nat
  | [] => 0
  | x :: r => uptoBulkEntry x + uptoBulkEntries r
def uptoBulkEntry {H : Type} : Lit × DataW H → Nat
  | (.string bytes, d) => bytes.length + uptoBulk d + 1
  | (_, d) => uptoBulk d + 1
 end
def uptoSmall : (H : Type) → List (DataW H) → Bool := fun _ ds => decide (uptoBulkAll ds ≤ 1048576)
def OpenSpec.upto (s : _root_.Go.ChangeSpec) : _root_.Go.OpenSpec := { _root_.Go.OpenSpec.ofChange s with cond := some uptoSmall }

/-- 'girandolelaw10.BackAll', WHERE WHAT IT READS IS OF BULK AT MOST 1048576: true; the input reads as it did. -/
def backAllUptoRow : OpenClaim := { program := "ytmckfcbhkahcmaa", sum := "fae413e50a4ab5956b3411bcedb41ccaf755a48ba009bf98641a2cf0d4df4e2c", func := "girandole/girandolelaw10.BackAll", spec := "backAll", unfollowed := true, recurses := true, apart := false, narrowed := true }
def BackAllUptoSaid : Prop := backAllUptoRow.holds Try.pinned (OpenSpec.upto backAllSpec)

/-- 'girandolelaw10.BackBack', WHERE WHAT IT READS IS OF BULK AT MOST 1048576: true; the input reads as it did. -/
def backBackUptoRow : OpenClaim := { program := "ytmckfcbhkahcmaa", sum := "fae413e50a4ab5956b3411bcedb41ccaf755a48ba009bf98641a2cf0d4df4e2c", func := "girandole/girandolelaw10.BackBack", spec := "backBack", unfollowed := true, recurses := true, apart := false, narrowed := true }
def BackBackUptoSaid : Prop := backBackUptoRow.holds Try.pinned (OpenSpec.upto backBackSpec)

/-- 'girandolelaw10.BackForms', WHERE WHAT IT READS IS OF BULK AT MOST 1048576: true; the input reads as it did. -/
def backFormsUptoRow : OpenClaim := { program := "ytmckfcbhkahcmaa", sum := "fae413e50a4ab5956b3411bcedb41ccaf755a48ba009bf98641a2cf0d4df4e2c", func := "girandole/girandolelaw10.BackForms", spec := "backForms", unfollowed := true, recurses := true, apart := false, narrowed := true }
def BackFormsUptoSaid : Prop := backFormsUptoRow.holds Try.pinned (OpenSpec.upto backFormsSpec)

end Rows
end Go.Proofs.Ytmckfcbhkahcmaa
