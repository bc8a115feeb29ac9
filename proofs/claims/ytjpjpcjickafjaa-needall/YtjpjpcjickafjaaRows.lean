/-
  No cell of these rows narrows 'for every input' (looked for: loops, veiled, ifaces, maps, wideKeys, modest, calm, conditions, laid).
  DERIVED. THE GIVEN ROWS OF THIS SEAT. 3 by the template 'for every input the law returns true; each argument reads behind the call as it read before'; 0 by the template 'total and deterministic' (their statements: YtjpjpcjickafjaaTotals.lean).
  GIVEN WITH THE SEED: the statements are not yours to turn. If you find one false, say at which input.
  Laid BY PROGRAM, IN A SANDBOX (cutbox-rows.mjs): the forced cells as the released guide's own fill.sh prints them over the translation bc420283d8bd408b… (all of the seat's roots in one cut). By AI agents, Wed Nov 11 2026. No macro, syntax, notation, axiom, sorry.
-/
import Derived.Test.YtjpjpcjickafjaaChecked
import GoSem.Claim
import GoSem.ClaimJoined
import GoSem.ClaimMapViews
import Derived.JoinedTies
import Derived.KernelRfl
namespace Go.Proofs.Ytjpjpcjickafjaa
/- THE CELL 'sum', in the pinned program and in every row, IS THE sha256 OF THE DUMP (.gsa) THAT YtjpjpcjickafjaaProg.lean LOADS. Nothing in Lean hashes anything: it is a label: what it is worth is what the hold of that sum in a sandbox is worth. -/
noncomputable def Try.pinned : Pinned := { name := "ytjpjpcjickafjaa", sum := "bc420283d8bd408b2cc18fcee7f82bb1bff63e606fe8b65c4247c1d774a80387", checked := Try.checked }
namespace Rows
def none {H : Type} : Left H := { results := [], args := [] }

/-- 'girandolelaw20.NeedAll': WHATEVER THE INPUT: true; the input reads as it did. -/
def needAllSpec : ChangeSpec := { name := "needAll", fn := fun _ => fun
  | [d1, d2, d3] => { results := [.lit (.bool true)], args := [d1, d2, d3] }
  | _ => none }
def needAllRow : OpenClaim := { program := "ytjpjpcjickafjaa", sum := "bc420283d8bd408b2cc18fcee7f82bb1bff63e606fe8b65c4247c1d774a80387", func := "girandole/girandolelaw20.NeedAll", spec := "needAll", apart := false }
def NeedAllSaid : Prop := needAllRow.holds Try.pinned (OpenSpec.ofChange needAllSpec)

/-- ITS FALSE NEIGHBOUR: 'it returns false'. Refute it at one input. -/
def needAllWrong : ChangeSpec := { name := "needAll", fn := fun _ => fun
  | [d1, d2, d3] => { results := [.lit (.bool false)], args := [d1, d2, d3] }
  | _ => none }
def NeedAllWrongFalsely : Prop := needAllRow.holds Try.pinned (OpenSpec.ofChange needAllWrong)

/-- 'girandolelaw20.NeedMore': WHATEVER THE INPUT: true; the input reads as it did. -/
def needMoreSpec : ChangeSpec := { name := "needMore", fn := fun _ => fun
  | [d1, d2, d3, d4, d5] => { results := [.lit (.bool true)], args := [d1, d2, d3, d4, d5] }
  | _ => none }
def needMoreRow : OpenClaim := { program := "ytjpjpcjickafjaa", sum := "bc420283d8bd408b2cc18fcee7f82bb1bff63e606fe8b65c4247c1d774a80387", func := "girandole/girandolelaw20.NeedMore", spec := "needMore", apart := false }
def NeedMoreSaid : Prop := needMoreRow.holds Try.pinned (OpenSpec.ofChange needMoreSpec)

/-- ITS FALSE NEIGHBOUR: 'it returns false'. Refute it at one input. -/
def needMoreWrong : ChangeSpec := { name := "needMore", fn := fun _ => fun
  | [d1, d2, d3, d4, d5] => { results := [.lit (.bool false)], args := [d1, d2, d3, d4, d5] }
  | _ => none }
def NeedMoreWrongFalsely : Prop := needMoreRow.holds Try.pinned (OpenSpec.ofChange needMoreWrong)

/-- 'girandolelaw20.NeedForms': WHATEVER THE INPUT: true; the input reads as it did. -/
def needFormsSpec : ChangeSpec := { name := "needForms", fn := fun _ => fun
  | [] => { results := [.lit (.bool true)], args := [] }
  | _ => none }
def needFormsRow : OpenClaim := { program := "ytjpjpcjickafjaa", sum := "bc420283d8bd408b2cc18fcee7f82bb1bff63e606fe8b65c4247c1d774a80387", func := "girandole/girandolelaw20.NeedForms", spec := "needForms", apart := false }
def NeedFormsSaid : Prop := needFormsRow.holds Try.pinned (OpenSpec.ofChange needFormsSpec)

/-- ITS FALSE NEIGHBOUR: 'it returns false'. Refute it at one input. -/
def needFormsWrong : ChangeSpec := { name := "needForms", fn := fun _ => fun
  | [] => { results := [.lit (.bool false)], args := [] }
  | _ => none }
def NeedFormsWrongFalsely : Prop := needFormsRow.holds Try.pinned (OpenSpec.ofChange needFormsWrong)

/- THE SECOND FORM. 'bulk': how many values and letters a reading holds, each counted each time it is reached (what is shared counts as often as it is met; a slice's spare places count too). A statement '..UptoSaid' is the law's where the arguments, and the package variables that the reading takes, are together of bulk at most 1048576: NARROWER than '..Said'. Prove '..Said' where nothing that the law and all that it calls make is longer than what came in: it says more and counts as full. Else prove '..UptoSaid'. A law counts once. -/
mutual
def uptoBulk {H : Type} : DataW H → Nat
  | .lit (.string bytes) => bytes.length + 1
  | .lit _ => 1
  | .nil => 1
  | .ptr d => uptoBulk d + 1
  | .slice elems spare => uptoBulkAll elems + uptoBulkAll spare + 1
  | .agg parts => uptoBulkAll parts + 1
  | .iface _ d => uptoBulk d + 1
  | .map entries => uptoBulkEntries entries + 1
  | .held _ => 1
def uptoBulkAll {H : Type} : List (DataW H) → Nat
  | [] => 0
  | d :: r => uptoBulk d + uptoBulkAll r
def uptoBulkEntries {H : Type} : List (Lit × DataW H) → Nat
  | [] => 0
  | x :: r => uptoBulkEntry x + uptoBulkEntries r
def uptoBulkEntry {H : Type} : Lit × DataW H → Nat
  | (.string bytes, d) => bytes.length + uptoBulk d + 1
  | (_, d) => uptoBulk d + 1
 end
def uptoSmall : (H : Type) → List (DataW H) → Bool := fun _ ds => decide (uptoBulkAll ds ≤ 1048576)
def OpenSpec.upto (s : _root_.Go.ChangeSpec) : _root_.Go.OpenSpec := { _root_.Go.OpenSpec.ofChange s with cond := some uptoSmall }

/-- 'girandolelaw20.NeedAll', WHERE WHAT IT READS IS OF BULK AT MOST 1048576: true; the input reads as it did. -/
def needAllUptoRow : OpenClaim := { program := "ytjpjpcjickafjaa", sum := "bc420283d8bd408b2cc18fcee7f82bb1bff63e606fe8b65c4247c1d774a80387", func := "girandole/girandolelaw20.NeedAll", spec := "needAll", apart := false, narrowed := true }
def NeedAllUptoSaid : Prop := needAllUptoRow.holds Try.pinned (OpenSpec.upto needAllSpec)

/-- 'girandolelaw20.NeedMore', WHERE WHAT IT READS IS OF BULK AT MOST 1048576: true; the input reads as it did. -/
def needMoreUptoRow : OpenClaim := { program := "ytjpjpcjickafjaa", sum := "bc420283d8bd408b2cc18fcee7f82bb1bff63e606fe8b65c4247c1d774a80387", func := "girandole/girandolelaw20.NeedMore", spec := "needMore", apart := false, narrowed := true }
def NeedMoreUptoSaid : Prop := needMoreUptoRow.holds Try.pinned (OpenSpec.upto needMoreSpec)

/-- 'girandolelaw20.NeedForms', WHERE WHAT IT READS IS OF BULK AT MOST 1048576: true; the input reads as it did. -/
def needFormsUptoRow : OpenClaim := { program := "ytjpjpcjickafjaa", sum := "bc420283d8bd408b2cc18fcee7f82bb1bff63e606fe8b65c4247c1d774a80387", func := "girandole/girandolelaw20.NeedForms", spec := "needForms", apart := false, narrowed := true }
def NeedFormsUptoSaid : Prop := needFormsUptoRow.holds Try.pinned (OpenSpec.upto needFormsSpec)

end Rows
end Go.Proofs.Ytjpjpcjickafjaa
