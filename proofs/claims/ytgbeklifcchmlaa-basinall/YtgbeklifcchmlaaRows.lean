/-
  No cell of these rows narrows 'for every input' (looked for: loops, veiled, ifaces, maps, wideKeys, modest, calm, conditions, laid).
  DERIVED. THE GIVEN ROWS OF THIS SEAT. 5 by the template 'for every input the law returns true; each argument reads behind the call as it read before'; 0 by the template 'total and deterministic' (their statements: YtgbeklifcchmlaaTotals.lean).
  GIVEN WITH THE SEED: the statements are not yours to turn. If you find one false, say at which input.
  Laid BY PROGRAM, IN A SANDBOX (cutbox-rows.mjs): the forced cells as the released guide's own fill.sh prints them over the translation 85e610cfd028c2ed… (all of the seat's roots in one cut). By AI agents, Wed Nov 11 2026. No macro, syntax, notation, axiom, sorry.
-/
import Derived.Test.YtgbeklifcchmlaaChecked
import GoSem.Claim
import GoSem.ClaimJoined
import GoSem.ClaimMapViews
import Derived.JoinedTies
import Derived.KernelRfl
namespace Go.Proofs.Ytgbeklifcchmlaa
/- THE CELL 'sum', in the pinned program and in every row, IS THE sha256 OF THE DUMP (.gsa) THAT YtgbeklifcchmlaaProg.lean LOADS. Nothing in Lean hashes anything: it is a label: what it is worth is what the hold of that sum in a sandbox is worth. -/
noncomputable def Try.pinned : Pinned := { name := "ytgbeklifcchmlaa", sum := "85e610cfd028c2ed1e52b29aeb0407c520d56c6668682d82348c5309506a438c", checked := Try.checked }
namespace Rows
def none {H : Type} : Left H := { results := [], args := [] }

/-- 'girandolelaw6.BasinAll': WHATEVER THE INPUT: true; the input reads as it did. -/
def basinAllSpec : ChangeSpec := { name := "basinAll", fn := fun _ => fun
  | [d1, d2, d3, d4, d5] => { results := [.lit (.bool true)], args := [d1, d2, d3, d4, d5] }
  | _ => none }
def basinAllRow : OpenClaim := { program := "ytgbeklifcchmlaa", sum := "85e610cfd028c2ed1e52b29aeb0407c520d56c6668682d82348c5309506a438c", func := "girandole/girandolelaw6.BasinAll", spec := "basinAll", unfollowed := true, recurses := true, apart := false }
def BasinAllSaid : Prop := basinAllRow.holds Try.pinned (OpenSpec.ofChange basinAllSpec)

/-- ITS FALSE NEIGHBOUR: 'it returns false'. Refute it at one input. -/
def basinAllWrong : ChangeSpec := { name := "basinAll", fn := fun _ => fun
  | [d1, d2, d3, d4, d5] => { results := [.lit (.bool false)], args := [d1, d2, d3, d4, d5] }
  | _ => none }
def BasinAllWrongFalsely : Prop := basinAllRow.holds Try.pinned (OpenSpec.ofChange basinAllWrong)

/-- 'girandolelaw6.BasinBack': WHATEVER THE INPUT: true; the input reads as it did. -/
def basinBackSpec : ChangeSpec := { name := "basinBack", fn := fun _ => fun
  | [d1, d2, d3, d4] => { results := [.lit (.bool true)], args := [d1, d2, d3, d4] }
  | _ => none }
def basinBackRow : OpenClaim := { program := "ytgbeklifcchmlaa", sum := "85e610cfd028c2ed1e52b29aeb0407c520d56c6668682d82348c5309506a438c", func := "girandole/girandolelaw6.BasinBack", spec := "basinBack", unfollowed := true, recurses := true, apart := false }
def BasinBackSaid : Prop := basinBackRow.holds Try.pinned (OpenSpec.ofChange basinBackSpec)

/-- ITS FALSE NEIGHBOUR: 'it returns false'. Refute it at one input. -/
def basinBackWrong : ChangeSpec := { name := "basinBack", fn := fun _ => fun
  | [d1, d2, d3, d4] => { results := [.lit (.bool false)], args := [d1, d2, d3, d4] }
  | _ => none }
def BasinBackWrongFalsely : Prop := basinBackRow.holds Try.pinned (OpenSpec.ofChange basinBackWrong)

/-- 'girandolelaw6.BasinFirst': WHATEVER THE INPUT: true; the input reads as it did. -/
def basinFirstSpec : ChangeSpec := { name := "basinFirst", fn := fun _ => fun
  | [d1, d2, d3, d4] => { results := [.lit (.bool true)], args := [d1, d2, d3, d4] }
  | _ => none }
def basinFirstRow : OpenClaim := { program := "ytgbeklifcchmlaa", sum := "85e610cfd028c2ed1e52b29aeb0407c520d56c6668682d82348c5309506a438c", func := "girandole/girandolelaw6.BasinFirst", spec := "basinFirst", unfollowed := true, recurses := true, apart := false }
def BasinFirstSaid : Prop := basinFirstRow.holds Try.pinned (OpenSpec.ofChange basinFirstSpec)

/-- ITS FALSE NEIGHBOUR: 'it returns false'. Refute it at one input. -/
def basinFirstWrong : ChangeSpec := { name := "basinFirst", fn := fun _ => fun
  | [d1, d2, d3, d4] => { results := [.lit (.bool false)], args := [d1, d2, d3, d4] }
  | _ => none }
def BasinFirstWrongFalsely : Prop := basinFirstRow.holds Try.pinned (OpenSpec.ofChange basinFirstWrong)

/-- 'girandolelaw6.BasinForms': WHATEVER THE INPUT: true; the input reads as it did. -/
def basinFormsSpec : ChangeSpec := { name := "basinForms", fn := fun _ => fun
  | [] => { results := [.lit (.bool true)], args := [] }
  | _ => none }
def basinFormsRow : OpenClaim := { program := "ytgbeklifcchmlaa", sum := "85e610cfd028c2ed1e52b29aeb0407c520d56c6668682d82348c5309506a438c", func := "girandole/girandolelaw6.BasinForms", spec := "basinForms", unfollowed := true, recurses := true, apart := false }
def BasinFormsSaid : Prop := basinFormsRow.holds Try.pinned (OpenSpec.ofChange basinFormsSpec)

/-- ITS FALSE NEIGHBOUR: 'it returns false'. Refute it at one input. -/
def basinFormsWrong : ChangeSpec := { name := "basinForms", fn := fun _ => fun
  | [] => { results := [.lit (.bool false)], args := [] }
  | _ => none }
def BasinFormsWrongFalsely : Prop := basinFormsRow.holds Try.pinned (OpenSpec.ofChange basinFormsWrong)

/-- 'girandolelaw6.BasinOrder': WHATEVER THE INPUT: true; the input reads as it did. -/
def basinOrderSpec : ChangeSpec := { name := "basinOrder", fn := fun _ => fun
  | [d1, d2, d3] => { results := [.lit (.bool true)], args := [d1, d2, d3] }
  | _ => none }
def basinOrderRow : OpenClaim := { program := "ytgbeklifcchmlaa", sum := "85e610cfd028c2ed1e52b29aeb0407c520d56c6668682d82348c5309506a438c", func := "girandole/girandolelaw6.BasinOrder", spec := "basinOrder", unfollowed := true, recurses := true, apart := false }
def BasinOrderSaid : Prop := basinOrderRow.holds Try.pinned (OpenSpec.ofChange basinOrderSpec)

/-- ITS FALSE NEIGHBOUR: 'it returns false'. Refute it at one input. -/
def basinOrderWrong : ChangeSpec := { name := "basinOrder", fn := fun _ => fun
  | [d1, d2, d3] => { results := [.lit (.bool false)], args := [d1, d2, d3] }
  | _ => none }
def BasinOrderWrongFalsely : Prop := basinOrderRow.holds Try.pinned (OpenSpec.ofChange basinOrderWrong)

/- THE SECOND FORM. 'bulk': how many values and letters a reading holds, each counted each time it is reached (what is shared counts as often as it is met; a slice's spare places count too). A statement '..UptoSaid' is the law's where the arguments, and the package variables that the reading takes, are together of bulk at most 1048576: NARROWER than '..Said'. Prove '..Said' where nothing that the law and all that it calls make is longer than what came in: it says more and counts as full. Else prove '..UptoSaid'. A law counts once. -/
mutual
def uptoBulk {H : Type} : DataW H → Nat
  | .lit (.string bytes) => bytes.length + 1
  | .lit _ => 1
  | .nil => 1
  | .ptr d => uptoBulk d + 1
  | .slice elems spare => uptoBulkAll elems + uptoBulkAll spare + 1
  | .agg parts => uptoBulkAll parts + 1
  | .iface _ d => uptoBulk d + 1
  | .map entries => uptoBulkEntries entries + 1
  | .held _ => 1
def uptoBulkAll {H : Type} : List (DataW H) → Nat
  | [] => 0
  | d :: r => uptoBulk d + uptoBulkAll r
def uptoBulkEntries {H : Type} : List (Lit × DataW H) → Nat
  | [] => 0
  | x :: r => uptoBulkEntry x + uptoBulkEntries r
def uptoBulkEntry {H : Type} : Lit × DataW H → Nat
  | (.string bytes, d) => bytes.length + uptoBulk d + 1
  | (_, d) => uptoBulk d + 1
 end
def uptoSmall : (H : Type) → List (DataW H) → Bool := fun _ ds => decide (uptoBulkAll ds ≤ 1048576)
def OpenSpec.upto (s : _root_.Go.ChangeSpec) : _root_.Go.OpenSpec := { _root_.Go.OpenSpec.ofChange s with cond := some uptoSmall }

/-- 'girandolelaw6.BasinAll', WHERE WHAT IT READS IS OF BULK AT MOST 1048576: true; the input reads as it did. -/
def basinAllUptoRow : OpenClaim := { program := "ytgbeklifcchmlaa", sum := "85e610cfd028c2ed1e52b29aeb0407c520d56c6668682d82348c5309506a438c", func := "girandole/girandolelaw6.BasinAll", spec := "basinAll", unfollowed := true, recurses := true, apart := false, narrowed := true }
def BasinAllUptoSaid : Prop := basinAllUptoRow.holds Try.pinned (OpenSpec.upto basinAllSpec)

/-- 'girandolelaw6.BasinBack', WHERE WHAT IT READS IS OF BULK AT MOST 1048576: true; the input reads as it did. -/
def basinBackUptoRow : OpenClaim := { program := "ytgbeklifcchmlaa", sum := "85e610cfd028c2ed1e52b29aeb0407c520d56c6668682d82348c5309506a438c", func := "girandole/girandolelaw6.BasinBack", spec := "basinBack", unfollowed := true, recurses := true, apart := false, narrowed := true }
def BasinBackUptoSaid : Prop := basinBackUptoRow.holds Try.pinned (OpenSpec.upto basinBackSpec)

/-- 'girandolelaw6.BasinFirst', WHERE WHAT IT READS IS OF BULK AT MOST 1048576: true; the input reads as it did. -/
def basinFirstUptoRow : OpenClaim := { program := "ytgbeklifcchmlaa", sum := "85e610cfd028c2ed1e52b29aeb0407c520d56c6668682d82348c5309506a438c", func := "girandole/girandolelaw6.BasinFirst", spec := "basinFirst", unfollowed := true, recurses := true, apart := false, narrowed := true }
def BasinFirstUptoSaid : Prop := basinFirstUptoRow.holds Try.pinned (OpenSpec.upto basinFirstSpec)

/-- 'girandolelaw6.BasinForms', WHERE WHAT IT READS IS OF BULK AT MOST 1048576: true; the input reads as it did. -/
def basinFormsUptoRow : OpenClaim := { program := "ytgbeklifcchmlaa", sum := "85e610cfd028c2ed1e52b29aeb0407c520d56c6668682d82348c5309506a438c", func := "girandole/girandolelaw6.BasinForms", spec := "basinForms", unfollowed := true, recurses := true, apart := false, narrowed := true }
def BasinFormsUptoSaid : Prop := basinFormsUptoRow.holds Try.pinned (OpenSpec.upto basinFormsSpec)

/-- 'girandolelaw6.BasinOrder', WHERE WHAT IT READS IS OF BULK AT MOST 1048576: true; the input reads as it did. -/
def basinOrderUptoRow : OpenClaim := { program := "ytgbeklifcchmlaa", sum := "85e610cfd028c2ed1e52b29aeb0407c520d56c6668682d82348c5309506a438c", func := "girandole/girandolelaw6.BasinOrder", spec := "basinOrder", unfollowed := true, recurses := true, apart := false, narrowed := true }
def BasinOrderUptoSaid : Prop := basinOrderUptoRow.holds Try.pinned (OpenSpec.upto basinOrderSpec)

end Rows
end Go.Proofs.Ytgbeklifcchmlaa
