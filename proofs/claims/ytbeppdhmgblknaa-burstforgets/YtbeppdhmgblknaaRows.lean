/-
  No cell of these rows narrows 'for every input' (looked for: loops, veiled, ifaces, maps, wideKeys, modest, calm, conditions, laid).
  DERIVED. THE GIVEN ROWS OF THIS SEAT. 3 by the template 'for every input the law returns true; each argument reads behind the call as it read before'; 0 by the template 'total and deterministic' (their statements: YtbeppdhmgblknaaTotals.lean).
  GIVEN WITH THE SEED: the statements are not yours to turn. If you find one false, say at which input.
  Laid BY PROGRAM, IN A SANDBOX (cutbox-rows.mjs): the forced cells as the released guide's own fill.sh prints them over the translation 0d5567b0b212c6b9… (all of the seat's roots in one cut). By AI agents, Wed Nov 11 2026. No macro, syntax, notation, axiom, sorry.
-/
import Derived.Test.YtbeppdhmgblknaaChecked
import GoSem.Claim
import GoSem.ClaimJoined
import GoSem.ClaimMapViews
import Derived.JoinedTies
import Derived.KernelRfl
namespace Go.Proofs.Ytbeppdhmgblknaa
/- THE CELL 'sum', in the pinned program and in every row, IS THE sha256 OF THE DUMP (.gsa) THAT YtbeppdhmgblknaaProg.lean LOADS. Nothing in Lean hashes anything: it is a label: what it is worth is what the hold of that sum in a sandbox is worth. -/
noncomputable def Try.pinned : Pinned := { name := "ytbeppdhmgblknaa", sum := "0d5567b0b212c6b9cb551ad53e492b541d0e0fb775d01620f4ab410c7acb5034", checked := Try.checked }
namespace Rows
def none {H : Type} : Left H := { results := [], args := [] }

/-- 'girandolelaw18.BurstAll': WHATEVER THE INPUT: true; the input reads as it did. -/
def burstAllSpec : ChangeSpec := { name := "burstAll", fn := fun _ => fun
  | [d] => { results := [.lit (.bool true)], args := [d] }
  | _ => none }
def burstAllRow : OpenClaim := { program := "ytbeppdhmgblknaa", sum := "0d5567b0b212c6b9cb551ad53e492b541d0e0fb775d01620f4ab410c7acb5034", func := "girandole/girandolelaw18.BurstAll", spec := "burstAll", apart := false }
def BurstAllSaid : Prop := burstAllRow.holds Try.pinned (OpenSpec.ofChange burstAllSpec)

/-- ITS FALSE NEIGHBOUR: 'it returns false'. Refute it at one input. -/
def burstAllWrong : ChangeSpec := { name := "burstAll", fn := fun _ => fun
  | [d] => { results := [.lit (.bool false)], args := [d] }
  | _ => none }
def BurstAllWrongFalsely : Prop := burstAllRow.holds Try.pinned (OpenSpec.ofChange burstAllWrong)

/-- 'girandolelaw18.BurstForgets': WHATEVER THE INPUT: true; the input reads as it did. -/
def burstForgetsSpec : ChangeSpec := { name := "burstForgets", fn := fun _ => fun
  | [d1, d2] => { results := [.lit (.bool true)], args := [d1, d2] }
  | _ => none }
def burstForgetsRow : OpenClaim := { program := "ytbeppdhmgblknaa", sum := "0d5567b0b212c6b9cb551ad53e492b541d0e0fb775d01620f4ab410c7acb5034", func := "girandole/girandolelaw18.BurstForgets", spec := "burstForgets", apart := false }
def BurstForgetsSaid : Prop := burstForgetsRow.holds Try.pinned (OpenSpec.ofChange burstForgetsSpec)

/-- ITS FALSE NEIGHBOUR: 'it returns false'. Refute it at one input. -/
def burstForgetsWrong : ChangeSpec := { name := "burstForgets", fn := fun _ => fun
  | [d1, d2] => { results := [.lit (.bool false)], args := [d1, d2] }
  | _ => none }
def BurstForgetsWrongFalsely : Prop := burstForgetsRow.holds Try.pinned (OpenSpec.ofChange burstForgetsWrong)

/-- 'girandolelaw18.BurstForms': WHATEVER THE INPUT: true; the input reads as it did. -/
def burstFormsSpec : ChangeSpec := { name := "burstForms", fn := fun _ => fun
  | [] => { results := [.lit (.bool true)], args := [] }
  | _ => none }
def burstFormsRow : OpenClaim := { program := "ytbeppdhmgblknaa", sum := "0d5567b0b212c6b9cb551ad53e492b541d0e0fb775d01620f4ab410c7acb5034", func := "girandole/girandolelaw18.BurstForms", spec := "burstForms", apart := false }
def BurstFormsSaid : Prop := burstFormsRow.holds Try.pinned (OpenSpec.ofChange burstFormsSpec)

/-- ITS FALSE NEIGHBOUR: 'it returns false'. Refute it at one input. -/
def burstFormsWrong : ChangeSpec := { name := "burstForms", fn := fun _ => fun
  | [] => { results := [.lit (.bool false)], args := [] }
  | _ => none }
def BurstFormsWrongFalsely : Prop := burstFormsRow.holds Try.pinned (OpenSpec.ofChange burstFormsWrong)

/- THE SECOND FORM. 'bulk': how many values and letters a reading holds, each counted each time it is reached (what is shared counts as often as it is met; a slice's spare places count too). A statement '..UptoSaid' is the law's where the arguments, and the package variables that the reading takes, are together of bulk at most 1048576: NARROWER than '..Said'. Prove '..Said' where nothing that the law and all that it calls make is longer than what came in: it says more and counts as full. Else prove '..UptoSaid'. A law counts once. -/
mutual
def uptoBulk {H : Type} : DataW H → Nat
  | .lit (.string bytes) => bytes.length + 1
  | .lit _ => 1
  | .nil => 1
  | .ptr d => uptoBulk d + 1
  | .slice elems spare => uptoBulkAll elems + uptoBulkAll spare + 1
  | .agg parts => uptoBulkAll parts + 1
  | .iface _ d => uptoBulk d + 1
  | .map entries => uptoBulkEntries entries + 1
  | .held _ => 1
def uptoBulkAll {H : Type} : List (DataW H) → Nat
  | [] => 0
  | d :: r => uptoBulk d + uptoBulkAll r
def uptoBulkEntries {H : Type} : List (Lit × DataW H) → Nat
  | [] => 0
  | x :: r => uptoBulkEntry x + uptoBulkEntries r
def uptoBulkEntry {H : Type} : Lit × DataW H → Nat
  | (.string bytes, d) => bytes.length + uptoBulk d + 1
  | (_, d) => uptoBulk d + 1
 end
def uptoSmall : (H : Type) → List (DataW H) → Bool := fun _ ds => decide (uptoBulkAll ds ≤ 1048576)
def OpenSpec.upto (s : _root_.Go.ChangeSpec) : _root_.Go.OpenSpec := { _root_.Go.OpenSpec.ofChange s with cond := some uptoSmall }

/-- 'girandolelaw18.BurstAll', WHERE WHAT IT READS IS OF BULK AT MOST 1048576: true; the input reads as it did. -/
def burstAllUptoRow : OpenClaim := { program := "ytbeppdhmgblknaa", sum := "0d5567b0b212c6b9cb551ad53e492b541d0e0fb775d01620f4ab410c7acb5034", func := "girandole/girandolelaw18.BurstAll", spec := "burstAll", apart := false, narrowed := true }
def BurstAllUptoSaid : Prop := burstAllUptoRow.holds Try.pinned (OpenSpec.upto burstAllSpec)

/-- 'girandolelaw18.BurstForgets', WHERE WHAT IT READS IS OF BULK AT MOST 1048576: true; the input reads as it did. -/
def burstForgetsUptoRow : OpenClaim := { program := "ytbeppdhmgblknaa", sum := "0d5567b0b212c6b9cb551ad53e492b541d0e0fb775d01620f4ab410c7acb5034", func := "girandole/girandolelaw18.BurstForgets", spec := "burstForgets", apart := false, narrowed := true }
def BurstForgetsUptoSaid : Prop := burstForgetsUptoRow.holds Try.pinned (OpenSpec.upto burstForgetsSpec)

/-- 'girandolelaw18.BurstForms', WHERE WHAT IT READS IS OF BULK AT MOST 1048576: true; the input reads as it did. -/
def burstFormsUptoRow : OpenClaim := { program := "ytbeppdhmgblknaa", sum := "0d5567b0b212c6b9cb551ad53e492b541d0e0fb775d01620f4ab410c7acb5034", func := "girandole/girandolelaw18.BurstForms", spec := "burstForms", apart := false, narrowed := true }
def BurstFormsUptoSaid : Prop := burstFormsUptoRow.holds Try.pinned (OpenSpec.upto burstFormsSpec)

end Rows
end Go.Proofs.Ytbeppdhmgblknaa
