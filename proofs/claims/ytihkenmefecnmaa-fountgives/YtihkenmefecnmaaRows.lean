/-
  No cell of these rows narrows 'for every input' (looked for: loops, veiled, ifaces, maps, wideKeys, modest, calm, conditions, laid).
  DERIVED. THE GIVEN ROWS OF THIS SEAT. 4 by the template 'for every input the law returns true; each argument reads behind the call as it read before'; 0 by the template 'total and deterministic' (their statements: YtihkenmefecnmaaTotals.lean).
  GIVEN WITH THE SEED: the statements are not yours to turn. If you find one false, say at which input.
  Laid BY PROGRAM, IN A SANDBOX (cutbox-rows.mjs): the forced cells as the released guide's own fill.sh prints them over the translation 1539906a775e7b5c… (all of the seat's roots in one cut). By AI agents, Wed Nov 11 2026. No macro, syntax, notation, axiom, sorry.
-/
import Derived.Test.YtihkenmefecnmaaChecked
import GoSem.Claim
import GoSem.ClaimJoined
import GoSem.ClaimMapViews
import Derived.JoinedTies
import Derived.KernelRfl
namespace Go.Proofs.Ytihkenmefecnmaa
/- THE CELL 'sum', in the pinned program and in every row, IS THE sha256 OF THE DUMP (.gsa) THAT YtihkenmefecnmaaProg.lean LOADS. Nothing in Lean hashes anything: it is a label: what it is worth is what the hold of that sum in a sandbox is worth. -/
noncomputable def Try.pinned : Pinned := { name := "ytihkenmefecnmaa", sum := "1539906a775e7b5c90ab80a4552466dc9ce52fc88e6712b7d8952bb1f2f65d82", checked := Try.checked }
namespace Rows
def none {H : Type} : Left H := { results := [], args := [] }

/-- 'girandolelaw5.FountAll': WHATEVER THE INPUT: true; the input reads as it did. -/
def fountAllSpec : ChangeSpec := { name := "fountAll", fn := fun _ => fun
  | [d1, d2, d3, d4] => { results := [.lit (.bool true)], args := [d1, d2, d3, d4] }
  | _ => none }
def fountAllRow : OpenClaim := { program := "ytihkenmefecnmaa", sum := "1539906a775e7b5c90ab80a4552466dc9ce52fc88e6712b7d8952bb1f2f65d82", func := "girandole/girandolelaw5.FountAll", spec := "fountAll", unfollowed := true, recurses := true, apart := false }
def FountAllSaid : Prop := fountAllRow.holds Try.pinned (OpenSpec.ofChange fountAllSpec)

/-- ITS FALSE NEIGHBOUR: 'it returns false'. Refute it at one input. -/
def fountAllWrong : ChangeSpec := { name := "fountAll", fn := fun _ => fun
  | [d1, d2, d3, d4] => { results := [.lit (.bool false)], args := [d1, d2, d3, d4] }
  | _ => none }
def FountAllWrongFalsely : Prop := fountAllRow.holds Try.pinned (OpenSpec.ofChange fountAllWrong)

/-- 'girandolelaw5.FountFirst': WHATEVER THE INPUT: true; the input reads as it did. -/
def fountFirstSpec : ChangeSpec := { name := "fountFirst", fn := fun _ => fun
  | [d1, d2, d3] => { results := [.lit (.bool true)], args := [d1, d2, d3] }
  | _ => none }
def fountFirstRow : OpenClaim := { program := "ytihkenmefecnmaa", sum := "1539906a775e7b5c90ab80a4552466dc9ce52fc88e6712b7d8952bb1f2f65d82", func := "girandole/girandolelaw5.FountFirst", spec := "fountFirst", unfollowed := true, recurses := true, apart := false }
def FountFirstSaid : Prop := fountFirstRow.holds Try.pinned (OpenSpec.ofChange fountFirstSpec)

/-- ITS FALSE NEIGHBOUR: 'it returns false'. Refute it at one input. -/
def fountFirstWrong : ChangeSpec := { name := "fountFirst", fn := fun _ => fun
  | [d1, d2, d3] => { results := [.lit (.bool false)], args := [d1, d2, d3] }
  | _ => none }
def FountFirstWrongFalsely : Prop := fountFirstRow.holds Try.pinned (OpenSpec.ofChange fountFirstWrong)

/-- 'girandolelaw5.FountSums': WHATEVER THE INPUT: true; the input reads as it did. -/
def fountSumsSpec : ChangeSpec := { name := "fountSums", fn := fun _ => fun
  | [d1, d2, d3, d4] => { results := [.lit (.bool true)], args := [d1, d2, d3, d4] }
  | _ => none }
def fountSumsRow : OpenClaim := { program := "ytihkenmefecnmaa", sum := "1539906a775e7b5c90ab80a4552466dc9ce52fc88e6712b7d8952bb1f2f65d82", func := "girandole/girandolelaw5.FountSums", spec := "fountSums", unfollowed := true, recurses := true, apart := false }
def FountSumsSaid : Prop := fountSumsRow.holds Try.pinned (OpenSpec.ofChange fountSumsSpec)

/-- ITS FALSE NEIGHBOUR: 'it returns false'. Refute it at one input. -/
def fountSumsWrong : ChangeSpec := { name := "fountSums", fn := fun _ => fun
  | [d1, d2, d3, d4] => { results := [.lit (.bool false)], args := [d1, d2, d3, d4] }
  | _ => none }
def FountSumsWrongFalsely : Prop := fountSumsRow.holds Try.pinned (OpenSpec.ofChange fountSumsWrong)

/-- 'girandolelaw5.FountGives': WHATEVER THE INPUT: true; the input reads as it did. -/
def fountGivesSpec : ChangeSpec := { name := "fountGives", fn := fun _ => fun
  | [d1, d2, d3] => { results := [.lit (.bool true)], args := [d1, d2, d3] }
  | _ => none }
def fountGivesRow : OpenClaim := { program := "ytihkenmefecnmaa", sum := "1539906a775e7b5c90ab80a4552466dc9ce52fc88e6712b7d8952bb1f2f65d82", func := "girandole/girandolelaw5.FountGives", spec := "fountGives", unfollowed := true, recurses := true, apart := false }
def FountGivesSaid : Prop := fountGivesRow.holds Try.pinned (OpenSpec.ofChange fountGivesSpec)

/-- ITS FALSE NEIGHBOUR: 'it returns false'. Refute it at one input. -/
def fountGivesWrong : ChangeSpec := { name := "fountGives", fn := fun _ => fun
  | [d1, d2, d3] => { results := [.lit (.bool false)], args := [d1, d2, d3] }
  | _ => none }
def FountGivesWrongFalsely : Prop := fountGivesRow.holds Try.pinned (OpenSpec.ofChange fountGivesWrong)

/- THE SECOND FORM. 'bulk': how many values and letters a reading holds, each counted each time it is reached (what is shared counts as often as it is met; a slice's spare places count too). A statement '..UptoSaid' is the law's where the arguments, and the package variables that the reading takes, are together of bulk at most 1048576: NARROWER than '..Said'. Prove '..Said' where nothing that the law and all that it calls make is longer than what came in: it says more and counts as full. Else prove '..UptoSaid'. A law counts once. -/
mutual
def uptoBulk {H : Type} : DataW H → Nat
  | .lit (.string bytes) => bytes.length + 1
  | .lit _ => 1
  | .nil => 1
  | .ptr d => uptoBulk d + 1
  | .slice elems spare => uptoBulkAll elems + uptoBulkAll spare + 1
  | .agg parts => uptoBulkAll parts + 1
  | .iface _ d => uptoBulk d + 1
  | .map entries => uptoBulkEntries entries + 1
  | .held _ => 1
def uptoBulkAll {H : Type} : List (DataW H) → Nat
  | [] => 0
  | d :: r => uptoBulk d + uptoBulkAll r
def uptoBulkEntries {H : Type} : List (Lit × DataW H) → Nat
  | [] => 0
  | x :: r => uptoBulkEntry x + uptoBulkEntries r
def uptoBulkEntry {H : Type} : Lit × DataW H → Nat
  | (.string bytes, d) => bytes.length + uptoBulk d + 1
  | (_, d) => uptoBulk d + 1
 end
def uptoSmall : (H : Type) → List (DataW H) → Bool := fun _ ds => decide (uptoBulkAll ds ≤ 1048576)
def OpenSpec.upto (s : _root_.Go.ChangeSpec) : _root_.Go.OpenSpec := { _root_.Go.OpenSpec.ofChange s with cond := some uptoSmall }

/-- 'girandolelaw5.FountAll', WHERE WHAT IT READS IS OF BULK AT MOST 1048576: true; the input reads as it did. -/
def fountAllUptoRow : OpenClaim := { program := "ytihkenmefecnmaa", sum := "1539906a775e7b5c90ab80a4552466dc9ce52fc88e6712b7d8952bb1f2f65d82", func := "girandole/girandolelaw5.FountAll", spec := "fountAll", unfollowed := true, recurses := true, apart := false, narrowed := true }
def FountAllUptoSaid : Prop := fountAllUptoRow.holds Try.pinned (OpenSpec.upto fountAllSpec)

/-- 'girandolelaw5.FountFirst', WHERE WHAT IT READS IS OF BULK AT MOST 1048576: true; the input reads as it did. -/
def fountFirstUptoRow : OpenClaim := { program := "ytihkenmefecnmaa", sum := "1539906a775e7b5c90ab80a4552466dc9ce52fc88e6712b7d8952bb1f2f65d82", func := "girandole/girandolelaw5.FountFirst", spec := "fountFirst", unfollowed := true, recurses := true, apart := false, narrowed := true }
def FountFirstUptoSaid : Prop := fountFirstUptoRow.holds Try.pinned (OpenSpec.upto fountFirstSpec)

/-- 'girandolelaw5.FountSums', WHERE WHAT IT READS IS OF BULK AT MOST 1048576: true; the input reads as it did. -/
def fountSumsUptoRow : OpenClaim := { program := "ytihkenmefecnmaa", sum := "1539906a775e7b5c90ab80a4552466dc9ce52fc88e6712b7d8952bb1f2f65d82", func := "girandole/girandolelaw5.FountSums", spec := "fountSums", unfollowed := true, recurses := true, apart := false, narrowed := true }
def FountSumsUptoSaid : Prop := fountSumsUptoRow.holds Try.pinned (OpenSpec.upto fountSumsSpec)

/-- 'girandolelaw5.FountGives', WHERE WHAT IT READS IS OF BULK AT MOST 1048576: true; the input reads as it did. -/
def fountGivesUptoRow : OpenClaim := { program := "ytihkenmefecnmaa", sum := "1539906a775e7b5c90ab80a4552466dc9ce52fc88e6712b7d8952bb1f2f65d82", func := "girandole/girandolelaw5.FountGives", spec := "fountGives", unfollowed := true, recurses := true, apart := false, narrowed := true }
def FountGivesUptoSaid : Prop := fountGivesUptoRow.holds Try.pinned (OpenSpec.upto fountGivesSpec)

end Rows
end Go.Proofs.Ytihkenmefecnmaa
