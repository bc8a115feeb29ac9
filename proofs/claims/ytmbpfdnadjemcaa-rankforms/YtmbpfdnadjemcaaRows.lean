/-
  No cell of these rows narrows 'for every input' (looked for: loops, veiled, ifaces, maps, wideKeys, modest, calm, conditions, laid).
  DERIVED. THE GIVEN ROWS OF THIS SEAT. 5 by the template 'for every input the law returns true; each argument reads behind the call as it read before'; 0 by the template 'total and deterministic' (their statements: YtmbpfdnadjemcaaTotals.lean).
  GIVEN WITH THE SEED: the statements are not yours to turn. If you find one false, say at which input.
  Laid BY PROGRAM, IN A SANDBOX (cutbox-rows.mjs): the forced cells as the released guide's own fill.sh prints them over the translation e5a89110204e0e70… (all of the seat's roots in one cut). By AI agents, Wed Nov 11 2026. No macro, syntax, notation, axiom, sorry.
-/
import Derived.Test.YtmbpfdnadjemcaaChecked
import GoSem.Claim
import GoSem.ClaimJoined
import GoSem.ClaimMapViews
import Derived.JoinedTies
import Derived.KernelRfl
namespace Go.Proofs.Ytmbpfdnadjemcaa
/- THE CELL 'sum', in the pinned program and in every row, IS THE sha256 OF THE DUMP (.gsa) THAT YtmbpfdnadjemcaaProg.lean LOADS. Nothing in Lean hashes anything: it is a label: what it is worth is what the hold of that sum in a sandbox is worth. -/
noncomputable def Try.pinned : Pinned := { name := "ytmbpfdnadjemcaa", sum := "e5a89110204e0e7059e537715c386e7807fdba63bdc461259f39eda45beb4045", checked := Try.checked }
namespace Rows
def none {H : Type} : Left H := { results := [], args := [] }

/-- 'girandolelaw12.FrameEarlier': WHATEVER THE INPUT: true; the input reads as it did. -/
def frameEarlierSpec : ChangeSpec := { name := "frameEarlier", fn := fun _ => fun
  | [d1, d2] => { results := [.lit (.bool true)], args := [d1, d2] }
  | _ => none }
def frameEarlierRow : OpenClaim := { program := "ytmbpfdnadjemcaa", sum := "e5a89110204e0e7059e537715c386e7807fdba63bdc461259f39eda45beb4045", func := "girandole/girandolelaw12.FrameEarlier", spec := "frameEarlier", unfollowed := true, recurses := true, apart := false }
def FrameEarlierSaid : Prop := frameEarlierRow.holds Try.pinned (OpenSpec.ofChange frameEarlierSpec)

/-- ITS FALSE NEIGHBOUR: 'it returns false'. Refute it at one input. -/
def frameEarlierWrong : ChangeSpec := { name := "frameEarlier", fn := fun _ => fun
  | [d1, d2] => { results := [.lit (.bool false)], args := [d1, d2] }
  | _ => none }
def FrameEarlierWrongFalsely : Prop := frameEarlierRow.holds Try.pinned (OpenSpec.ofChange frameEarlierWrong)

/-- 'girandolelaw13.RankAll': WHATEVER THE INPUT: true; the input reads as it did. -/
def rankAllSpec : ChangeSpec := { name := "rankAll", fn := fun _ => fun
  | [d1, d2, d3, d4] => { results := [.lit (.bool true)], args := [d1, d2, d3, d4] }
  | _ => none }
def rankAllRow : OpenClaim := { program := "ytmbpfdnadjemcaa", sum := "e5a89110204e0e7059e537715c386e7807fdba63bdc461259f39eda45beb4045", func := "girandole/girandolelaw13.RankAll", spec := "rankAll", unfollowed := true, recurses := true, apart := false }
def RankAllSaid : Prop := rankAllRow.holds Try.pinned (OpenSpec.ofChange rankAllSpec)

/-- ITS FALSE NEIGHBOUR: 'it returns false'. Refute it at one input. -/
def rankAllWrong : ChangeSpec := { name := "rankAll", fn := fun _ => fun
  | [d1, d2, d3, d4] => { results := [.lit (.bool false)], args := [d1, d2, d3, d4] }
  | _ => none }
def RankAllWrongFalsely : Prop := rankAllRow.holds Try.pinned (OpenSpec.ofChange rankAllWrong)

/-- 'girandolelaw13.RankMade': WHATEVER THE INPUT: true; the input reads as it did. -/
def rankMadeSpec : ChangeSpec := { name := "rankMade", fn := fun _ => fun
  | [d] => { results := [.lit (.bool true)], args := [d] }
  | _ => none }
def rankMadeRow : OpenClaim := { program := "ytmbpfdnadjemcaa", sum := "e5a89110204e0e7059e537715c386e7807fdba63bdc461259f39eda45beb4045", func := "girandole/girandolelaw13.RankMade", spec := "rankMade", unfollowed := true, recurses := true, apart := false }
def RankMadeSaid : Prop := rankMadeRow.holds Try.pinned (OpenSpec.ofChange rankMadeSpec)

/-- ITS FALSE NEIGHBOUR: 'it returns false'. Refute it at one input. -/
def rankMadeWrong : ChangeSpec := { name := "rankMade", fn := fun _ => fun
  | [d] => { results := [.lit (.bool false)], args := [d] }
  | _ => none }
def RankMadeWrongFalsely : Prop := rankMadeRow.holds Try.pinned (OpenSpec.ofChange rankMadeWrong)

/-- 'girandolelaw13.RankOrder': WHATEVER THE INPUT: true; the input reads as it did. -/
def rankOrderSpec : ChangeSpec := { name := "rankOrder", fn := fun _ => fun
  | [d1, d2, d3] => { results := [.lit (.bool true)], args := [d1, d2, d3] }
  | _ => none }
def rankOrderRow : OpenClaim := { program := "ytmbpfdnadjemcaa", sum := "e5a89110204e0e7059e537715c386e7807fdba63bdc461259f39eda45beb4045", func := "girandole/girandolelaw13.RankOrder", spec := "rankOrder", unfollowed := true, recurses := true, apart := false }
def RankOrderSaid : Prop := rankOrderRow.holds Try.pinned (OpenSpec.ofChange rankOrderSpec)

/-- ITS FALSE NEIGHBOUR: 'it returns false'. Refute it at one input. -/
def rankOrderWrong : ChangeSpec := { name := "rankOrder", fn := fun _ => fun
  | [d1, d2, d3] => { results := [.lit (.bool false)], args := [d1, d2, d3] }
  | _ => none }
def RankOrderWrongFalsely : Prop := rankOrderRow.holds Try.pinned (OpenSpec.ofChange rankOrderWrong)

/-- 'girandolelaw13.RankForms': WHATEVER THE INPUT: true; the input reads as it did. -/
def rankFormsSpec : ChangeSpec := { name := "rankForms", fn := fun _ => fun
  | [] => { results := [.lit (.bool true)], args := [] }
  | _ => none }
def rankFormsRow : OpenClaim := { program := "ytmbpfdnadjemcaa", sum := "e5a89110204e0e7059e537715c386e7807fdba63bdc461259f39eda45beb4045", func := "girandole/girandolelaw13.RankForms", spec := "rankForms", unfollowed := true, recurses := true, apart := false }
def RankFormsSaid : Prop := rankFormsRow.holds Try.pinned (OpenSpec.ofChange rankFormsSpec)

/-- ITS FALSE NEIGHBOUR: 'it returns false'. Refute it at one input. -/
def rankFormsWrong : ChangeSpec := { name := "rankForms", fn := fun _ => fun
  | [] => { results := [.lit (.bool false)], args := [] }
  | _ => none }
def RankFormsWrongFalsely : Prop := rankFormsRow.holds Try.pinned (OpenSpec.ofChange rankFormsWrong)

/- THE SECOND FORM. 'bulk': how many values and letters a reading holds, each counted each time it is reached (what is shared counts as often as it is met; a slice's spare places count too). A statement '..UptoSaid' is the law's where the arguments, and the package variables that the reading takes, are together of bulk at most 1048576: NARROWER than '..Said'. Prove '..Said' where nothing that the law and all that it calls make is longer than what came in: it says more and counts as full. Else prove '..UptoSaid'. A law counts once. -/
mutual
def uptoBulk {H : Type} : DataW H → Nat
  | .lit (.string bytes) => bytes.length + 1
  | .lit _ => 1
  | .nil => 1
  | .ptr d => uptoBulk d + 1
  | .slice elems spare => uptoBulkAll elems + uptoBulkAll spare + 1
  | .agg parts => uptoBulkAll parts + 1
  | .iface _ d => uptoBulk d + 1
  | .map entries => uptoBulkEntries entries + 1
  | .held _ => 1
def uptoBulkAll {H : Type} : List (DataW H) → Nat
  | [] => 0
  | d :: r => uptoBulk d + uptoBulkAll r
def uptoBulkEntries {H : Type} : List (Lit × DataW H) → Nat
  | [] => 0
  | x :: r => uptoBulkEntry x + uptoBulkEntries r
def uptoBulkEntry {H : Type} : Lit × DataW H → Nat
  | (.string bytes, d) => bytes.length + uptoBulk d + 1
  | (_, d) => uptoBulk d + 1
 end
def uptoSmall : (H : Type) → List (DataW H) → Bool := fun _ ds => decide (uptoBulkAll ds ≤ 1048576)
def OpenSpec.upto (s : _root_.Go.ChangeSpec) : _root_.Go.OpenSpec := { _root_.Go.OpenSpec.ofChange s with cond := some uptoSmall }

/-- 'girandolelaw12.FrameEarlier', WHERE WHAT IT READS IS OF BULK AT MOST 1048576: true; the input reads as it did. -/
def frameEarlierUptoRow : OpenClaim := { program := "ytmbpfdnadjemcaa", sum := "e5a89110204e0e7059e537715c386e7807fdba63bdc461259f39eda45beb4045", func := "girandole/girandolelaw12.FrameEarlier", spec := "frameEarlier", unfollowed := true, recurses := true, apart := false, narrowed := true }
def FrameEarlierUptoSaid : Prop := frameEarlierUptoRow.holds Try.pinned (OpenSpec.upto frameEarlierSpec)

/-- 'girandolelaw13.RankAll', WHERE WHAT IT READS IS OF BULK AT MOST 1048576: true; the input reads as it did. -/
def rankAllUptoRow : OpenClaim := { program := "ytmbpfdnadjemcaa", sum := "e5a89110204e0e7059e537715c386e7807fdba63bdc461259f39eda45beb4045", func := "girandole/girandolelaw13.RankAll", spec := "rankAll", unfollowed := true, recurses := true, apart := false, narrowed := true }
def RankAllUptoSaid : Prop := rankAllUptoRow.holds Try.pinned (OpenSpec.upto rankAllSpec)

/-- 'girandolelaw13.RankMade', WHERE WHAT IT READS IS OF BULK AT MOST 1048576: true; the input reads as it did. -/
def rankMadeUptoRow : OpenClaim := { program := "ytmbpfdnadjemcaa", sum := "e5a89110204e0e7059e537715c386e7807fdba63bdc461259f39eda45beb4045", func := "girandole/girandolelaw13.RankMade", spec := "rankMade", unfollowed := true, recurses := true, apart := false, narrowed := true }
def RankMadeUptoSaid : Prop := rankMadeUptoRow.holds Try.pinned (OpenSpec.upto rankMadeSpec)

/-- 'girandolelaw13.RankOrder', WHERE WHAT IT READS IS OF BULK AT MOST 1048576: true; the input reads as it did. -/
def rankOrderUptoRow : OpenClaim := { program := "ytmbpfdnadjemcaa", sum := "e5a89110204e0e7059e537715c386e7807fdba63bdc461259f39eda45beb4045", func := "girandole/girandolelaw13.RankOrder", spec := "rankOrder", unfollowed := true, recurses := true, apart := false, narrowed := true }
def RankOrderUptoSaid : Prop := rankOrderUptoRow.holds Try.pinned (OpenSpec.upto rankOrderSpec)

/-- 'girandolelaw13.RankForms', WHERE WHAT IT READS IS OF BULK AT MOST 1048576: true; the input reads as it did. -/
def rankFormsUptoRow : OpenClaim := { program := "ytmbpfdnadjemcaa", sum := "e5a89110204e0e7059e537715c386e7807fdba63bdc461259f39eda45beb4045", func := "girandole/girandolelaw13.RankForms", spec := "rankForms", unfollowed := true, recurses := true, apart := false, narrowed := true }
def RankFormsUptoSaid : Prop := rankFormsUptoRow.holds Try.pinned (OpenSpec.upto rankFormsSpec)

end Rows
end Go.Proofs.Ytmbpfdnadjemcaa
