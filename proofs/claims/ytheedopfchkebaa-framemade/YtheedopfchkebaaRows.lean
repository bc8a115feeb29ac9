/-
  No cell of these rows narrows 'for every input' (looked for: loops, veiled, ifaces, maps, wideKeys, modest, calm, conditions, laid).
  DERIVED. THE GIVEN ROWS OF THIS SEAT. 5 by the template 'for every input the law returns true; each argument reads behind the call as it read before'; 0 by the template 'total and deterministic' (their statements: YtheedopfchkebaaTotals.lean).
  GIVEN WITH THE SEED: the statements are not yours to turn. If you find one false, say at which input.
  Laid BY PROGRAM, IN A SANDBOX (cutbox-rows.mjs): the forced cells as the released guide's own fill.sh prints them over the translation cbb65eaca20b0862… (all of the seat's roots in one cut). By AI agents, Wed Nov 11 2026. No macro, syntax, notation, axiom, sorry.
-/
import Derived.Test.YtheedopfchkebaaChecked
import GoSem.Claim
import GoSem.ClaimJoined
import GoSem.ClaimMapViews
import Derived.JoinedTies
import Derived.KernelRfl
namespace Go.Proofs.Ytheedopfchkebaa
/- THE CELL 'sum', in the pinned program and in every row, IS THE sha256 OF THE DUMP (.gsa) THAT YtheedopfchkebaaProg.lean LOADS. Nothing in Lean hashes anything: it is a label: what it is worth is what the hold of that sum in a sandbox is worth. -/
noncomputable def Try.pinned : Pinned := { name := "ytheedopfchkebaa", sum := "cbb65eaca20b086229ddd01d55d99012fd20df9645b1db107c35d38a06084691", checked := Try.checked }
namespace Rows
def none {H : Type} : Left H := { results := [], args := [] }

/-- 'girandolelaw12.FrameAll': WHATEVER THE INPUT: true; the input reads as it did. -/
def frameAllSpec : ChangeSpec := { name := "frameAll", fn := fun _ => fun
  | [d1, d2, d3, d4] => { results := [.lit (.bool true)], args := [d1, d2, d3, d4] }
  | _ => none }
def frameAllRow : OpenClaim := { program := "ytheedopfchkebaa", sum := "cbb65eaca20b086229ddd01d55d99012fd20df9645b1db107c35d38a06084691", func := "girandole/girandolelaw12.FrameAll", spec := "frameAll", unfollowed := true, recurses := true, apart := false }
def FrameAllSaid : Prop := frameAllRow.holds Try.pinned (OpenSpec.ofChange frameAllSpec)

/-- ITS FALSE NEIGHBOUR: 'it returns false'. Refute it at one input. -/
def frameAllWrong : ChangeSpec := { name := "frameAll", fn := fun _ => fun
  | [d1, d2, d3, d4] => { results := [.lit (.bool false)], args := [d1, d2, d3, d4] }
  | _ => none }
def FrameAllWrongFalsely : Prop := frameAllRow.holds Try.pinned (OpenSpec.ofChange frameAllWrong)

/-- 'girandolelaw12.FrameMade': WHATEVER THE INPUT: true; the input reads as it did. -/
def frameMadeSpec : ChangeSpec := { name := "frameMade", fn := fun _ => fun
  | [d1, d2, d3, d4] => { results := [.lit (.bool true)], args := [d1, d2, d3, d4] }
  | _ => none }
def frameMadeRow : OpenClaim := { program := "ytheedopfchkebaa", sum := "cbb65eaca20b086229ddd01d55d99012fd20df9645b1db107c35d38a06084691", func := "girandole/girandolelaw12.FrameMade", spec := "frameMade", unfollowed := true, recurses := true, apart := false }
def FrameMadeSaid : Prop := frameMadeRow.holds Try.pinned (OpenSpec.ofChange frameMadeSpec)

/-- ITS FALSE NEIGHBOUR: 'it returns false'. Refute it at one input. -/
def frameMadeWrong : ChangeSpec := { name := "frameMade", fn := fun _ => fun
  | [d1, d2, d3, d4] => { results := [.lit (.bool false)], args := [d1, d2, d3, d4] }
  | _ => none }
def FrameMadeWrongFalsely : Prop := frameMadeRow.holds Try.pinned (OpenSpec.ofChange frameMadeWrong)

/-- 'girandolelaw12.FrameEarlier': WHATEVER THE INPUT: true; the input reads as it did. -/
def frameEarlierSpec : ChangeSpec := { name := "frameEarlier", fn := fun _ => fun
  | [d1, d2] => { results := [.lit (.bool true)], args := [d1, d2] }
  | _ => none }
def frameEarlierRow : OpenClaim := { program := "ytheedopfchkebaa", sum := "cbb65eaca20b086229ddd01d55d99012fd20df9645b1db107c35d38a06084691", func := "girandole/girandolelaw12.FrameEarlier", spec := "frameEarlier", unfollowed := true, recurses := true, apart := false }
def FrameEarlierSaid : Prop := frameEarlierRow.holds Try.pinned (OpenSpec.ofChange frameEarlierSpec)

/-- ITS FALSE NEIGHBOUR: 'it returns false'. Refute it at one input. -/
def frameEarlierWrong : ChangeSpec := { name := "frameEarlier", fn := fun _ => fun
  | [d1, d2] => { results := [.lit (.bool false)], args := [d1, d2] }
  | _ => none }
def FrameEarlierWrongFalsely : Prop := frameEarlierRow.holds Try.pinned (OpenSpec.ofChange frameEarlierWrong)

/-- 'girandolelaw12.FrameForms': WHATEVER THE INPUT: true; the input reads as it did. -/
def frameFormsSpec : ChangeSpec := { name := "frameForms", fn := fun _ => fun
  | [] => { results := [.lit (.bool true)], args := [] }
  | _ => none }
def frameFormsRow : OpenClaim := { program := "ytheedopfchkebaa", sum := "cbb65eaca20b086229ddd01d55d99012fd20df9645b1db107c35d38a06084691", func := "girandole/girandolelaw12.FrameForms", spec := "frameForms", unfollowed := true, recurses := true, apart := false }
def FrameFormsSaid : Prop := frameFormsRow.holds Try.pinned (OpenSpec.ofChange frameFormsSpec)

/-- ITS FALSE NEIGHBOUR: 'it returns false'. Refute it at one input. -/
def frameFormsWrong : ChangeSpec := { name := "frameForms", fn := fun _ => fun
  | [] => { results := [.lit (.bool false)], args := [] }
  | _ => none }
def FrameFormsWrongFalsely : Prop := frameFormsRow.holds Try.pinned (OpenSpec.ofChange frameFormsWrong)

/-- 'girandolelaw12.FrameClocks': WHATEVER THE INPUT: true; the input reads as it did. -/
def frameClocksSpec : ChangeSpec := { name := "frameClocks", fn := fun _ => fun
  | [d1, d2] => { results := [.lit (.bool true)], args := [d1, d2] }
  | _ => none }
def frameClocksRow : OpenClaim := { program := "ytheedopfchkebaa", sum := "cbb65eaca20b086229ddd01d55d99012fd20df9645b1db107c35d38a06084691", func := "girandole/girandolelaw12.FrameClocks", spec := "frameClocks", unfollowed := true, recurses := true, apart := false }
def FrameClocksSaid : Prop := frameClocksRow.holds Try.pinned (OpenSpec.ofChange frameClocksSpec)

/-- ITS FALSE NEIGHBOUR: 'it returns false'. Refute it at one input. -/
def frameClocksWrong : ChangeSpec := { name := "frameClocks", fn := fun _ => fun
  | [d1, d2] => { results := [.lit (.bool false)], args := [d1, d2] }
  | _ => none }
def FrameClocksWrongFalsely : Prop := frameClocksRow.holds Try.pinned (OpenSpec.ofChange frameClocksWrong)

/- THE SECOND FORM. 'bulk': how many values and letters a reading holds, each counted each time it is reached (what is shared counts as often as it is met; a slice's spare places count too). A statement '..UptoSaid' is the law's where the arguments, and the package variables that the reading takes, are together of bulk at most 1048576: NARROWER than '..Said'. Prove '..Said' where nothing that the law and all that it calls make is longer than what came in: it says more and counts as full. Else prove '..UptoSaid'. A law counts once. -/
mutual
def uptoBulk {H : Type} : DataW H → Nat
  | .lit (.string bytes) => bytes.length + 1
  | .lit _ => 1
  | .nil => 1
  | .ptr d => uptoBulk d + 1
  | .slice elems spare => uptoBulkAll elems + uptoBulkAll spare + 1
  | .agg parts => uptoBulkAll parts + 1
  | .iface _ d => uptoBulk d + 1
  | .map entries => uptoBulkEntries entries + 1
  | .held _ => 1
def uptoBulkAll {H : Type} : List (DataW H) → Nat
  | [] => 0
  | d :: r => uptoBulk d + uptoBulkAll r
def uptoBulkEntries {H : Type} : List (Lit × DataW H) → Nat
  | [] => 0
  | x :: r => uptoBulkEntry x + uptoBulkEntries r
def uptoBulkEntry {H : Type} : Lit × DataW H → Nat
  | (.string bytes, d) => bytes.length + uptoBulk d + 1
  | (_, d) => uptoBulk d + 1
 end
def uptoSmall : (H : Type) → List (DataW H) → Bool := fun _ ds => decide (uptoBulkAll ds ≤ 1048576)
def OpenSpec.upto (s : _root_.Go.ChangeSpec) : _root_.Go.OpenSpec := { _root_.Go.OpenSpec.ofChange s with cond := some uptoSmall }

/-- 'girandolelaw12.FrameAll', WHERE WHAT IT READS IS OF BULK AT MOST 1048576: true; the input reads as it did. -/
def frameAllUptoRow : OpenClaim := { program := "ytheedopfchkebaa", sum := "cbb65eaca20b086229ddd01d55d99012fd20df9645b1db107c35d38a06084691", func := "girandole/girandolelaw12.FrameAll", spec := "frameAll", unfollowed := true, recurses := true, apart := false, narrowed := true }
def FrameAllUptoSaid : Prop := frameAllUptoRow.holds Try.pinned (OpenSpec.upto frameAllSpec)

/-- 'girandolelaw12.FrameMade', WHERE WHAT IT READS IS OF BULK AT MOST 1048576: true; the input reads as it did. -/
def frameMadeUptoRow : OpenClaim := { program := "ytheedopfchkebaa", sum := "cbb65eaca20b086229ddd01d55d99012fd20df9645b1db107c35d38a06084691", func := "girandole/girandolelaw12.FrameMade", spec := "frameMade", unfollowed := true, recurses := true, apart := false, narrowed := true }
def FrameMadeUptoSaid : Prop := frameMadeUptoRow.holds Try.pinned (OpenSpec.upto frameMadeSpec)

/-- 'girandolelaw12.FrameEarlier', WHERE WHAT IT READS IS OF BULK AT MOST 1048576: true; the input reads as it did. -/
def frameEarlierUptoRow : OpenClaim := { program := "ytheedopfchkebaa", sum := "cbb65eaca20b086229ddd01d55d99012fd20df9645b1db107c35d38a06084691", func := "girandole/girandolelaw12.FrameEarlier", spec := "frameEarlier", unfollowed := true, recurses := true, apart := false, narrowed := true }
def FrameEarlierUptoSaid : Prop := frameEarlierUptoRow.holds Try.pinned (OpenSpec.upto frameEarlierSpec)

/-- 'girandolelaw12.FrameForms', WHERE WHAT IT READS IS OF BULK AT MOST 1048576: true; the input reads as it did. -/
def frameFormsUptoRow : OpenClaim := { program := "ytheedopfchkebaa", sum := "cbb65eaca20b086229ddd01d55d99012fd20df9645b1db107c35d38a06084691", func := "girandole/girandolelaw12.FrameForms", spec := "frameForms", unfollowed := true, recurses := true, apart := false, narrowed := true }
def FrameFormsUptoSaid : Prop := frameFormsUptoRow.holds Try.pinned (OpenSpec.upto frameFormsSpec)

/-- 'girandolelaw12.FrameClocks', WHERE WHAT IT READS IS OF BULK AT MOST 1048576: true; the input reads as it did. -/
def frameClocksUptoRow : OpenClaim := { program := "ytheedopfchkebaa", sum := "cbb65eaca20b086229ddd01d55d99012fd20df9645b1db107c35d38a06084691", func := "girandole/girandolelaw12.FrameClocks", spec := "frameClocks", unfollowed := true, recurses := true, apart := false, narrowed := true }
def FrameClocksUptoSaid : Prop := frameClocksUptoRow.holds Try.pinned (OpenSpec.upto frameClocksSpec)

end Rows
end Go.Proofs.Ytheedopfchkebaa
