/-
  No cell of these rows narrows 'for every input' (looked for: loops, veiled, ifaces, maps, wideKeys, modest, calm, conditions, laid).
  DERIVED. THE GIVEN ROWS OF THIS SEAT. 4 by the template 'for every input the law returns true; each argument reads behind the call as it read before'; 0 by the template 'total and deterministic' (their statements: YtdlalcbcgdambaaTotals.lean).
  GIVEN WITH THE SEED: the statements are not yours to turn. If you find one false, say at which input.
  Laid BY PROGRAM, IN A SANDBOX (cutbox-rows.mjs): the forced cells as the released guide's own fill.sh prints them over the translation aa799f874f6ed6f0… (all of the seat's roots in one cut). By AI agents, Wed Nov 11 2026. No macro, syntax, notation, axiom, sorry.
-/
import Derived.Test.YtdlalcbcgdambaaChecked
import GoSem.Claim
import GoSem.ClaimJoined
import GoSem.ClaimMapViews
import Derived.JoinedTies
import Derived.KernelRfl
namespace Go.Proofs.Ytdlalcbcgdambaa
/- THE CELL 'sum', in the pinned program and in every row, IS THE sha256 OF THE DUMP (.gsa) THAT YtdlalcbcgdambaaProg.lean LOADS. Nothing in Lean hashes anything: it is a label: what it is worth is what the hold of that sum in a sandbox is worth. -/
noncomputable def Try.pinned : Pinned := { name := "ytdlalcbcgdambaa", sum := "aa799f874f6ed6f03d93be6008e6093ccc30d2a86509b67c40bb92f4d3c05ab6", checked := Try.checked }
namespace Rows
def none {H : Type} : Left H := { results := [], args := [] }

/-- 'girandolelaw3.DiceAll': WHATEVER THE INPUT: true; the input reads as it did. -/
def diceAllSpec : ChangeSpec := { name := "diceAll", fn := fun _ => fun
  | [d1, d2, d3] => { results := [.lit (.bool true)], args := [d1, d2, d3] }
  | _ => none }
def diceAllRow : OpenClaim := { program := "ytdlalcbcgdambaa", sum := "aa799f874f6ed6f03d93be6008e6093ccc30d2a86509b67c40bb92f4d3c05ab6", func := "girandole/girandolelaw3.DiceAll", spec := "diceAll", unfollowed := true, recurses := true, apart := false }
def DiceAllSaid : Prop := diceAllRow.holds Try.pinned (OpenSpec.ofChange diceAllSpec)

/-- ITS FALSE NEIGHBOUR: 'it returns false'. Refute it at one input. -/
def diceAllWrong : ChangeSpec := { name := "diceAll", fn := fun _ => fun
  | [d1, d2, d3] => { results := [.lit (.bool false)], args := [d1, d2, d3] }
  | _ => none }
def DiceAllWrongFalsely : Prop := diceAllRow.holds Try.pinned (OpenSpec.ofChange diceAllWrong)

/-- 'girandolelaw3.DiceRows': WHATEVER THE INPUT: true; the input reads as it did. -/
def diceRowsSpec : ChangeSpec := { name := "diceRows", fn := fun _ => fun
  | [d1, d2] => { results := [.lit (.bool true)], args := [d1, d2] }
  | _ => none }
def diceRowsRow : OpenClaim := { program := "ytdlalcbcgdambaa", sum := "aa799f874f6ed6f03d93be6008e6093ccc30d2a86509b67c40bb92f4d3c05ab6", func := "girandole/girandolelaw3.DiceRows", spec := "diceRows", unfollowed := true, recurses := true, apart := false }
def DiceRowsSaid : Prop := diceRowsRow.holds Try.pinned (OpenSpec.ofChange diceRowsSpec)

/-- ITS FALSE NEIGHBOUR: 'it returns false'. Refute it at one input. -/
def diceRowsWrong : ChangeSpec := { name := "diceRows", fn := fun _ => fun
  | [d1, d2] => { results := [.lit (.bool false)], args := [d1, d2] }
  | _ => none }
def DiceRowsWrongFalsely : Prop := diceRowsRow.holds Try.pinned (OpenSpec.ofChange diceRowsWrong)

/-- 'girandolelaw3.DiceForms': WHATEVER THE INPUT: true; the input reads as it did. -/
def diceFormsSpec : ChangeSpec := { name := "diceForms", fn := fun _ => fun
  | [] => { results := [.lit (.bool true)], args := [] }
  | _ => none }
def diceFormsRow : OpenClaim := { program := "ytdlalcbcgdambaa", sum := "aa799f874f6ed6f03d93be6008e6093ccc30d2a86509b67c40bb92f4d3c05ab6", func := "girandole/girandolelaw3.DiceForms", spec := "diceForms", unfollowed := true, recurses := true, apart := false }
def DiceFormsSaid : Prop := diceFormsRow.holds Try.pinned (OpenSpec.ofChange diceFormsSpec)

/-- ITS FALSE NEIGHBOUR: 'it returns false'. Refute it at one input. -/
def diceFormsWrong : ChangeSpec := { name := "diceForms", fn := fun _ => fun
  | [] => { results := [.lit (.bool false)], args := [] }
  | _ => none }
def DiceFormsWrongFalsely : Prop := diceFormsRow.holds Try.pinned (OpenSpec.ofChange diceFormsWrong)

/-- 'girandolelaw3.DiceFull': WHATEVER THE INPUT: true; the input reads as it did. -/
def diceFullSpec : ChangeSpec := { name := "diceFull", fn := fun _ => fun
  | [d1, d2] => { results := [.lit (.bool true)], args := [d1, d2] }
  | _ => none }
def diceFullRow : OpenClaim := { program := "ytdlalcbcgdambaa", sum := "aa799f874f6ed6f03d93be6008e6093ccc30d2a86509b67c40bb92f4d3c05ab6", func := "girandole/girandolelaw3.DiceFull", spec := "diceFull", unfollowed := true, recurses := true, apart := false }
def DiceFullSaid : Prop := diceFullRow.holds Try.pinned (OpenSpec.ofChange diceFullSpec)

/-- ITS FALSE NEIGHBOUR: 'it returns false'. Refute it at one input. -/
def diceFullWrong : ChangeSpec := { name := "diceFull", fn := fun _ => fun
  | [d1, d2] => { results := [.lit (.bool false)], args := [d1, d2] }
  | _ => none }
def DiceFullWrongFalsely : Prop := diceFullRow.holds Try.pinned (OpenSpec.ofChange diceFullWrong)

/- THE SECOND FORM. 'bulk': how many values and letters a reading holds, each counted each time it is reached (what is shared counts as often as it is met; a slice's spare places count too). A statement '..UptoSaid' is the law's where the arguments, and the package variables that the reading takes, are together of bulk at most 1048576: NARROWER than '..Said'. Prove '..Said' where nothing that the law and all that it calls make is longer than what came in: it says more and counts as full. Else prove '..UptoSaid'. A law counts once. -/
mutual
def uptoBulk {H : Type} : DataW H → Nat
  | .lit (.string bytes) => bytes.length + 1
  | .lit _ => 1
  | .nil => 1
  | .ptr d => uptoBulk d + 1
  | .slice elems spare => uptoBulkAll elems + uptoBulkAll spare + 1
  | .agg parts => uptoBulkAll parts + 1
  | .iface _ d => uptoBulk d + 1
  | .map entries => uptoBulkEntries entries + 1
  | .held _ => 1
def uptoBulkAll {H : Type} : List (DataW H) → Nat
  | [] => 0
  | d :: r => uptoBulk d + uptoBulkAll r
def uptoBulkEntries {H : Type} : List (Lit × DataW H) → Nat
  | [] => 0
  | x :: r => uptoBulkEntry x + uptoBulkEntries r
def uptoBulkEntry {H : Type} : Lit × DataW H → Nat
  | (.string bytes, d) => bytes.length + uptoBulk d + 1
  | (_, d) => uptoBulk d + 1
 end
def uptoSmall : (H : Type) → List (DataW H) → Bool := fun _ ds => decide (uptoBulkAll ds ≤ 1048576)
def OpenSpec.upto (s : _root_.Go.ChangeSpec) : _root_.Go.OpenSpec := { _root_.Go.OpenSpec.ofChange s with cond := some uptoSmall }

/-- 'girandolelaw3.DiceAll', WHERE WHAT IT READS IS OF BULK AT MOST 1048576: true; the input reads as it did. -/
def diceAllUptoRow : OpenClaim := { program := "ytdlalcbcgdambaa", sum := "aa799f874f6ed6f03d93be6008e6093ccc30d2a86509b67c40bb92f4d3c05ab6", func := "girandole/girandolelaw3.DiceAll", spec := "diceAll", unfollowed := true, recurses := true, apart := false, narrowed := true }
def DiceAllUptoSaid : Prop := diceAllUptoRow.holds Try.pinned (OpenSpec.upto diceAllSpec)

/-- 'girandolelaw3.DiceRows', WHERE WHAT IT READS IS OF BULK AT MOST 1048576: true; the input reads as it did. -/
def diceRowsUptoRow : OpenClaim := { program := "ytdlalcbcgdambaa", sum := "aa799f874f6ed6f03d93be6008e6093ccc30d2a86509b67c40bb92f4d3c05ab6", func := "girandole/girandolelaw3.DiceRows", spec := "diceRows", unfollowed := true, recurses := true, apart := false, narrowed := true }
def DiceRowsUptoSaid : Prop := diceRowsUptoRow.holds Try.pinned (OpenSpec.upto diceRowsSpec)

/-- 'girandolelaw3.DiceForms', WHERE WHAT IT READS IS OF BULK AT MOST 1048576: true; the input reads as it did. -/
def diceFormsUptoRow : OpenClaim := { program := "ytdlalcbcgdambaa", sum := "aa799f874f6ed6f03d93be6008e6093ccc30d2a86509b67c40bb92f4d3c05ab6", func := "girandole/girandolelaw3.DiceForms", spec := "diceForms", unfollowed := true, recurses := true, apart := false, narrowed := true }
def DiceFormsUptoSaid : Prop := diceFormsUptoRow.holds Try.pinned (OpenSpec.upto diceFormsSpec)

/-- 'girandolelaw3.DiceFull', WHERE WHAT IT READS IS OF BULK AT MOST 1048576: true; the input reads as it did. -/
def diceFullUptoRow : OpenClaim := { program := "ytdlalcbcgdambaa", sum := "aa799f874f6ed6f03d93be6008e6093ccc30d2a86509b67c40bb92f4d3c05ab6", func := "girandole/girandolelaw3.DiceFull", spec := "diceFull", unfollowed := true, recurses := true, apart := false, narrowed := true }
def DiceFullUptoSaid : Prop := diceFullUptoRow.holds Try.pinned (OpenSpec.upto diceFullSpec)

end Rows
end Go.Proofs.Ytdlalcbcgdambaa
