/-
  No cell of these rows narrows 'for every input' (looked for: loops, veiled, ifaces, maps, wideKeys, modest, calm, conditions, laid).
  DERIVED. THE GIVEN ROWS OF THIS SEAT. 5 by the template 'for every input the law returns true; each argument reads behind the call as it read before'; 0 by the template 'total and deterministic' (their statements: YtaikkoijoolhkaaTotals.lean).
  GIVEN WITH THE SEED: the statements are not yours to turn. If you find one false, say at which input.
  Laid BY PROGRAM, IN A SANDBOX (cutbox-rows.mjs): the forced cells as the released guide's own fill.sh prints them over the translation 791450aab7fe02a0… (all of the seat's roots in one cut). By AI agents, Wed Nov 11 2026. No macro, syntax, notation, axiom, sorry.
-/
import Derived.Test.YtaikkoijoolhkaaChecked
import GoSem.Claim
import GoSem.ClaimJoined
import GoSem.ClaimMapViews
import Derived.JoinedTies
import Derived.KernelRfl
namespace Go.Proofs.Ytaikkoijoolhkaa
/- THE CELL 'sum', in the pinned program and in every row, IS THE sha256 OF THE DUMP (.gsa) THAT YtaikkoijoolhkaaProg.lean LOADS. Nothing in Lean hashes anything: it is a label: what it is worth is what the hold of that sum in a sandbox is worth. -/
noncomputable def Try.pinned : Pinned := { name := "ytaikkoijoolhkaa", sum := "791450aab7fe02a0092ad6c3c17a808304fa21443a6515e3f123f0e318b89e08", checked := Try.checked }
namespace Rows
def none {H : Type} : Left H := { results := [], args := [] }

/-- 'girandolelaw22.PaceAll': WHATEVER THE INPUT: true; the input reads as it did. -/
def paceAllSpec : ChangeSpec := { name := "paceAll", fn := fun _ => fun
  | [d] => { results := [.lit (.bool true)], args := [d] }
  | _ => none }
def paceAllRow : OpenClaim := { program := "ytaikkoijoolhkaa", sum := "791450aab7fe02a0092ad6c3c17a808304fa21443a6515e3f123f0e318b89e08", func := "girandole/girandolelaw22.PaceAll", spec := "paceAll", unfollowed := true, recurses := true, apart := false }
def PaceAllSaid : Prop := paceAllRow.holds Try.pinned (OpenSpec.ofChange paceAllSpec)

/-- ITS FALSE NEIGHBOUR: 'it returns false'. Refute it at one input. -/
def paceAllWrong : ChangeSpec := { name := "paceAll", fn := fun _ => fun
  | [d] => { results := [.lit (.bool false)], args := [d] }
  | _ => none }
def PaceAllWrongFalsely : Prop := paceAllRow.holds Try.pinned (OpenSpec.ofChange paceAllWrong)

/-- 'girandolelaw22.PaceTakes': WHATEVER THE INPUT: true; the input reads as it did. -/
def paceTakesSpec : ChangeSpec := { name := "paceTakes", fn := fun _ => fun
  | [d1, d2, d3] => { results := [.lit (.bool true)], args := [d1, d2, d3] }
  | _ => none }
def paceTakesRow : OpenClaim := { program := "ytaikkoijoolhkaa", sum := "791450aab7fe02a0092ad6c3c17a808304fa21443a6515e3f123f0e318b89e08", func := "girandole/girandolelaw22.PaceTakes", spec := "paceTakes", unfollowed := true, recurses := true, apart := false }
def PaceTakesSaid : Prop := paceTakesRow.holds Try.pinned (OpenSpec.ofChange paceTakesSpec)

/-- ITS FALSE NEIGHBOUR: 'it returns false'. Refute it at one input. -/
def paceTakesWrong : ChangeSpec := { name := "paceTakes", fn := fun _ => fun
  | [d1, d2, d3] => { results := [.lit (.bool false)], args := [d1, d2, d3] }
  | _ => none }
def PaceTakesWrongFalsely : Prop := paceTakesRow.holds Try.pinned (OpenSpec.ofChange paceTakesWrong)

/-- 'girandolelaw22.PaceLate': WHATEVER THE INPUT: true; the input reads as it did. -/
def paceLateSpec : ChangeSpec := { name := "paceLate", fn := fun _ => fun
  | [d1, d2] => { results := [.lit (.bool true)], args := [d1, d2] }
  | _ => none }
def paceLateRow : OpenClaim := { program := "ytaikkoijoolhkaa", sum := "791450aab7fe02a0092ad6c3c17a808304fa21443a6515e3f123f0e318b89e08", func := "girandole/girandolelaw22.PaceLate", spec := "paceLate", unfollowed := true, recurses := true, apart := false }
def PaceLateSaid : Prop := paceLateRow.holds Try.pinned (OpenSpec.ofChange paceLateSpec)

/-- ITS FALSE NEIGHBOUR: 'it returns false'. Refute it at one input. -/
def paceLateWrong : ChangeSpec := { name := "paceLate", fn := fun _ => fun
  | [d1, d2] => { results := [.lit (.bool false)], args := [d1, d2] }
  | _ => none }
def PaceLateWrongFalsely : Prop := paceLateRow.holds Try.pinned (OpenSpec.ofChange paceLateWrong)

/-- 'girandolelaw22.PaceForms': WHATEVER THE INPUT: true; the input reads as it did. -/
def paceFormsSpec : ChangeSpec := { name := "paceForms", fn := fun _ => fun
  | [] => { results := [.lit (.bool true)], args := [] }
  | _ => none }
def paceFormsRow : OpenClaim := { program := "ytaikkoijoolhkaa", sum := "791450aab7fe02a0092ad6c3c17a808304fa21443a6515e3f123f0e318b89e08", func := "girandole/girandolelaw22.PaceForms", spec := "paceForms", unfollowed := true, recurses := true, apart := false }
def PaceFormsSaid : Prop := paceFormsRow.holds Try.pinned (OpenSpec.ofChange paceFormsSpec)

/-- ITS FALSE NEIGHBOUR: 'it returns false'. Refute it at one input. -/
def paceFormsWrong : ChangeSpec := { name := "paceForms", fn := fun _ => fun
  | [] => { results := [.lit (.bool false)], args := [] }
  | _ => none }
def PaceFormsWrongFalsely : Prop := paceFormsRow.holds Try.pinned (OpenSpec.ofChange paceFormsWrong)

/-- 'girandolelaw22.PaceRanks': WHATEVER THE INPUT: true; the input reads as it did. -/
def paceRanksSpec : ChangeSpec := { name := "paceRanks", fn := fun _ => fun
  | [d] => { results := [.lit (.bool true)], args := [d] }
  | _ => none }
def paceRanksRow : OpenClaim := { program := "ytaikkoijoolhkaa", sum := "791450aab7fe02a0092ad6c3c17a808304fa21443a6515e3f123f0e318b89e08", func := "girandole/girandolelaw22.PaceRanks", spec := "paceRanks", unfollowed := true, recurses := true, apart := false }
def PaceRanksSaid : Prop := paceRanksRow.holds Try.pinned (OpenSpec.ofChange paceRanksSpec)

/-- ITS FALSE NEIGHBOUR: 'it returns false'. Refute it at one input. -/
def paceRanksWrong : ChangeSpec := { name := "paceRanks", fn := fun _ => fun
  | [d] => { results := [.lit (.bool false)], args := [d] }
  | _ => none }
def PaceRanksWrongFalsely : Prop := paceRanksRow.holds Try.pinned (OpenSpec.ofChange paceRanksWrong)

/- THE SECOND FORM. 'bulk': how many values and letters a reading holds, each counted each time it is reached (what is shared counts as often as it is met; a slice's spare places count too). A statement '..UptoSaid' is the law's where the arguments, and the package variables that the reading takes, are together of bulk at most 1048576: NARROWER than '..Said'. Prove '..Said' where nothing that the law and all that it calls make is longer than what came in: it says more and counts as full. Else prove '..UptoSaid'. A law counts once. -/
mutual
def uptoBulk {H : Type} : DataW H → Nat
  | .lit (.string bytes) => bytes.length + 1
  | .lit _ => 1
  | .nil => 1
  | .ptr d => uptoBulk d + 1
  | .slice elems spare => uptoBulkAll elems + uptoBulkAll spare + 1
  | .agg parts => uptoBulkAll parts + 1
  | .iface _ d => uptoBulk d + 1
  | .map entries => uptoBulkEntries entries + 1
  | .held _ => 1
def uptoBulkAll {H : Type} : List (DataW H) → Nat
  | [] => 0
  | d :: r => uptoBulk d + uptoBulkAll r
def uptoBulkEntries {H : Type} : List (Lit × DataW H) → Nat
  | [] => 0
  | x :: r => uptoBulkEntry x + uptoBulkEntries r
def uptoBulkEntry {H : Type} : Lit × DataW H → Nat
  | (.string bytes, d) => bytes.length + uptoBulk d + 1
  | (_, d) => uptoBulk d + 1
 end
def uptoSmall : (H : Type) → List (DataW H) → Bool := fun _ ds => decide (uptoBulkAll ds ≤ 1048576)
def OpenSpec.upto (s : _root_.Go.ChangeSpec) : _root_.Go.OpenSpec := { _root_.Go.OpenSpec.ofChange s with cond := some uptoSmall }

/-- 'girandolelaw22.PaceAll', WHERE WHAT IT READS IS OF BULK AT MOST 1048576: true; the input reads as it did. -/
def paceAllUptoRow : OpenClaim := { program := "ytaikkoijoolhkaa", sum := "791450aab7fe02a0092ad6c3c17a808304fa21443a6515e3f123f0e318b89e08", func := "girandole/girandolelaw22.PaceAll", spec := "paceAll", unfollowed := true, recurses := true, apart := false, narrowed := true }
def PaceAllUptoSaid : Prop := paceAllUptoRow.holds Try.pinned (OpenSpec.upto paceAllSpec)

/-- 'girandolelaw22.PaceTakes', WHERE WHAT IT READS IS OF BULK AT MOST 1048576: true; the input reads as it did. -/
def paceTakesUptoRow : OpenClaim := { program := "ytaikkoijoolhkaa", sum := "791450aab7fe02a0092ad6c3c17a808304fa21443a6515e3f123f0e318b89e08", func := "girandole/girandolelaw22.PaceTakes", spec := "paceTakes", unfollowed := true, recurses := true, apart := false, narrowed := true }
def PaceTakesUptoSaid : Prop := paceTakesUptoRow.holds Try.pinned (OpenSpec.upto paceTakesSpec)

/-- 'girandolelaw22.PaceLate', WHERE WHAT IT READS IS OF BULK AT MOST 1048576: true; the input reads as it did. -/
def paceLateUptoRow : OpenClaim := { program := "ytaikkoijoolhkaa", sum := "791450aab7fe02a0092ad6c3c17a808304fa21443a6515e3f123f0e318b89e08", func := "girandole/girandolelaw22.PaceLate", spec := "paceLate", unfollowed := true, recurses := true, apart := false, narrowed := true }
def PaceLateUptoSaid : Prop := paceLateUptoRow.holds Try.pinned (OpenSpec.upto paceLateSpec)

/-- 'girandolelaw22.PaceForms', WHERE WHAT IT READS IS OF BULK AT MOST 1048576: true; the input reads as it did. -/
def paceFormsUptoRow : OpenClaim := { program := "ytaikkoijoolhkaa", sum := "791450aab7fe02a0092ad6c3c17a808304fa21443a6515e3f123f0e318b89e08", func := "girandole/girandolelaw22.PaceForms", spec := "paceForms", unfollowed := true, recurses := true, apart := false, narrowed := true }
def PaceFormsUptoSaid : Prop := paceFormsUptoRow.holds Try.pinned (OpenSpec.upto paceFormsSpec)

/-- 'girandolelaw22.PaceRanks', WHERE WHAT IT READS IS OF BULK AT MOST 1048576: true; the input reads as it did. -/
def paceRanksUptoRow : OpenClaim := { program := "ytaikkoijoolhkaa", sum := "791450aab7fe02a0092ad6c3c17a808304fa21443a6515e3f123f0e318b89e08", func := "girandole/girandolelaw22.PaceRanks", spec := "paceRanks", unfollowed := true, recurses := true, apart := false, narrowed := true }
def PaceRanksUptoSaid : Prop := paceRanksUptoRow.holds Try.pinned (OpenSpec.upto paceRanksSpec)

end Rows
end Go.Proofs.Ytaikkoijoolhkaa
