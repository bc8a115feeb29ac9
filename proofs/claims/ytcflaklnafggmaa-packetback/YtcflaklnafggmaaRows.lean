/-
  No cell of these rows narrows 'for every input' (looked for: loops, veiled, ifaces, maps, wideKeys, modest, calm, conditions, laid).
  DERIVED. THE GIVEN ROWS OF THIS SEAT. 4 by the template 'for every input the law returns true; each argument reads behind the call as it read before'; 0 by the template 'total and deterministic' (their statements: YtcflaklnafggmaaTotals.lean).
  GIVEN WITH THE SEED: the statements are not yours to turn. If you find one false, say at which input.
  Laid BY PROGRAM, IN A SANDBOX (cutbox-rows.mjs): the forced cells as the released guide's own fill.sh prints them over the translation 17f34140be3866d3… (all of the seat's roots in one cut). By AI agents, Wed Nov 11 2026. No macro, syntax, notation, axiom, sorry.
-/
import Derived.Test.YtcflaklnafggmaaChecked
import GoSem.Claim
import GoSem.ClaimJoined
import GoSem.ClaimMapViews
import Derived.JoinedTies
import Derived.KernelRfl
namespace Go.Proofs.Ytcflaklnafggmaa
/- THE CELL 'sum', in the pinned program and in every row, IS THE sha256 OF THE DUMP (.gsa) THAT YtcflaklnafggmaaProg.lean LOADS. Nothing in Lean hashes anything: it is a label: what it is worth is what the hold of that sum in a sandbox is worth. -/
noncomputable def Try.pinned : Pinned := { name := "ytcflaklnafggmaa", sum := "17f34140be3866d34c142235e470916cebee94e8f5ec1861f86286afda0c4bf0", checked := Try.checked }
namespace Rows
def none {H : Type} : Left H := { results := [], args := [] }

/-- 'girandolelaw11.PacketAll': WHATEVER THE INPUT: true; the input reads as it did. -/
def packetAllSpec : ChangeSpec := { name := "packetAll", fn := fun _ => fun
  | [d1, d2, d3] => { results := [.lit (.bool true)], args := [d1, d2, d3] }
  | _ => none }
def packetAllRow : OpenClaim := { program := "ytcflaklnafggmaa", sum := "17f34140be3866d34c142235e470916cebee94e8f5ec1861f86286afda0c4bf0", func := "girandole/girandolelaw11.PacketAll", spec := "packetAll", unfollowed := true, recurses := true, apart := false }
def PacketAllSaid : Prop := packetAllRow.holds Try.pinned (OpenSpec.ofChange packetAllSpec)

/-- ITS FALSE NEIGHBOUR: 'it returns false'. Refute it at one input. -/
def packetAllWrong : ChangeSpec := { name := "packetAll", fn := fun _ => fun
  | [d1, d2, d3] => { results := [.lit (.bool false)], args := [d1, d2, d3] }
  | _ => none }
def PacketAllWrongFalsely : Prop := packetAllRow.holds Try.pinned (OpenSpec.ofChange packetAllWrong)

/-- 'girandolelaw11.PacketBack': WHATEVER THE INPUT: true; the input reads as it did. -/
def packetBackSpec : ChangeSpec := { name := "packetBack", fn := fun _ => fun
  | [d1, d2, d3, d4] => { results := [.lit (.bool true)], args := [d1, d2, d3, d4] }
  | _ => none }
def packetBackRow : OpenClaim := { program := "ytcflaklnafggmaa", sum := "17f34140be3866d34c142235e470916cebee94e8f5ec1861f86286afda0c4bf0", func := "girandole/girandolelaw11.PacketBack", spec := "packetBack", unfollowed := true, recurses := true, apart := false }
def PacketBackSaid : Prop := packetBackRow.holds Try.pinned (OpenSpec.ofChange packetBackSpec)

/-- ITS FALSE NEIGHBOUR: 'it returns false'. Refute it at one input. -/
def packetBackWrong : ChangeSpec := { name := "packetBack", fn := fun _ => fun
  | [d1, d2, d3, d4] => { results := [.lit (.bool false)], args := [d1, d2, d3, d4] }
  | _ => none }
def PacketBackWrongFalsely : Prop := packetBackRow.holds Try.pinned (OpenSpec.ofChange packetBackWrong)

/-- 'girandolelaw11.PacketNone': WHATEVER THE INPUT: true; the input reads as it did. -/
def packetNoneSpec : ChangeSpec := { name := "packetNone", fn := fun _ => fun
  | [d1, d2] => { results := [.lit (.bool true)], args := [d1, d2] }
  | _ => none }
def packetNoneRow : OpenClaim := { program := "ytcflaklnafggmaa", sum := "17f34140be3866d34c142235e470916cebee94e8f5ec1861f86286afda0c4bf0", func := "girandole/girandolelaw11.PacketNone", spec := "packetNone", unfollowed := true, recurses := true, apart := false }
def PacketNoneSaid : Prop := packetNoneRow.holds Try.pinned (OpenSpec.ofChange packetNoneSpec)

/-- ITS FALSE NEIGHBOUR: 'it returns false'. Refute it at one input. -/
def packetNoneWrong : ChangeSpec := { name := "packetNone", fn := fun _ => fun
  | [d1, d2] => { results := [.lit (.bool false)], args := [d1, d2] }
  | _ => none }
def PacketNoneWrongFalsely : Prop := packetNoneRow.holds Try.pinned (OpenSpec.ofChange packetNoneWrong)

/-- 'girandolelaw11.PacketForms': WHATEVER THE INPUT: true; the input reads as it did. -/
def packetFormsSpec : ChangeSpec := { name := "packetForms", fn := fun _ => fun
  | [] => { results := [.lit (.bool true)], args := [] }
  | _ => none }
def packetFormsRow : OpenClaim := { program := "ytcflaklnafggmaa", sum := "17f34140be3866d34c142235e470916cebee94e8f5ec1861f86286afda0c4bf0", func := "girandole/girandolelaw11.PacketForms", spec := "packetForms", unfollowed := true, recurses := true, apart := false }
def PacketFormsSaid : Prop := packetFormsRow.holds Try.pinned (OpenSpec.ofChange packetFormsSpec)

/-- ITS FALSE NEIGHBOUR: 'it returns false'. Refute it at one input. -/
def packetFormsWrong : ChangeSpec := { name := "packetForms", fn := fun _ => fun
  | [] => { results := [.lit (.bool false)], args := [] }
  | _ => none }
def PacketFormsWrongFalsely : Prop := packetFormsRow.holds Try.pinned (OpenSpec.ofChange packetFormsWrong)

/- THE SECOND FORM. 'bulk': how many values and letters a reading holds, each counted each time it is reached (what is shared counts as often as it is met; a slice's spare places count too). A statement '..UptoSaid' is the law's where the arguments, and the package variables that the reading takes, are together of bulk at most 1048576: NARROWER than '..Said'. Prove '..Said' where nothing that the law and all that it calls make is longer than what came in: it says more and counts as full. Else prove '..UptoSaid'. A law counts once. -/
mutual
def uptoBulk {H : Type} : DataW H → Nat
  | .lit (.string bytes) => bytes.length + 1
  | .lit _ => 1
  | .nil => 1
  | .ptr d => uptoBulk d + 1
  | .slice elems spare => uptoBulkAll elems + uptoBulkAll spare + 1
  | .agg parts => uptoBulkAll parts + 1
  | .iface _ d => uptoBulk d + 1
  | .map entries => uptoBulkEntries entries + 1
  | .held _ => 1
def uptoBulkAll {H : Type} : List (DataW H) → Nat
  | [] => 0
  | d :: r => uptoBulk d + uptoBulkAll r
def uptoBulkEntries {H : Type} : List (Lit × DataW H) → Nat
  | [] => 0
  | x :: r => uptoBulkEntry x + uptoBulkEntries r
def uptoBulkEntry {H : Type} : Lit × DataW H → Nat
  | (.string bytes, d) => bytes.length + uptoBulk d + 1
  | (_, d) => uptoBulk d + 1
 end
def uptoSmall : (H : Type) → List (DataW H) → Bool := fun _ ds => decide (uptoBulkAll ds ≤ 1048576)
def OpenSpec.upto (s : _root_.Go.ChangeSpec) : _root_.Go.OpenSpec := { _root_.Go.OpenSpec.ofChange s with cond := some uptoSmall }

/-- 'girandolelaw11.PacketAll', WHERE WHAT IT READS IS OF BULK AT MOST 1048576: true; the input reads as it did. -/
def packetAllUptoRow : OpenClaim := { program := "ytcflaklnafggmaa", sum := "17f34140be3866d34c142235e470916cebee94e8f5ec1861f86286afda0c4bf0", func := "girandole/girandolelaw11.PacketAll", spec := "packetAll", unfollowed := true, recurses := true, apart := false, narrowed := true }
def PacketAllUptoSaid : Prop := packetAllUptoRow.holds Try.pinned (OpenSpec.upto packetAllSpec)

/-- 'girandolelaw11.PacketBack', WHERE WHAT IT READS IS OF BULK AT MOST 1048576: true; the input reads as it did. -/
def packetBackUptoRow : OpenClaim := { program := "ytcflaklnafggmaa", sum := "17f34140be3866d34c142235e470916cebee94e8f5ec1861f86286afda0c4bf0", func := "girandole/girandolelaw11.PacketBack", spec := "packetBack", unfollowed := true, recurses := true, apart := false, narrowed := true }
def PacketBackUptoSaid : Prop := packetBackUptoRow.holds Try.pinned (OpenSpec.upto packetBackSpec)

/-- 'girandolelaw11.PacketNone', WHERE WHAT IT READS IS OF BULK AT MOST 1048576: true; the input reads as it did. -/
def packetNoneUptoRow : OpenClaim := { program := "ytcflaklnafggmaa", sum := "17f34140be3866d34c142235e470916cebee94e8f5ec1861f86286afda0c4bf0", func := "girandole/girandolelaw11.PacketNone", spec := "packetNone", unfollowed := true, recurses := true, apart := false, narrowed := true }
def PacketNoneUptoSaid : Prop := packetNoneUptoRow.holds Try.pinned (OpenSpec.upto packetNoneSpec)

/-- 'girandolelaw11.PacketForms', WHERE WHAT IT READS IS OF BULK AT MOST 1048576: true; the input reads as it did. -/
def packetFormsUptoRow : OpenClaim := { program := "ytcflaklnafggmaa", sum := "17f34140be3866d34c142235e470916cebee94e8f5ec1861f86286afda0c4bf0", func := "girandole/girandolelaw11.PacketForms", spec := "packetForms", unfollowed := true, recurses := true, apart := false, narrowed := true }
def PacketFormsUptoSaid : Prop := packetFormsUptoRow.holds Try.pinned (OpenSpec.upto packetFormsSpec)

end Rows
end Go.Proofs.Ytcflaklnafggmaa
