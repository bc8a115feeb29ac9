/-
  No cell of these rows narrows 'for every input' (looked for: loops, veiled, ifaces, maps, wideKeys, modest, calm, conditions, laid).
  DERIVED. THE GIVEN ROWS OF THIS SEAT. 4 by the template 'for every input the law returns true; each argument reads behind the call as it read before'; 0 by the template 'total and deterministic' (their statements: YtmgphmjfgoljcaaTotals.lean).
  GIVEN WITH THE SEED: the statements are not yours to turn. If you find one false, say at which input.
  Laid BY PROGRAM, IN A SANDBOX (cutbox-rows.mjs): the forced cells as the released guide's own fill.sh prints them over the translation 635c1153f757b12f… (all of the seat's roots in one cut). By AI agents, Wed Nov 11 2026. No macro, syntax, notation, axiom, sorry.
-/
import Derived.Test.YtmgphmjfgoljcaaChecked
import GoSem.Claim
import GoSem.ClaimJoined
import GoSem.ClaimMapViews
import Derived.JoinedTies
import Derived.KernelRfl
namespace Go.Proofs.Ytmgphmjfgoljcaa
/- THE CELL 'sum', in the pinned program and in every row, IS THE sha256 OF THE DUMP (.gsa) THAT YtmgphmjfgoljcaaProg.lean LOADS. Nothing in Lean hashes anything: it is a label: what it is worth is what the hold of that sum in a sandbox is worth. -/
noncomputable def Try.pinned : Pinned := { name := "ytmgphmjfgoljcaa", sum := "635c1153f757b12f54fd68da61e11b81966bd2693dca8406569b6cf2019ac311", checked := Try.checked }
namespace Rows
def none {H : Type} : Left H := { results := [], args := [] }

/-- 'girandolelaw19.JitterAll': WHATEVER THE INPUT: true; the input reads as it did. -/
def jitterAllSpec : ChangeSpec := { name := "jitterAll", fn := fun _ => fun
  | [d1, d2] => { results := [.lit (.bool true)], args := [d1, d2] }
  | _ => none }
def jitterAllRow : OpenClaim := { program := "ytmgphmjfgoljcaa", sum := "635c1153f757b12f54fd68da61e11b81966bd2693dca8406569b6cf2019ac311", func := "girandole/girandolelaw19.JitterAll", spec := "jitterAll", apart := false }
def JitterAllSaid : Prop := jitterAllRow.holds Try.pinned (OpenSpec.ofChange jitterAllSpec)

/-- ITS FALSE NEIGHBOUR: 'it returns false'. Refute it at one input. -/
def jitterAllWrong : ChangeSpec := { name := "jitterAll", fn := fun _ => fun
  | [d1, d2] => { results := [.lit (.bool false)], args := [d1, d2] }
  | _ => none }
def JitterAllWrongFalsely : Prop := jitterAllRow.holds Try.pinned (OpenSpec.ofChange jitterAllWrong)

/-- 'girandolelaw19.JitterEven': WHATEVER THE INPUT: true; the input reads as it did. -/
def jitterEvenSpec : ChangeSpec := { name := "jitterEven", fn := fun _ => fun
  | [d1, d2] => { results := [.lit (.bool true)], args := [d1, d2] }
  | _ => none }
def jitterEvenRow : OpenClaim := { program := "ytmgphmjfgoljcaa", sum := "635c1153f757b12f54fd68da61e11b81966bd2693dca8406569b6cf2019ac311", func := "girandole/girandolelaw19.JitterEven", spec := "jitterEven", apart := false }
def JitterEvenSaid : Prop := jitterEvenRow.holds Try.pinned (OpenSpec.ofChange jitterEvenSpec)

/-- ITS FALSE NEIGHBOUR: 'it returns false'. Refute it at one input. -/
def jitterEvenWrong : ChangeSpec := { name := "jitterEven", fn := fun _ => fun
  | [d1, d2] => { results := [.lit (.bool false)], args := [d1, d2] }
  | _ => none }
def JitterEvenWrongFalsely : Prop := jitterEvenRow.holds Try.pinned (OpenSpec.ofChange jitterEvenWrong)

/-- 'girandolelaw19.JitterMost': WHATEVER THE INPUT: true; the input reads as it did. -/
def jitterMostSpec : ChangeSpec := { name := "jitterMost", fn := fun _ => fun
  | [d] => { results := [.lit (.bool true)], args := [d] }
  | _ => none }
def jitterMostRow : OpenClaim := { program := "ytmgphmjfgoljcaa", sum := "635c1153f757b12f54fd68da61e11b81966bd2693dca8406569b6cf2019ac311", func := "girandole/girandolelaw19.JitterMost", spec := "jitterMost", apart := false }
def JitterMostSaid : Prop := jitterMostRow.holds Try.pinned (OpenSpec.ofChange jitterMostSpec)

/-- ITS FALSE NEIGHBOUR: 'it returns false'. Refute it at one input. -/
def jitterMostWrong : ChangeSpec := { name := "jitterMost", fn := fun _ => fun
  | [d] => { results := [.lit (.bool false)], args := [d] }
  | _ => none }
def JitterMostWrongFalsely : Prop := jitterMostRow.holds Try.pinned (OpenSpec.ofChange jitterMostWrong)

/-- 'girandolelaw19.JitterForms': WHATEVER THE INPUT: true; the input reads as it did. -/
def jitterFormsSpec : ChangeSpec := { name := "jitterForms", fn := fun _ => fun
  | [] => { results := [.lit (.bool true)], args := [] }
  | _ => none }
def jitterFormsRow : OpenClaim := { program := "ytmgphmjfgoljcaa", sum := "635c1153f757b12f54fd68da61e11b81966bd2693dca8406569b6cf2019ac311", func := "girandole/girandolelaw19.JitterForms", spec := "jitterForms", apart := false }
def JitterFormsSaid : Prop := jitterFormsRow.holds Try.pinned (OpenSpec.ofChange jitterFormsSpec)

/-- ITS FALSE NEIGHBOUR: 'it returns false'. Refute it at one input. -/
def jitterFormsWrong : ChangeSpec := { name := "jitterForms", fn := fun _ => fun
  | [] => { results := [.lit (.bool false)], args := [] }
  | _ => none }
def JitterFormsWrongFalsely : Prop := jitterFormsRow.holds Try.pinned (OpenSpec.ofChange jitterFormsWrong)

/- THE SECOND FORM. 'bulk': how many values and letters a reading holds, each counted each time it is reached (what is shared counts as often as it is met; a slice's spare places count too). A statement '..UptoSaid' is the law's where the arguments, and the package variables that the reading takes, are together of bulk at most 1048576: NARROWER than '..Said'. Prove '..Said' where nothing that the law and all that it calls make is longer than what came in: it says more and counts as full. Else prove '..UptoSaid'. A law counts once. -/
mutual
def uptoBulk {H : Type} : DataW H → Nat
  | .lit (.string bytes) => bytes.length + 1
  | .lit _ => 1
  | .nil => 1
  | .ptr d => uptoBulk d + 1
  | .slice elems spare => uptoBulkAll elems + uptoBulkAll spare + 1
  | .agg parts => uptoBulkAll parts + 1
  | .iface _ d => uptoBulk d + 1
  | .map entries => uptoBulkEntries entries + 1
  | .held _ => 1
def uptoBulkAll {H : Type} : List (DataW H) → Nat
  | [] => 0
  | d :: r => uptoBulk d + uptoBulkAll r
def uptoBulkEntries {H : Type} : List (Lit × DataW H) → Nat
  | [] => 0
  | x :: r => uptoBulkEntry x + uptoBulkEntries r
def uptoBulkEntry {H : Type} : Lit × DataW H → Nat
  | (.string bytes, d) => bytes.length + uptoBulk d + 1
  | (_, d) => uptoBulk d + 1
 end
def uptoSmall : (H : Type) → List (DataW H) → Bool := fun _ ds => decide (uptoBulkAll ds ≤ 1048576)
def OpenSpec.upto (s : _root_.Go.ChangeSpec) : _root_.Go.OpenSpec := { _root_.Go.OpenSpec.ofChange s with cond := some uptoSmall }

/-- 'girandolelaw19.JitterAll', WHERE WHAT IT READS IS OF BULK AT MOST 1048576: true; the input reads as it did. -/
def jitterAllUptoRow : OpenClaim := { program := "ytmgphmjfgoljcaa", sum := "635c1153f757b12f54fd68da61e11b81966bd2693dca8406569b6cf2019ac311", func := "girandole/girandolelaw19.JitterAll", spec := "jitterAll", apart := false, narrowed := true }
def JitterAllUptoSaid : Prop := jitterAllUptoRow.holds Try.pinned (OpenSpec.upto jitterAllSpec)

/-- 'girandolelaw19.JitterEven', WHERE WHAT IT READS IS OF BULK AT MOST 1048576: true; the input reads as it did. -/
def jitterEvenUptoRow : OpenClaim := { program := "ytmgphmjfgoljcaa", sum := "635c1153f757b12f54fd68da61e11b81966bd2693dca8406569b6cf2019ac311", func := "girandole/girandolelaw19.JitterEven", spec := "jitterEven", apart := false, narrowed := true }
def JitterEvenUptoSaid : Prop := jitterEvenUptoRow.holds Try.pinned (OpenSpec.upto jitterEvenSpec)

/-- 'girandolelaw19.JitterMost', WHERE WHAT IT READS IS OF BULK AT MOST 1048576: true; the input reads as it did. -/
def jitterMostUptoRow : OpenClaim := { program := "ytmgphmjfgoljcaa", sum := "635c1153f757b12f54fd68da61e11b81966bd2693dca8406569b6cf2019ac311", func := "girandole/girandolelaw19.JitterMost", spec := "jitterMost", apart := false, narrowed := true }
def JitterMostUptoSaid : Prop := jitterMostUptoRow.holds Try.pinned (OpenSpec.upto jitterMostSpec)

/-- 'girandolelaw19.JitterForms', WHERE WHAT IT READS IS OF BULK AT MOST 1048576: true; the input reads as it did. -/
def jitterFormsUptoRow : OpenClaim := { program := "ytmgphmjfgoljcaa", sum := "635c1153f757b12f54fd68da61e11b81966bd2693dca8406569b6cf2019ac311", func := "girandole/girandolelaw19.JitterForms", spec := "jitterForms", apart := false, narrowed := true }
def JitterFormsUptoSaid : Prop := jitterFormsUptoRow.holds Try.pinned (OpenSpec.upto jitterFormsSpec)

end Rows
end Go.Proofs.Ytmgphmjfgoljcaa
