/-
  DERIVED. GIVEN WITH THE SEED: THE CARDS: each row of YtijjhjlopfbeiaaDoorRows.lean that lists a variable, with what it lists TIED to the program's text (the seventh form; the later family's looks); each row that meets fmt, with fmt's text TOLD by the authors' own Lean function (tested against real Go, not proved from fmt's source: count such statements apart). THE CARD IS WHAT COUNTS. Prove the row's statement (the work); the ties are given (YtijjhjlopfbeiaaDoorTie.lean); close each card by the builder's one call (the guide's Derived/Test/ToyasCard.lean, 'card_holds'). Laid BY PROGRAM, IN A SANDBOX (cutbox-door.mjs). By AI agents, Wed Nov 11 2026. No macro, syntax, notation, axiom, sorry.
-/
import Derived.Test.YtijjhjlopfbeiaaDoorRows
import GoSem.ClaimSeven
namespace Go.Proofs.YtijjhjlopfbeiaaDoor
namespace Rows

/-- THE TIED CARD OF 'girandolelaw21.PurseAll'. -/
def purseAllCard : Claim7 := { stood := { row := purseAllRow, standIns := [], harness := (true, "cc2e516006adc4ce4c94ac1e4352fb3ed5575d3a1732d1bd05b0ac818ef63213"), looks := false }, kinds := [], alts := [], laidByText := true, laidKinds := [.data], laidTests := true, laidLooks := .later }
def PurseAllCardSaid : Prop := Claim7.holds Tryd.pinned (.plain (OpenSpec.ofChange purseAllSpec)) purseAllCard

/-- THE TIED CARD OF 'girandolelaw21.PurseWhole'. -/
def purseWholeCard : Claim7 := { stood := { row := purseWholeRow, standIns := [], harness := (true, "cc2e516006adc4ce4c94ac1e4352fb3ed5575d3a1732d1bd05b0ac818ef63213"), looks := false }, kinds := [], alts := [], laidByText := true, laidKinds := [.data], laidTests := true, laidLooks := .later }
def PurseWholeCardSaid : Prop := Claim7.holds Tryd.pinned (.plain (OpenSpec.ofChange purseWholeSpec)) purseWholeCard

/-- THE TIED CARD OF 'girandolelaw21.PurseRanks'. -/
def purseRanksCard : Claim7 := { stood := { row := purseRanksRow, standIns := [], harness := (true, "cc2e516006adc4ce4c94ac1e4352fb3ed5575d3a1732d1bd05b0ac818ef63213"), looks := false }, kinds := [], alts := [], laidByText := true, laidKinds := [.data], laidTests := true, laidLooks := .later }
def PurseRanksCardSaid : Prop := Claim7.holds Tryd.pinned (.plain (OpenSpec.ofChange purseRanksSpec)) purseRanksCard

/-- THE TIED CARD OF 'girandolelaw21.PurseForms'. -/
def purseFormsCard : Claim7 := { stood := { row := purseFormsRow, standIns := [], harness := (true, "cc2e516006adc4ce4c94ac1e4352fb3ed5575d3a1732d1bd05b0ac818ef63213"), looks := false }, kinds := [], alts := [], laidByText := true, laidKinds := [.data], laidTests := true, laidLooks := .later }
def PurseFormsCardSaid : Prop := Claim7.holds Tryd.pinned (.plain (OpenSpec.ofChange purseFormsSpec)) purseFormsCard

/-- THE TIED CARD OF 'girandolelaw21.PurseOne'. -/
def purseOneCard : Claim7 := { stood := { row := purseOneRow, standIns := [], harness := (true, "cc2e516006adc4ce4c94ac1e4352fb3ed5575d3a1732d1bd05b0ac818ef63213"), looks := false }, kinds := [], alts := [], laidByText := true, laidKinds := [.data], laidTests := true, laidLooks := .later }
def PurseOneCardSaid : Prop := Claim7.holds Tryd.pinned (.plain (OpenSpec.ofChange purseOneSpec)) purseOneCard

/-- THE SECOND FORM's CARD OF 'girandolelaw21.PurseAll'. -/
def purseAllUptoCard : Claim7 := { stood := { row := purseAllUptoRow, standIns := [], harness := (true, "cc2e516006adc4ce4c94ac1e4352fb3ed5575d3a1732d1bd05b0ac818ef63213"), looks := false }, kinds := [], alts := [], laidByText := true, laidKinds := [.data], laidTests := true, laidLooks := .later }
def PurseAllUptoCardSaid : Prop := Claim7.holds Tryd.pinned (.plain (OpenSpec.upto purseAllSpec)) purseAllUptoCard

/-- THE SECOND FORM's CARD OF 'girandolelaw21.PurseWhole'. -/
def purseWholeUptoCard : Claim7 := { stood := { row := purseWholeUptoRow, standIns := [], harness := (true, "cc2e516006adc4ce4c94ac1e4352fb3ed5575d3a1732d1bd05b0ac818ef63213"), looks := false }, kinds := [], alts := [], laidByText := true, laidKinds := [.data], laidTests := true, laidLooks := .later }
def PurseWholeUptoCardSaid : Prop := Claim7.holds Tryd.pinned (.plain (OpenSpec.upto purseWholeSpec)) purseWholeUptoCard

/-- THE SECOND FORM's CARD OF 'girandolelaw21.PurseRanks'. -/
def purseRanksUptoCard : Claim7 := { stood := { row := purseRanksUptoRow, standIns := [], harness := (true, "cc2e516006adc4ce4c94ac1e4352fb3ed5575d3a1732d1bd05b0ac818ef63213"), looks := false }, kinds := [], alts := [], laidByText := true, laidKinds := [.data], laidTests := true, laidLooks := .later }
def PurseRanksUptoCardSaid : Prop := Claim7.holds Tryd.pinned (.plain (OpenSpec.upto purseRanksSpec)) purseRanksUptoCard

/-- THE SECOND FORM's CARD OF 'girandolelaw21.PurseForms'. -/
def purseFormsUptoCard : Claim7 := { stood := { row := purseFormsUptoRow, standIns := [], harness := (true, "cc2e516006adc4ce4c94ac1e4352fb3ed5575d3a1732d1bd05b0ac818ef63213"), looks := false }, kinds := [], alts := [], laidByText := true, laidKinds := [.data], laidTests := true, laidLooks := .later }
def PurseFormsUptoCardSaid : Prop := Claim7.holds Tryd.pinned (.plain (OpenSpec.upto purseFormsSpec)) purseFormsUptoCard

/-- THE SECOND FORM's CARD OF 'girandolelaw21.PurseOne'. -/
def purseOneUptoCard : Claim7 := { stood := { row := purseOneUptoRow, standIns := [], harness := (true, "cc2e516006adc4ce4c94ac1e4352fb3ed5575d3a1732d1bd05b0ac818ef63213"), looks := false }, kinds := [], alts := [], laidByText := true, laidKinds := [.data], laidTests := true, laidLooks := .later }
def PurseOneUptoCardSaid : Prop := Claim7.holds Tryd.pinned (.plain (OpenSpec.upto purseOneSpec)) purseOneUptoCard
end Rows
end Go.Proofs.YtijjhjlopfbeiaaDoor
