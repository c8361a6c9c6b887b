/-
  DERIVED. GIVEN WITH THE SEED: THE CARDS: each row of YtmflpjgedoopoaaDoorRows.lean that lists a variable, with what it lists TIED to the program's text (the seventh form; the later family's looks); each row that meets fmt, with fmt's text TOLD by the authors' own Lean function (tested against real Go, not proved from fmt's source: count such statements apart). THE CARD IS WHAT COUNTS. Prove the row's statement (the work); the ties are given (YtmflpjgedoopoaaDoorTie.lean); close each card by the builder's one call (the guide's Derived/Test/ToyasCard.lean, 'card_holds'). Laid BY PROGRAM, IN A SANDBOX (cutbox-door.mjs). By AI agents, Wed Nov 11 2026. No macro, syntax, notation, axiom, sorry.
-/
import Derived.Test.YtmflpjgedoopoaaDoorRows
import GoSem.ClaimSeven
namespace Go.Proofs.YtmflpjgedoopoaaDoor
namespace Rows

/-- THE TIED CARD OF 'outriderlaw03.LabelTexts'. -/
def labelTextsCard : Claim7 := { stood := { row := labelTextsRow, standIns := [], harness := (true, "3ab90931bc484f998274fc08080fd13fa6444830ba8200e8223a7ca22e3c4034"), looks := true }, kinds := [], alts := [], laidByText := true, laidKinds := [.data, .pinned], laidTests := true, laidLooks := .later }
def LabelTextsCardSaid : Prop := Claim7.holds Tryd.pinned (.plain (OpenSpec.ofChange labelTextsSpec)) labelTextsCard

/-- THE TIED CARD OF 'outriderlaw03.LabelUnder'. -/
def labelUnderCard : Claim7 := { stood := { row := labelUnderRow, standIns := [], harness := (true, "3ab90931bc484f998274fc08080fd13fa6444830ba8200e8223a7ca22e3c4034"), looks := true }, kinds := [], alts := [], laidByText := true, laidKinds := [.data, .pinned], laidTests := true, laidLooks := .later }
def LabelUnderCardSaid : Prop := Claim7.holds Tryd.pinned (.plain (OpenSpec.ofChange labelUnderSpec)) labelUnderCard

/-- THE TIED CARD OF 'outriderlaw03.LabelCovers'. -/
def labelCoversCard : Claim7 := { stood := { row := labelCoversRow, standIns := [], harness := (true, "3ab90931bc484f998274fc08080fd13fa6444830ba8200e8223a7ca22e3c4034"), looks := true }, kinds := [], alts := [], laidByText := true, laidKinds := [.data, .pinned], laidTests := true, laidLooks := .later }
def LabelCoversCardSaid : Prop := Claim7.holds Tryd.pinned (.plain (OpenSpec.ofChange labelCoversSpec)) labelCoversCard

/-- THE TIED CARD OF 'outriderlaw03.LabelLower'. -/
def labelLowerCard : Claim7 := { stood := { row := labelLowerRow, standIns := [], harness := (true, "3ab90931bc484f998274fc08080fd13fa6444830ba8200e8223a7ca22e3c4034"), looks := true }, kinds := [], alts := [], laidByText := true, laidKinds := [.data, .pinned], laidTests := true, laidLooks := .later }
def LabelLowerCardSaid : Prop := Claim7.holds Tryd.pinned (.plain (OpenSpec.ofChange labelLowerSpec)) labelLowerCard

/-- THE TIED CARD OF 'outriderlaw03.LabelStars'. -/
def labelStarsCard : Claim7 := { stood := { row := labelStarsRow, standIns := [], harness := (true, "3ab90931bc484f998274fc08080fd13fa6444830ba8200e8223a7ca22e3c4034"), looks := true }, kinds := [], alts := [], laidByText := true, laidKinds := [.data, .pinned], laidTests := true, laidLooks := .later }
def LabelStarsCardSaid : Prop := Claim7.holds Tryd.pinned (.plain (OpenSpec.ofChange labelStarsSpec)) labelStarsCard

/-- THE TIED CARD OF 'outriderlaw04.SpotTexts'. -/
def spotTextsCard : Claim7 := { stood := { row := spotTextsRow, standIns := [], harness := (true, "3ab90931bc484f998274fc08080fd13fa6444830ba8200e8223a7ca22e3c4034"), looks := true }, kinds := [], alts := [], laidByText := true, laidKinds := [.data, .data, .data, .sentinel, .sentinel], laidTests := true, laidLooks := .later }
def SpotTextsCardSaid : Prop := Claim7.holds Tryd.pinned (.plain (OpenSpec.ofChange spotTextsSpec)) spotTextsCard

/-- THE TIED CARD OF 'outriderlaw04.SpotMeets'. -/
def spotMeetsCard : Claim7 := { stood := { row := spotMeetsRow, standIns := [], harness := (true, "3ab90931bc484f998274fc08080fd13fa6444830ba8200e8223a7ca22e3c4034"), looks := true }, kinds := [], alts := [], laidByText := true, laidKinds := [.data, .data, .data, .sentinel, .sentinel], laidTests := true, laidLooks := .later }
def SpotMeetsCardSaid : Prop := Claim7.holds Tryd.pinned (.plain (OpenSpec.ofChange spotMeetsSpec)) spotMeetsCard

/-- THE TIED CARD OF 'outriderlaw04.SpotOrder'. -/
def spotOrderCard : Claim7 := { stood := { row := spotOrderRow, standIns := [], harness := (true, "3ab90931bc484f998274fc08080fd13fa6444830ba8200e8223a7ca22e3c4034"), looks := true }, kinds := [], alts := [], laidByText := true, laidKinds := [.data, .data, .data, .sentinel, .sentinel], laidTests := true, laidLooks := .later }
def SpotOrderCardSaid : Prop := Claim7.holds Tryd.pinned (.plain (OpenSpec.ofChange spotOrderSpec)) spotOrderCard

/-- THE TIED CARD OF 'outriderlaw04.SpotBytes'. -/
def spotBytesCard : Claim7 := { stood := { row := spotBytesRow, standIns := [], harness := (true, "3ab90931bc484f998274fc08080fd13fa6444830ba8200e8223a7ca22e3c4034"), looks := true }, kinds := [], alts := [], laidByText := true, laidKinds := [.data, .data, .data, .sentinel, .sentinel], laidTests := true, laidLooks := .later }
def SpotBytesCardSaid : Prop := Claim7.holds Tryd.pinned (.plain (OpenSpec.ofChange spotBytesSpec)) spotBytesCard

/-- THE SECOND FORM's CARD OF 'outriderlaw03.LabelTexts'. -/
def labelTextsUptoCard : Claim7 := { stood := { row := labelTextsUptoRow, standIns := [], harness := (true, "3ab90931bc484f998274fc08080fd13fa6444830ba8200e8223a7ca22e3c4034"), looks := true }, kinds := [], alts := [], laidByText := true, laidKinds := [.data, .pinned], laidTests := true, laidLooks := .later }
def LabelTextsUptoCardSaid : Prop := Claim7.holds Tryd.pinned (.plain (OpenSpec.upto labelTextsSpec)) labelTextsUptoCard

/-- THE SECOND FORM's CARD OF 'outriderlaw03.LabelUnder'. -/
def labelUnderUptoCard : Claim7 := { stood := { row := labelUnderUptoRow, standIns := [], harness := (true, "3ab90931bc484f998274fc08080fd13fa6444830ba8200e8223a7ca22e3c4034"), looks := true }, kinds := [], alts := [], laidByText := true, laidKinds := [.data, .pinned], laidTests := true, laidLooks := .later }
def LabelUnderUptoCardSaid : Prop := Claim7.holds Tryd.pinned (.plain (OpenSpec.upto labelUnderSpec)) labelUnderUptoCard

/-- THE SECOND FORM's CARD OF 'outriderlaw03.LabelCovers'. -/
def labelCoversUptoCard : Claim7 := { stood := { row := labelCoversUptoRow, standIns := [], harness := (true, "3ab90931bc484f998274fc08080fd13fa6444830ba8200e8223a7ca22e3c4034"), looks := true }, kinds := [], alts := [], laidByText := true, laidKinds := [.data, .pinned], laidTests := true, laidLooks := .later }
def LabelCoversUptoCardSaid : Prop := Claim7.holds Tryd.pinned (.plain (OpenSpec.upto labelCoversSpec)) labelCoversUptoCard

/-- THE SECOND FORM's CARD OF 'outriderlaw03.LabelLower'. -/
def labelLowerUptoCard : Claim7 := { stood := { row := labelLowerUptoRow, standIns := [], harness := (true, "3ab90931bc484f998274fc08080fd13fa6444830ba8200e8223a7ca22e3c4034"), looks := true }, kinds := [], alts := [], laidByText := true, laidKinds := [.data, .pinned], laidTests := true, laidLooks := .later }
def LabelLowerUptoCardSaid : Prop := Claim7.holds Tryd.pinned (.plain (OpenSpec.upto labelLowerSpec)) labelLowerUptoCard

/-- THE SECOND FORM's CARD OF 'outriderlaw03.LabelStars'. -/
def labelStarsUptoCard : Claim7 := { stood := { row := labelStarsUptoRow, standIns := [], harness := (true, "3ab90931bc484f998274fc08080fd13fa6444830ba8200e8223a7ca22e3c4034"), looks := true }, kinds := [], alts := [], laidByText := true, laidKinds := [.data, .pinned], laidTests := true, laidLooks := .later }
def LabelStarsUptoCardSaid : Prop := Claim7.holds Tryd.pinned (.plain (OpenSpec.upto labelStarsSpec)) labelStarsUptoCard

/-- THE SECOND FORM's CARD OF 'outriderlaw04.SpotTexts'. -/
def spotTextsUptoCard : Claim7 := { stood := { row := spotTextsUptoRow, standIns := [], harness := (true, "3ab90931bc484f998274fc08080fd13fa6444830ba8200e8223a7ca22e3c4034"), looks := true }, kinds := [], alts := [], laidByText := true, laidKinds := [.data, .data, .data, .sentinel, .sentinel], laidTests := true, laidLooks := .later }
def SpotTextsUptoCardSaid : Prop := Claim7.holds Tryd.pinned (.plain (OpenSpec.upto spotTextsSpec)) spotTextsUptoCard

/-- THE SECOND FORM's CARD OF 'outriderlaw04.SpotMeets'. -/
def spotMeetsUptoCard : Claim7 := { stood := { row := spotMeetsUptoRow, standIns := [], harness := (true, "3ab90931bc484f998274fc08080fd13fa6444830ba8200e8223a7ca22e3c4034"), looks := true }, kinds := [], alts := [], laidByText := true, laidKinds := [.data, .data, .data, .sentinel, .sentinel], laidTests := true, laidLooks := .later }
def SpotMeetsUptoCardSaid : Prop := Claim7.holds Tryd.pinned (.plain (OpenSpec.upto spotMeetsSpec)) spotMeetsUptoCard

/-- THE SECOND FORM's CARD OF 'outriderlaw04.SpotOrder'. -/
def spotOrderUptoCard : Claim7 := { stood := { row := spotOrderUptoRow, standIns := [], harness := (true, "3ab90931bc484f998274fc08080fd13fa6444830ba8200e8223a7ca22e3c4034"), looks := true }, kinds := [], alts := [], laidByText := true, laidKinds := [.data, .data, .data, .sentinel, .sentinel], laidTests := true, laidLooks := .later }
def SpotOrderUptoCardSaid : Prop := Claim7.holds Tryd.pinned (.plain (OpenSpec.upto spotOrderSpec)) spotOrderUptoCard

/-- THE SECOND FORM's CARD OF 'outriderlaw04.SpotBytes'. -/
def spotBytesUptoCard : Claim7 := { stood := { row := spotBytesUptoRow, standIns := [], harness := (true, "3ab90931bc484f998274fc08080fd13fa6444830ba8200e8223a7ca22e3c4034"), looks := true }, kinds := [], alts := [], laidByText := true, laidKinds := [.data, .data, .data, .sentinel, .sentinel], laidTests := true, laidLooks := .later }
def SpotBytesUptoCardSaid : Prop := Claim7.holds Tryd.pinned (.plain (OpenSpec.upto spotBytesSpec)) spotBytesUptoCard
end Rows
end Go.Proofs.YtmflpjgedoopoaaDoor
