/-
  DERIVED. GIVEN WITH THE SEED: THE CARDS: each row of YtafebceebjjegaaGreatDoorRows.lean that lists a variable, with what it lists TIED to the program's text (the seventh form; the later family's looks); each row that meets fmt, with fmt's text TOLD by the authors' own Lean function (tested against real Go, not proved from fmt's source: count such statements apart). THE CARD IS WHAT COUNTS. Prove the row's statement (the work); the ties are given (YtafebceebjjegaaGreatDoorTie.lean); close each card by the builder's one call (the guide's Derived/Test/ToyasCard.lean, 'card_holds'). Laid BY PROGRAM, IN A SANDBOX (cutbox-door.mjs). By AI agents, Wed Nov 11 2026. No macro, syntax, notation, axiom, sorry.
-/
import Derived.Test.YtafebceebjjegaaGreatDoorRows
import GoSem.ClaimSeven
namespace Go.Proofs.YtafebceebjjegaaGreatDoor
namespace Rows

/-- THE TIED CARD OF 'tenementlaw10.StoreSerial'. -/
def storeSerialCard : Claim7 := { stood := { row := storeSerialRow, standIns := [], harness := (true, "e1c6272816c6a87b55b99a7c2e264edf040dc8271b7468bc444cd05c2f42acf1"), looks := true }, kinds := [], alts := [], laidByText := true, laidKinds := [.data, .data, .data, .data, .pinned], laidTests := true, laidLooks := .later }
def StoreSerialCardSaid : Prop := Claim7.holds Tryz.pinned (.plain (OpenSpec.ofChange storeSerialSpec)) storeSerialCard

/-- THE TIED CARD OF 'tenementlaw10.StoreZero'. -/
def storeZeroCard : Claim7 := { stood := { row := storeZeroRow, standIns := [], harness := (true, "e1c6272816c6a87b55b99a7c2e264edf040dc8271b7468bc444cd05c2f42acf1"), looks := true }, kinds := [], alts := [], laidByText := true, laidKinds := [.data, .data, .data, .data, .pinned], laidTests := true, laidLooks := .later }
def StoreZeroCardSaid : Prop := Claim7.holds Tryz.pinned (.plain (OpenSpec.ofChange storeZeroSpec)) storeZeroCard

/-- THE TIED CARD OF 'tenementlaw10.StoreOrder'. -/
def storeOrderCard : Claim7 := { stood := { row := storeOrderRow, standIns := [], harness := (true, "e1c6272816c6a87b55b99a7c2e264edf040dc8271b7468bc444cd05c2f42acf1"), looks := true }, kinds := [], alts := [], laidByText := true, laidKinds := [.data, .data, .data, .data, .pinned], laidTests := true, laidLooks := .later }
def StoreOrderCardSaid : Prop := Claim7.holds Tryz.pinned (.plain (OpenSpec.ofChange storeOrderSpec)) storeOrderCard

/-- THE TIED CARD OF 'tenementlaw10.StoreHeirs'. -/
def storeHeirsCard : Claim7 := { stood := { row := storeHeirsRow, standIns := [], harness := (true, "e1c6272816c6a87b55b99a7c2e264edf040dc8271b7468bc444cd05c2f42acf1"), looks := true }, kinds := [], alts := [], laidByText := true, laidKinds := [.data, .data, .data, .data, .pinned], laidTests := true, laidLooks := .later }
def StoreHeirsCardSaid : Prop := Claim7.holds Tryz.pinned (.plain (OpenSpec.ofChange storeHeirsSpec)) storeHeirsCard

/-- THE SECOND FORM's CARD OF 'tenementlaw10.StoreSerial'. -/
def storeSerialUptoCard : Claim7 := { stood := { row := storeSerialUptoRow, standIns := [], harness := (true, "e1c6272816c6a87b55b99a7c2e264edf040dc8271b7468bc444cd05c2f42acf1"), looks := true }, kinds := [], alts := [], laidByText := true, laidKinds := [.data, .data, .data, .data, .pinned], laidTests := true, laidLooks := .later }
def StoreSerialUptoCardSaid : Prop := Claim7.holds Tryz.pinned (.plain (OpenSpec.upto storeSerialSpec)) storeSerialUptoCard

/-- THE SECOND FORM's CARD OF 'tenementlaw10.StoreZero'. -/
def storeZeroUptoCard : Claim7 := { stood := { row := storeZeroUptoRow, standIns := [], harness := (true, "e1c6272816c6a87b55b99a7c2e264edf040dc8271b7468bc444cd05c2f42acf1"), looks := true }, kinds := [], alts := [], laidByText := true, laidKinds := [.data, .data, .data, .data, .pinned], laidTests := true, laidLooks := .later }
def StoreZeroUptoCardSaid : Prop := Claim7.holds Tryz.pinned (.plain (OpenSpec.upto storeZeroSpec)) storeZeroUptoCard

/-- THE SECOND FORM's CARD OF 'tenementlaw10.StoreOrder'. -/
def storeOrderUptoCard : Claim7 := { stood := { row := storeOrderUptoRow, standIns := [], harness := (true, "e1c6272816c6a87b55b99a7c2e264edf040dc8271b7468bc444cd05c2f42acf1"), looks := true }, kinds := [], alts := [], laidByText := true, laidKinds := [.data, .data, .data, .data, .pinned], laidTests := true, laidLooks := .later }
def StoreOrderUptoCardSaid : Prop := Claim7.holds Tryz.pinned (.plain (OpenSpec.upto storeOrderSpec)) storeOrderUptoCard

/-- THE SECOND FORM's CARD OF 'tenementlaw10.StoreHeirs'. -/
def storeHeirsUptoCard : Claim7 := { stood := { row := storeHeirsUptoRow, standIns := [], harness := (true, "e1c6272816c6a87b55b99a7c2e264edf040dc8271b7468bc444cd05c2f42acf1"), looks := true }, kinds := [], alts := [], laidByText := true, laidKinds := [.data, .data, .data, .data, .pinned], laidTests := true, laidLooks := .later }
def StoreHeirsUptoCardSaid : Prop := Claim7.holds Tryz.pinned (.plain (OpenSpec.upto storeHeirsSpec)) storeHeirsUptoCard
end Rows
end Go.Proofs.YtafebceebjjegaaGreatDoor
