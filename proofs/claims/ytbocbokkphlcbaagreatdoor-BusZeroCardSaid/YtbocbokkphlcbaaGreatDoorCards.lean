/-
  DERIVED. GIVEN WITH THE SEED: THE CARDS: each row of YtbocbokkphlcbaaGreatDoorRows.lean that lists a variable, with what it lists TIED to the program's text (the seventh form; the later family's looks); each row that meets fmt, with fmt's text TOLD by the authors' own Lean function (tested against real Go, not proved from fmt's source: count such statements apart). THE CARD IS WHAT COUNTS. Prove the row's statement (the work); the ties are given (YtbocbokkphlcbaaGreatDoorTie.lean); close each card by the builder's one call (the guide's Derived/Test/ToyasCard.lean, 'card_holds'). Laid BY PROGRAM, IN A SANDBOX (cutbox-door.mjs). By AI agents, Wed Nov 11 2026. No macro, syntax, notation, axiom, sorry.
-/
import Derived.Test.YtbocbokkphlcbaaGreatDoorRows
import GoSem.ClaimSeven
namespace Go.Proofs.YtbocbokkphlcbaaGreatDoor
namespace Rows

/-- THE TIED CARD OF 'tenementlaw11.BusPlays'. -/
def busPlaysCard : Claim7 := { stood := { row := busPlaysRow, standIns := [], harness := (true, "1211eb346f2a07c7c327ad0d535f4f517fa102d3c5b75fbb6e7f2e38f2bdc985"), looks := false }, kinds := [], alts := [], laidByText := true, laidKinds := [.data, .data, .data, .data, .pinned], laidTests := true, laidLooks := .later }
def BusPlaysCardSaid : Prop := Claim7.holds Tryz.pinned (.plain (OpenSpec.ofChange busPlaysSpec)) busPlaysCard

/-- THE TIED CARD OF 'tenementlaw11.BusHostile'. -/
def busHostileCard : Claim7 := { stood := { row := busHostileRow, standIns := [], harness := (true, "1211eb346f2a07c7c327ad0d535f4f517fa102d3c5b75fbb6e7f2e38f2bdc985"), looks := false }, kinds := [], alts := [], laidByText := true, laidKinds := [.data, .data, .data, .data, .pinned], laidTests := true, laidLooks := .later }
def BusHostileCardSaid : Prop := Claim7.holds Tryz.pinned (.plain (OpenSpec.ofChange busHostileSpec)) busHostileCard

/-- THE TIED CARD OF 'tenementlaw11.BusMeets'. -/
def busMeetsCard : Claim7 := { stood := { row := busMeetsRow, standIns := [], harness := (true, "1211eb346f2a07c7c327ad0d535f4f517fa102d3c5b75fbb6e7f2e38f2bdc985"), looks := false }, kinds := [], alts := [], laidByText := true, laidKinds := [.data, .data, .data, .data, .pinned], laidTests := true, laidLooks := .later }
def BusMeetsCardSaid : Prop := Claim7.holds Tryz.pinned (.plain (OpenSpec.ofChange busMeetsSpec)) busMeetsCard

/-- THE TIED CARD OF 'tenementlaw11.BusZero'. -/
def busZeroCard : Claim7 := { stood := { row := busZeroRow, standIns := [], harness := (true, "1211eb346f2a07c7c327ad0d535f4f517fa102d3c5b75fbb6e7f2e38f2bdc985"), looks := false }, kinds := [], alts := [], laidByText := true, laidKinds := [.data, .data, .data, .data, .pinned], laidTests := true, laidLooks := .later }
def BusZeroCardSaid : Prop := Claim7.holds Tryz.pinned (.plain (OpenSpec.ofChange busZeroSpec)) busZeroCard

/-- THE SECOND FORM's CARD OF 'tenementlaw11.BusPlays'. -/
def busPlaysUptoCard : Claim7 := { stood := { row := busPlaysUptoRow, standIns := [], harness := (true, "1211eb346f2a07c7c327ad0d535f4f517fa102d3c5b75fbb6e7f2e38f2bdc985"), looks := false }, kinds := [], alts := [], laidByText := true, laidKinds := [.data, .data, .data, .data, .pinned], laidTests := true, laidLooks := .later }
def BusPlaysUptoCardSaid : Prop := Claim7.holds Tryz.pinned (.plain (OpenSpec.upto busPlaysSpec)) busPlaysUptoCard

/-- THE SECOND FORM's CARD OF 'tenementlaw11.BusHostile'. -/
def busHostileUptoCard : Claim7 := { stood := { row := busHostileUptoRow, standIns := [], harness := (true, "1211eb346f2a07c7c327ad0d535f4f517fa102d3c5b75fbb6e7f2e38f2bdc985"), looks := false }, kinds := [], alts := [], laidByText := true, laidKinds := [.data, .data, .data, .data, .pinned], laidTests := true, laidLooks := .later }
def BusHostileUptoCardSaid : Prop := Claim7.holds Tryz.pinned (.plain (OpenSpec.upto busHostileSpec)) busHostileUptoCard

/-- THE SECOND FORM's CARD OF 'tenementlaw11.BusMeets'. -/
def busMeetsUptoCard : Claim7 := { stood := { row := busMeetsUptoRow, standIns := [], harness := (true, "1211eb346f2a07c7c327ad0d535f4f517fa102d3c5b75fbb6e7f2e38f2bdc985"), looks := false }, kinds := [], alts := [], laidByText := true, laidKinds := [.data, .data, .data, .data, .pinned], laidTests := true, laidLooks := .later }
def BusMeetsUptoCardSaid : Prop := Claim7.holds Tryz.pinned (.plain (OpenSpec.upto busMeetsSpec)) busMeetsUptoCard

/-- THE SECOND FORM's CARD OF 'tenementlaw11.BusZero'. -/
def busZeroUptoCard : Claim7 := { stood := { row := busZeroUptoRow, standIns := [], harness := (true, "1211eb346f2a07c7c327ad0d535f4f517fa102d3c5b75fbb6e7f2e38f2bdc985"), looks := false }, kinds := [], alts := [], laidByText := true, laidKinds := [.data, .data, .data, .data, .pinned], laidTests := true, laidLooks := .later }
def BusZeroUptoCardSaid : Prop := Claim7.holds Tryz.pinned (.plain (OpenSpec.upto busZeroSpec)) busZeroUptoCard
end Rows
end Go.Proofs.YtbocbokkphlcbaaGreatDoor
