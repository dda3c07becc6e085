/-
  No cell of these rows narrows 'for every input' (looked for: loops, veiled, ifaces, maps, wideKeys, modest, calm, conditions, laid).
  DERIVED. THE GIVEN ROWS OF THIS SEAT. 12 by the template 'for every input the law returns true; each argument reads behind the call as it read before'; 0 by the template 'total and deterministic' (their statements: YtemeihamkdpmoaaTotals.lean).
  GIVEN WITH THE SEED: the statements are not yours to turn. If you find one false, say at which input.
  Laid BY PROGRAM, IN A SANDBOX (cutbox-rows.mjs): the forced cells as the released guide's own fill.sh prints them over the translation e7044a0ee1efb87f… (all of the seat's roots in one cut). By AI agents, Wed Nov 11 2026. No macro, syntax, notation, axiom, sorry.
-/
import Derived.Test.YtemeihamkdpmoaaChecked
import GoSem.Claim
import GoSem.ClaimJoined
import GoSem.ClaimMapViews
import Derived.JoinedTies
import Derived.KernelRfl
namespace Go.Proofs.Ytemeihamkdpmoaa
/- THE CELL 'sum', in the pinned program and in every row, IS THE sha256 OF THE DUMP (.gsa) THAT YtemeihamkdpmoaaProg.lean LOADS. Nothing in Lean hashes anything: it is a label: what it is worth is what the hold of that sum in a sandbox is worth. -/
noncomputable def Try.pinned : Pinned := { name := "ytemeihamkdpmoaa", sum := "e7044a0ee1efb87fe6eb5ae4c15f47d673955f41d5d2bbd1ad9bc6bc448ca91d", checked := Try.checked }
namespace Rows
def none {H : Type} : Left H := { results := [], args := [] }

/-- 'tenementlaw01.PhysPlays': WHATEVER THE INPUT: true; the input reads as it did. -/
def physPlaysSpec : ChangeSpec := { name := "physPlays", fn := fun _ => fun
  | [d1, d2] => { results := [.lit (.bool true)], args := [d1, d2] }
  | _ => none }
def physPlaysRow : OpenClaim := { program := "ytemeihamkdpmoaa", sum := "e7044a0ee1efb87fe6eb5ae4c15f47d673955f41d5d2bbd1ad9bc6bc448ca91d", func := "tenement/tenementlaw01.PhysPlays", spec := "physPlays", unfollowed := true, recurses := true, apart := false }
def PhysPlaysSaid : Prop := physPlaysRow.holds Try.pinned (OpenSpec.ofChange physPlaysSpec)

/-- ITS FALSE NEIGHBOUR: 'it returns false'. Refute it at one input. -/
def physPlaysWrong : ChangeSpec := { name := "physPlays", fn := fun _ => fun
  | [d1, d2] => { results := [.lit (.bool false)], args := [d1, d2] }
  | _ => none }
def PhysPlaysWrongFalsely : Prop := physPlaysRow.holds Try.pinned (OpenSpec.ofChange physPlaysWrong)

/-- 'tenementlaw01.PhysCopies': WHATEVER THE INPUT: true; the input reads as it did. -/
def physCopiesSpec : ChangeSpec := { name := "physCopies", fn := fun _ => fun
  | [d1, d2, d3] => { results := [.lit (.bool true)], args := [d1, d2, d3] }
  | _ => none }
def physCopiesRow : OpenClaim := { program := "ytemeihamkdpmoaa", sum := "e7044a0ee1efb87fe6eb5ae4c15f47d673955f41d5d2bbd1ad9bc6bc448ca91d", func := "tenement/tenementlaw01.PhysCopies", spec := "physCopies", unfollowed := true, recurses := true, apart := false }
def PhysCopiesSaid : Prop := physCopiesRow.holds Try.pinned (OpenSpec.ofChange physCopiesSpec)

/-- ITS FALSE NEIGHBOUR: 'it returns false'. Refute it at one input. -/
def physCopiesWrong : ChangeSpec := { name := "physCopies", fn := fun _ => fun
  | [d1, d2, d3] => { results := [.lit (.bool false)], args := [d1, d2, d3] }
  | _ => none }
def PhysCopiesWrongFalsely : Prop := physCopiesRow.holds Try.pinned (OpenSpec.ofChange physCopiesWrong)

/-- 'tenementlaw04.PteWalks': WHATEVER THE INPUT: true; the input reads as it did. -/
def pteWalksSpec : ChangeSpec := { name := "pteWalks", fn := fun _ => fun
  | [d1, d2, d3, d4, d5, d6] => { results := [.lit (.bool true)], args := [d1, d2, d3, d4, d5, d6] }
  | _ => none }
def pteWalksRow : OpenClaim := { program := "ytemeihamkdpmoaa", sum := "e7044a0ee1efb87fe6eb5ae4c15f47d673955f41d5d2bbd1ad9bc6bc448ca91d", func := "tenement/tenementlaw04.PteWalks", spec := "pteWalks", unfollowed := true, recurses := true, apart := false }
def PteWalksSaid : Prop := pteWalksRow.holds Try.pinned (OpenSpec.ofChange pteWalksSpec)

/-- ITS FALSE NEIGHBOUR: 'it returns false'. Refute it at one input. -/
def pteWalksWrong : ChangeSpec := { name := "pteWalks", fn := fun _ => fun
  | [d1, d2, d3, d4, d5, d6] => { results := [.lit (.bool false)], args := [d1, d2, d3, d4, d5, d6] }
  | _ => none }
def PteWalksWrongFalsely : Prop := pteWalksRow.holds Try.pinned (OpenSpec.ofChange pteWalksWrong)

/-- 'tenementlaw04.PteBack': WHATEVER THE INPUT: true; the input reads as it did. -/
def pteBackSpec : ChangeSpec := { name := "pteBack", fn := fun _ => fun
  | [d1, d2] => { results := [.lit (.bool true)], args := [d1, d2] }
  | _ => none }
def pteBackRow : OpenClaim := { program := "ytemeihamkdpmoaa", sum := "e7044a0ee1efb87fe6eb5ae4c15f47d673955f41d5d2bbd1ad9bc6bc448ca91d", func := "tenement/tenementlaw04.PteBack", spec := "pteBack", apart := false }
def PteBackSaid : Prop := pteBackRow.holds Try.pinned (OpenSpec.ofChange pteBackSpec)

/-- ITS FALSE NEIGHBOUR: 'it returns false'. Refute it at one input. -/
def pteBackWrong : ChangeSpec := { name := "pteBack", fn := fun _ => fun
  | [d1, d2] => { results := [.lit (.bool false)], args := [d1, d2] }
  | _ => none }
def PteBackWrongFalsely : Prop := pteBackRow.holds Try.pinned (OpenSpec.ofChange pteBackWrong)

/-- 'tenementlaw04.PtePacks': WHATEVER THE INPUT: true; the input reads as it did. -/
def ptePacksSpec : ChangeSpec := { name := "ptePacks", fn := fun _ => fun
  | [d] => { results := [.lit (.bool true)], args := [d] }
  | _ => none }
def ptePacksRow : OpenClaim := { program := "ytemeihamkdpmoaa", sum := "e7044a0ee1efb87fe6eb5ae4c15f47d673955f41d5d2bbd1ad9bc6bc448ca91d", func := "tenement/tenementlaw04.PtePacks", spec := "ptePacks", apart := false }
def PtePacksSaid : Prop := ptePacksRow.holds Try.pinned (OpenSpec.ofChange ptePacksSpec)

/-- ITS FALSE NEIGHBOUR: 'it returns false'. Refute it at one input. -/
def ptePacksWrong : ChangeSpec := { name := "ptePacks", fn := fun _ => fun
  | [d] => { results := [.lit (.bool false)], args := [d] }
  | _ => none }
def PtePacksWrongFalsely : Prop := ptePacksRow.holds Try.pinned (OpenSpec.ofChange ptePacksWrong)

/-- 'tenementlaw04.PteUnpacks': WHATEVER THE INPUT: true; the input reads as it did. -/
def pteUnpacksSpec : ChangeSpec := { name := "pteUnpacks", fn := fun _ => fun
  | [d] => { results := [.lit (.bool true)], args := [d] }
  | _ => none }
def pteUnpacksRow : OpenClaim := { program := "ytemeihamkdpmoaa", sum := "e7044a0ee1efb87fe6eb5ae4c15f47d673955f41d5d2bbd1ad9bc6bc448ca91d", func := "tenement/tenementlaw04.PteUnpacks", spec := "pteUnpacks", apart := false }
def PteUnpacksSaid : Prop := pteUnpacksRow.holds Try.pinned (OpenSpec.ofChange pteUnpacksSpec)

/-- ITS FALSE NEIGHBOUR: 'it returns false'. Refute it at one input. -/
def pteUnpacksWrong : ChangeSpec := { name := "pteUnpacks", fn := fun _ => fun
  | [d] => { results := [.lit (.bool false)], args := [d] }
  | _ => none }
def PteUnpacksWrongFalsely : Prop := pteUnpacksRow.holds Try.pinned (OpenSpec.ofChange pteUnpacksWrong)

/-- 'tenementlaw05.MmuPlays': WHATEVER THE INPUT: true; the input reads as it did. -/
def mmuPlaysSpec : ChangeSpec := { name := "mmuPlays", fn := fun _ => fun
  | [d1, d2] => { results := [.lit (.bool true)], args := [d1, d2] }
  | _ => none }
def mmuPlaysRow : OpenClaim := { program := "ytemeihamkdpmoaa", sum := "e7044a0ee1efb87fe6eb5ae4c15f47d673955f41d5d2bbd1ad9bc6bc448ca91d", func := "tenement/tenementlaw05.MmuPlays", spec := "mmuPlays", unfollowed := true, recurses := true, apart := false }
def MmuPlaysSaid : Prop := mmuPlaysRow.holds Try.pinned (OpenSpec.ofChange mmuPlaysSpec)

/-- ITS FALSE NEIGHBOUR: 'it returns false'. Refute it at one input. -/
def mmuPlaysWrong : ChangeSpec := { name := "mmuPlays", fn := fun _ => fun
  | [d1, d2] => { results := [.lit (.bool false)], args := [d1, d2] }
  | _ => none }
def MmuPlaysWrongFalsely : Prop := mmuPlaysRow.holds Try.pinned (OpenSpec.ofChange mmuPlaysWrong)

/-- 'tenementlaw05.MmuCounts': WHATEVER THE INPUT: true; the input reads as it did. -/
def mmuCountsSpec : ChangeSpec := { name := "mmuCounts", fn := fun _ => fun
  | [d1, d2] => { results := [.lit (.bool true)], args := [d1, d2] }
  | _ => none }
def mmuCountsRow : OpenClaim := { program := "ytemeihamkdpmoaa", sum := "e7044a0ee1efb87fe6eb5ae4c15f47d673955f41d5d2bbd1ad9bc6bc448ca91d", func := "tenement/tenementlaw05.MmuCounts", spec := "mmuCounts", unfollowed := true, recurses := true, apart := false }
def MmuCountsSaid : Prop := mmuCountsRow.holds Try.pinned (OpenSpec.ofChange mmuCountsSpec)

/-- ITS FALSE NEIGHBOUR: 'it returns false'. Refute it at one input. -/
def mmuCountsWrong : ChangeSpec := { name := "mmuCounts", fn := fun _ => fun
  | [d1, d2] => { results := [.lit (.bool false)], args := [d1, d2] }
  | _ => none }
def MmuCountsWrongFalsely : Prop := mmuCountsRow.holds Try.pinned (OpenSpec.ofChange mmuCountsWrong)

/-- 'tenementlaw05.MmuUndo': WHATEVER THE INPUT: true; the input reads as it did. -/
def mmuUndoSpec : ChangeSpec := { name := "mmuUndo", fn := fun _ => fun
  | [d1, d2, d3] => { results := [.lit (.bool true)], args := [d1, d2, d3] }
  | _ => none }
def mmuUndoRow : OpenClaim := { program := "ytemeihamkdpmoaa", sum := "e7044a0ee1efb87fe6eb5ae4c15f47d673955f41d5d2bbd1ad9bc6bc448ca91d", func := "tenement/tenementlaw05.MmuUndo", spec := "mmuUndo", unfollowed := true, recurses := true, apart := false }
def MmuUndoSaid : Prop := mmuUndoRow.holds Try.pinned (OpenSpec.ofChange mmuUndoSpec)

/-- ITS FALSE NEIGHBOUR: 'it returns false'. Refute it at one input. -/
def mmuUndoWrong : ChangeSpec := { name := "mmuUndo", fn := fun _ => fun
  | [d1, d2, d3] => { results := [.lit (.bool false)], args := [d1, d2, d3] }
  | _ => none }
def MmuUndoWrongFalsely : Prop := mmuUndoRow.holds Try.pinned (OpenSpec.ofChange mmuUndoWrong)

/-- 'tenementlaw05.MmuZero': WHATEVER THE INPUT: true; the input reads as it did. -/
def mmuZeroSpec : ChangeSpec := { name := "mmuZero", fn := fun _ => fun
  | [d1, d2, d3] => { results := [.lit (.bool true)], args := [d1, d2, d3] }
  | _ => none }
def mmuZeroRow : OpenClaim := { program := "ytemeihamkdpmoaa", sum := "e7044a0ee1efb87fe6eb5ae4c15f47d673955f41d5d2bbd1ad9bc6bc448ca91d", func := "tenement/tenementlaw05.MmuZero", spec := "mmuZero", unfollowed := true, recurses := true, apart := false }
def MmuZeroSaid : Prop := mmuZeroRow.holds Try.pinned (OpenSpec.ofChange mmuZeroSpec)

/-- ITS FALSE NEIGHBOUR: 'it returns false'. Refute it at one input. -/
def mmuZeroWrong : ChangeSpec := { name := "mmuZero", fn := fun _ => fun
  | [d1, d2, d3] => { results := [.lit (.bool false)], args := [d1, d2, d3] }
  | _ => none }
def MmuZeroWrongFalsely : Prop := mmuZeroRow.holds Try.pinned (OpenSpec.ofChange mmuZeroWrong)

/-- 'tenementlaw05.MmuBatch': WHATEVER THE INPUT: true; the input reads as it did. -/
def mmuBatchSpec : ChangeSpec := { name := "mmuBatch", fn := fun _ => fun
  | [d1, d2, d3, d4] => { results := [.lit (.bool true)], args := [d1, d2, d3, d4] }
  | _ => none }
def mmuBatchRow : OpenClaim := { program := "ytemeihamkdpmoaa", sum := "e7044a0ee1efb87fe6eb5ae4c15f47d673955f41d5d2bbd1ad9bc6bc448ca91d", func := "tenement/tenementlaw05.MmuBatch", spec := "mmuBatch", unfollowed := true, recurses := true, apart := false }
def MmuBatchSaid : Prop := mmuBatchRow.holds Try.pinned (OpenSpec.ofChange mmuBatchSpec)

/-- ITS FALSE NEIGHBOUR: 'it returns false'. Refute it at one input. -/
def mmuBatchWrong : ChangeSpec := { name := "mmuBatch", fn := fun _ => fun
  | [d1, d2, d3, d4] => { results := [.lit (.bool false)], args := [d1, d2, d3, d4] }
  | _ => none }
def MmuBatchWrongFalsely : Prop := mmuBatchRow.holds Try.pinned (OpenSpec.ofChange mmuBatchWrong)

/-- 'tenementlaw05.MmuDrops': WHATEVER THE INPUT: true; the input reads as it did. -/
def mmuDropsSpec : ChangeSpec := { name := "mmuDrops", fn := fun _ => fun
  | [d1, d2] => { results := [.lit (.bool true)], args := [d1, d2] }
  | _ => none }
def mmuDropsRow : OpenClaim := { program := "ytemeihamkdpmoaa", sum := "e7044a0ee1efb87fe6eb5ae4c15f47d673955f41d5d2bbd1ad9bc6bc448ca91d", func := "tenement/tenementlaw05.MmuDrops", spec := "mmuDrops", unfollowed := true, recurses := true, apart := false }
def MmuDropsSaid : Prop := mmuDropsRow.holds Try.pinned (OpenSpec.ofChange mmuDropsSpec)

/-- ITS FALSE NEIGHBOUR: 'it returns false'. Refute it at one input. -/
def mmuDropsWrong : ChangeSpec := { name := "mmuDrops", fn := fun _ => fun
  | [d1, d2] => { results := [.lit (.bool false)], args := [d1, d2] }
  | _ => none }
def MmuDropsWrongFalsely : Prop := mmuDropsRow.holds Try.pinned (OpenSpec.ofChange mmuDropsWrong)

/- THE SECOND FORM. 'bulk': how many values and letters a reading holds, each counted each time it is reached (what is shared counts as often as it is met; a slice's spare places count too). A statement '..UptoSaid' is the law's where the arguments, and the package variables that the reading takes, are together of bulk at most 1048576: NARROWER than '..Said'. Prove '..Said' where nothing that the law and all that it calls make is longer than what came in: it says more and counts as full. Else prove '..UptoSaid'. A law counts once. -/
mutual
def uptoBulk {H : Type} : DataW H → Nat
  | .lit (.string bytes) => bytes.length + 1
  | .lit _ => 1
  | .nil => 1
  | .ptr d => uptoBulk d + 1
  | .slice elems spare => uptoBulkAll elems + uptoBulkAll spare + 1
  | .agg parts => uptoBulkAll parts + 1
  | .iface _ d => uptoBulk d + 1
  | .map entries => uptoBulkEntries entries + 1
  | .held _ => 1
def uptoBulkAll {H : Type} : List (DataW H) → Nat
  | [] => 0
  | d :: r => uptoBulk d + uptoBulkAll r
def uptoBulkEntries {H : Type} : List (Lit × DataW H) → Nat
  | [] => 0
  | x :: r => uptoBulkEntry x + uptoBulkEntries r
def uptoBulkEntry {H : Type} : Lit × DataW H → Nat
  | (.string bytes, d) => bytes.length + uptoBulk d + 1
  | (_, d) => uptoBulk d + 1
 end
def uptoSmall : (H : Type) → List (DataW H) → Bool := fun _ ds => decide (uptoBulkAll ds ≤ 1048576)
def OpenSpec.upto (s : _root_.Go.ChangeSpec) : _root_.Go.OpenSpec := { _root_.Go.OpenSpec.ofChange s with cond := some uptoSmall }

/-- 'tenementlaw01.PhysPlays', WHERE WHAT IT READS IS OF BULK AT MOST 1048576: true; the input reads as it did. -/
def physPlaysUptoRow : OpenClaim := { program := "ytemeihamkdpmoaa", sum := "e7044a0ee1efb87fe6eb5ae4c15f47d673955f41d5d2bbd1ad9bc6bc448ca91d", func := "tenement/tenementlaw01.PhysPlays", spec := "physPlays", unfollowed := true, recurses := true, apart := false, narrowed := true }
def PhysPlaysUptoSaid : Prop := physPlaysUptoRow.holds Try.pinned (OpenSpec.upto physPlaysSpec)

/-- 'tenementlaw01.PhysCopies', WHERE WHAT IT READS IS OF BULK AT MOST 1048576: true; the input reads as it did. -/
def physCopiesUptoRow : OpenClaim := { program := "ytemeihamkdpmoaa", sum := "e7044a0ee1efb87fe6eb5ae4c15f47d673955f41d5d2bbd1ad9bc6bc448ca91d", func := "tenement/tenementlaw01.PhysCopies", spec := "physCopies", unfollowed := true, recurses := true, apart := false, narrowed := true }
def PhysCopiesUptoSaid : Prop := physCopiesUptoRow.holds Try.pinned (OpenSpec.upto physCopiesSpec)

/-- 'tenementlaw04.PteWalks', WHERE WHAT IT READS IS OF BULK AT MOST 1048576: true; the input reads as it did. -/
def pteWalksUptoRow : OpenClaim := { program := "ytemeihamkdpmoaa", sum := "e7044a0ee1efb87fe6eb5ae4c15f47d673955f41d5d2bbd1ad9bc6bc448ca91d", func := "tenement/tenementlaw04.PteWalks", spec := "pteWalks", unfollowed := true, recurses := true, apart := false, narrowed := true }
def PteWalksUptoSaid : Prop := pteWalksUptoRow.holds Try.pinned (OpenSpec.upto pteWalksSpec)

/-- 'tenementlaw04.PteBack', WHERE WHAT IT READS IS OF BULK AT MOST 1048576: true; the input reads as it did. -/
def pteBackUptoRow : OpenClaim := { program := "ytemeihamkdpmoaa", sum := "e7044a0ee1efb87fe6eb5ae4c15f47d673955f41d5d2bbd1ad9bc6bc448ca91d", func := "tenement/tenementlaw04.PteBack", spec := "pteBack", apart := false, narrowed := true }
def PteBackUptoSaid : Prop := pteBackUptoRow.holds Try.pinned (OpenSpec.upto pteBackSpec)

/-- 'tenementlaw04.PtePacks', WHERE WHAT IT READS IS OF BULK AT MOST 1048576: true; the input reads as it did. -/
def ptePacksUptoRow : OpenClaim := { program := "ytemeihamkdpmoaa", sum := "e7044a0ee1efb87fe6eb5ae4c15f47d673955f41d5d2bbd1ad9bc6bc448ca91d", func := "tenement/tenementlaw04.PtePacks", spec := "ptePacks", apart := false, narrowed := true }
def PtePacksUptoSaid : Prop := ptePacksUptoRow.holds Try.pinned (OpenSpec.upto ptePacksSpec)

/-- 'tenementlaw04.PteUnpacks', WHERE WHAT IT READS IS OF BULK AT MOST 1048576: true; the input reads as it did. -/
def pteUnpacksUptoRow : OpenClaim := { program := "ytemeihamkdpmoaa", sum := "e7044a0ee1efb87fe6eb5ae4c15f47d673955f41d5d2bbd1ad9bc6bc448ca91d", func := "tenement/tenementlaw04.PteUnpacks", spec := "pteUnpacks", apart := false, narrowed := true }
def PteUnpacksUptoSaid : Prop := pteUnpacksUptoRow.holds Try.pinned (OpenSpec.upto pteUnpacksSpec)

/-- 'tenementlaw05.MmuPlays', WHERE WHAT IT READS IS OF BULK AT MOST 1048576: true; the input reads as it did. -/
def mmuPlaysUptoRow : OpenClaim := { program := "ytemeihamkdpmoaa", sum := "e7044a0ee1efb87fe6eb5ae4c15f47d673955f41d5d2bbd1ad9bc6bc448ca91d", func := "tenement/tenementlaw05.MmuPlays", spec := "mmuPlays", unfollowed := true, recurses := true, apart := false, narrowed := true }
def MmuPlaysUptoSaid : Prop := mmuPlaysUptoRow.holds Try.pinned (OpenSpec.upto mmuPlaysSpec)

/-- 'tenementlaw05.MmuCounts', WHERE WHAT IT READS IS OF BULK AT MOST 1048576: true; the input reads as it did. -/
def mmuCountsUptoRow : OpenClaim := { program := "ytemeihamkdpmoaa", sum := "e7044a0ee1efb87fe6eb5ae4c15f47d673955f41d5d2bbd1ad9bc6bc448ca91d", func := "tenement/tenementlaw05.MmuCounts", spec := "mmuCounts", unfollowed := true, recurses := true, apart := false, narrowed := true }
def MmuCountsUptoSaid : Prop := mmuCountsUptoRow.holds Try.pinned (OpenSpec.upto mmuCountsSpec)

/-- 'tenementlaw05.MmuUndo', WHERE WHAT IT READS IS OF BULK AT MOST 1048576: true; the input reads as it did. -/
def mmuUndoUptoRow : OpenClaim := { program := "ytemeihamkdpmoaa", sum := "e7044a0ee1efb87fe6eb5ae4c15f47d673955f41d5d2bbd1ad9bc6bc448ca91d", func := "tenement/tenementlaw05.MmuUndo", spec := "mmuUndo", unfollowed := true, recurses := true, apart := false, narrowed := true }
def MmuUndoUptoSaid : Prop := mmuUndoUptoRow.holds Try.pinned (OpenSpec.upto mmuUndoSpec)

/-- 'tenementlaw05.MmuZero', WHERE WHAT IT READS IS OF BULK AT MOST 1048576: true; the input reads as it did. -/
def mmuZeroUptoRow : OpenClaim := { program := "ytemeihamkdpmoaa", sum := "e7044a0ee1efb87fe6eb5ae4c15f47d673955f41d5d2bbd1ad9bc6bc448ca91d", func := "tenement/tenementlaw05.MmuZero", spec := "mmuZero", unfollowed := true, recurses := true, apart := false, narrowed := true }
def MmuZeroUptoSaid : Prop := mmuZeroUptoRow.holds Try.pinned (OpenSpec.upto mmuZeroSpec)

/-- 'tenementlaw05.MmuBatch', WHERE WHAT IT READS IS OF BULK AT MOST 1048576: true; the input reads as it did. -/
def mmuBatchUptoRow : OpenClaim := { program := "ytemeihamkdpmoaa", sum := "e7044a0ee1efb87fe6eb5ae4c15f47d673955f41d5d2bbd1ad9bc6bc448ca91d", func := "tenement/tenementlaw05.MmuBatch", spec := "mmuBatch", unfollowed := true, recurses := true, apart := false, narrowed := true }
def MmuBatchUptoSaid : Prop := mmuBatchUptoRow.holds Try.pinned (OpenSpec.upto mmuBatchSpec)

/-- 'tenementlaw05.MmuDrops', WHERE WHAT IT READS IS OF BULK AT MOST 1048576: true; the input reads as it did. -/
def mmuDropsUptoRow : OpenClaim := { program := "ytemeihamkdpmoaa", sum := "e7044a0ee1efb87fe6eb5ae4c15f47d673955f41d5d2bbd1ad9bc6bc448ca91d", func := "tenement/tenementlaw05.MmuDrops", spec := "mmuDrops", unfollowed := true, recurses := true, apart := false, narrowed := true }
def MmuDropsUptoSaid : Prop := mmuDropsUptoRow.holds Try.pinned (OpenSpec.upto mmuDropsSpec)

end Rows
end Go.Proofs.Ytemeihamkdpmoaa
