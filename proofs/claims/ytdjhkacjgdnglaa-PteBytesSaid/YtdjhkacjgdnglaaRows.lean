/-
  No cell of these rows narrows 'for every input' (looked for: loops, veiled, ifaces, maps, wideKeys, modest, calm, conditions, laid).
  DERIVED. THE GIVEN ROWS OF THIS SEAT. 11 by the template 'for every input the law returns true; each argument reads behind the call as it read before'; 0 by the template 'total and deterministic' (their statements: YtdjhkacjgdnglaaTotals.lean).
  GIVEN WITH THE SEED: the statements are not yours to turn. If you find one false, say at which input.
  Laid BY PROGRAM, IN A SANDBOX (cutbox-rows.mjs): the forced cells as the released guide's own fill.sh prints them over the translation ec51afcb5adf8a21… (all of the seat's roots in one cut). By AI agents, Wed Nov 11 2026. No macro, syntax, notation, axiom, sorry.
-/
import Derived.Test.YtdjhkacjgdnglaaChecked
import GoSem.Claim
import GoSem.ClaimJoined
import GoSem.ClaimMapViews
import Derived.JoinedTies
import Derived.KernelRfl
namespace Go.Proofs.Ytdjhkacjgdnglaa
/- THE CELL 'sum', in the pinned program and in every row, IS THE sha256 OF THE DUMP (.gsa) THAT YtdjhkacjgdnglaaProg.lean LOADS. Nothing in Lean hashes anything: it is a label: what it is worth is what the hold of that sum in a sandbox is worth. -/
noncomputable def Try.pinned : Pinned := { name := "ytdjhkacjgdnglaa", sum := "ec51afcb5adf8a21c7327ae4125849f274b0c95f6adfc43847751c907ab79ec0", checked := Try.checked }
namespace Rows
def none {H : Type} : Left H := { results := [], args := [] }

/-- 'tenementlaw01.PhysPlays': WHATEVER THE INPUT: true; the input reads as it did. -/
def physPlaysSpec : ChangeSpec := { name := "physPlays", fn := fun _ => fun
  | [d1, d2] => { results := [.lit (.bool true)], args := [d1, d2] }
  | _ => none }
def physPlaysRow : OpenClaim := { program := "ytdjhkacjgdnglaa", sum := "ec51afcb5adf8a21c7327ae4125849f274b0c95f6adfc43847751c907ab79ec0", func := "tenement/tenementlaw01.PhysPlays", spec := "physPlays", unfollowed := true, recurses := true, apart := false }
def PhysPlaysSaid : Prop := physPlaysRow.holds Try.pinned (OpenSpec.ofChange physPlaysSpec)

/-- ITS FALSE NEIGHBOUR: 'it returns false'. Refute it at one input. -/
def physPlaysWrong : ChangeSpec := { name := "physPlays", fn := fun _ => fun
  | [d1, d2] => { results := [.lit (.bool false)], args := [d1, d2] }
  | _ => none }
def PhysPlaysWrongFalsely : Prop := physPlaysRow.holds Try.pinned (OpenSpec.ofChange physPlaysWrong)

/-- 'tenementlaw01.PhysCopies': WHATEVER THE INPUT: true; the input reads as it did. -/
def physCopiesSpec : ChangeSpec := { name := "physCopies", fn := fun _ => fun
  | [d1, d2, d3] => { results := [.lit (.bool true)], args := [d1, d2, d3] }
  | _ => none }
def physCopiesRow : OpenClaim := { program := "ytdjhkacjgdnglaa", sum := "ec51afcb5adf8a21c7327ae4125849f274b0c95f6adfc43847751c907ab79ec0", func := "tenement/tenementlaw01.PhysCopies", spec := "physCopies", unfollowed := true, recurses := true, apart := false }
def PhysCopiesSaid : Prop := physCopiesRow.holds Try.pinned (OpenSpec.ofChange physCopiesSpec)

/-- ITS FALSE NEIGHBOUR: 'it returns false'. Refute it at one input. -/
def physCopiesWrong : ChangeSpec := { name := "physCopies", fn := fun _ => fun
  | [d1, d2, d3] => { results := [.lit (.bool false)], args := [d1, d2, d3] }
  | _ => none }
def PhysCopiesWrongFalsely : Prop := physCopiesRow.holds Try.pinned (OpenSpec.ofChange physCopiesWrong)

/-- 'tenementlaw04.PteWalks': WHATEVER THE INPUT: true; the input reads as it did. -/
def pteWalksSpec : ChangeSpec := { name := "pteWalks", fn := fun _ => fun
  | [d1, d2, d3, d4, d5, d6] => { results := [.lit (.bool true)], args := [d1, d2, d3, d4, d5, d6] }
  | _ => none }
def pteWalksRow : OpenClaim := { program := "ytdjhkacjgdnglaa", sum := "ec51afcb5adf8a21c7327ae4125849f274b0c95f6adfc43847751c907ab79ec0", func := "tenement/tenementlaw04.PteWalks", spec := "pteWalks", unfollowed := true, recurses := true, apart := false }
def PteWalksSaid : Prop := pteWalksRow.holds Try.pinned (OpenSpec.ofChange pteWalksSpec)

/-- ITS FALSE NEIGHBOUR: 'it returns false'. Refute it at one input. -/
def pteWalksWrong : ChangeSpec := { name := "pteWalks", fn := fun _ => fun
  | [d1, d2, d3, d4, d5, d6] => { results := [.lit (.bool false)], args := [d1, d2, d3, d4, d5, d6] }
  | _ => none }
def PteWalksWrongFalsely : Prop := pteWalksRow.holds Try.pinned (OpenSpec.ofChange pteWalksWrong)

/-- 'tenementlaw04.PteBytes': WHATEVER THE INPUT: true; the input reads as it did. -/
def pteBytesSpec : ChangeSpec := { name := "pteBytes", fn := fun _ => fun
  | [d1, d2, d3, d4, d5, d6] => { results := [.lit (.bool true)], args := [d1, d2, d3, d4, d5, d6] }
  | _ => none }
def pteBytesRow : OpenClaim := { program := "ytdjhkacjgdnglaa", sum := "ec51afcb5adf8a21c7327ae4125849f274b0c95f6adfc43847751c907ab79ec0", func := "tenement/tenementlaw04.PteBytes", spec := "pteBytes", unfollowed := true, recurses := true, apart := false }
def PteBytesSaid : Prop := pteBytesRow.holds Try.pinned (OpenSpec.ofChange pteBytesSpec)

/-- ITS FALSE NEIGHBOUR: 'it returns false'. Refute it at one input. -/
def pteBytesWrong : ChangeSpec := { name := "pteBytes", fn := fun _ => fun
  | [d1, d2, d3, d4, d5, d6] => { results := [.lit (.bool false)], args := [d1, d2, d3, d4, d5, d6] }
  | _ => none }
def PteBytesWrongFalsely : Prop := pteBytesRow.holds Try.pinned (OpenSpec.ofChange pteBytesWrong)

/-- 'tenementlaw04.PteBack': WHATEVER THE INPUT: true; the input reads as it did. -/
def pteBackSpec : ChangeSpec := { name := "pteBack", fn := fun _ => fun
  | [d1, d2] => { results := [.lit (.bool true)], args := [d1, d2] }
  | _ => none }
def pteBackRow : OpenClaim := { program := "ytdjhkacjgdnglaa", sum := "ec51afcb5adf8a21c7327ae4125849f274b0c95f6adfc43847751c907ab79ec0", func := "tenement/tenementlaw04.PteBack", spec := "pteBack", apart := false }
def PteBackSaid : Prop := pteBackRow.holds Try.pinned (OpenSpec.ofChange pteBackSpec)

/-- ITS FALSE NEIGHBOUR: 'it returns false'. Refute it at one input. -/
def pteBackWrong : ChangeSpec := { name := "pteBack", fn := fun _ => fun
  | [d1, d2] => { results := [.lit (.bool false)], args := [d1, d2] }
  | _ => none }
def PteBackWrongFalsely : Prop := pteBackRow.holds Try.pinned (OpenSpec.ofChange pteBackWrong)

/-- 'tenementlaw04.PteKept': WHATEVER THE INPUT: true; the input reads as it did. -/
def pteKeptSpec : ChangeSpec := { name := "pteKept", fn := fun _ => fun
  | [d1, d2, d3] => { results := [.lit (.bool true)], args := [d1, d2, d3] }
  | _ => none }
def pteKeptRow : OpenClaim := { program := "ytdjhkacjgdnglaa", sum := "ec51afcb5adf8a21c7327ae4125849f274b0c95f6adfc43847751c907ab79ec0", func := "tenement/tenementlaw04.PteKept", spec := "pteKept", unfollowed := true, recurses := true, apart := false }
def PteKeptSaid : Prop := pteKeptRow.holds Try.pinned (OpenSpec.ofChange pteKeptSpec)

/-- ITS FALSE NEIGHBOUR: 'it returns false'. Refute it at one input. -/
def pteKeptWrong : ChangeSpec := { name := "pteKept", fn := fun _ => fun
  | [d1, d2, d3] => { results := [.lit (.bool false)], args := [d1, d2, d3] }
  | _ => none }
def PteKeptWrongFalsely : Prop := pteKeptRow.holds Try.pinned (OpenSpec.ofChange pteKeptWrong)

/-- 'tenementlaw04.PteZero': WHATEVER THE INPUT: true; the input reads as it did. -/
def pteZeroSpec : ChangeSpec := { name := "pteZero", fn := fun _ => fun
  | [d1, d2, d3] => { results := [.lit (.bool true)], args := [d1, d2, d3] }
  | _ => none }
def pteZeroRow : OpenClaim := { program := "ytdjhkacjgdnglaa", sum := "ec51afcb5adf8a21c7327ae4125849f274b0c95f6adfc43847751c907ab79ec0", func := "tenement/tenementlaw04.PteZero", spec := "pteZero", apart := false }
def PteZeroSaid : Prop := pteZeroRow.holds Try.pinned (OpenSpec.ofChange pteZeroSpec)

/-- ITS FALSE NEIGHBOUR: 'it returns false'. Refute it at one input. -/
def pteZeroWrong : ChangeSpec := { name := "pteZero", fn := fun _ => fun
  | [d1, d2, d3] => { results := [.lit (.bool false)], args := [d1, d2, d3] }
  | _ => none }
def PteZeroWrongFalsely : Prop := pteZeroRow.holds Try.pinned (OpenSpec.ofChange pteZeroWrong)

/-- 'tenementlaw04.PtePacks': WHATEVER THE INPUT: true; the input reads as it did. -/
def ptePacksSpec : ChangeSpec := { name := "ptePacks", fn := fun _ => fun
  | [d] => { results := [.lit (.bool true)], args := [d] }
  | _ => none }
def ptePacksRow : OpenClaim := { program := "ytdjhkacjgdnglaa", sum := "ec51afcb5adf8a21c7327ae4125849f274b0c95f6adfc43847751c907ab79ec0", func := "tenement/tenementlaw04.PtePacks", spec := "ptePacks", apart := false }
def PtePacksSaid : Prop := ptePacksRow.holds Try.pinned (OpenSpec.ofChange ptePacksSpec)

/-- ITS FALSE NEIGHBOUR: 'it returns false'. Refute it at one input. -/
def ptePacksWrong : ChangeSpec := { name := "ptePacks", fn := fun _ => fun
  | [d] => { results := [.lit (.bool false)], args := [d] }
  | _ => none }
def PtePacksWrongFalsely : Prop := ptePacksRow.holds Try.pinned (OpenSpec.ofChange ptePacksWrong)

/-- 'tenementlaw04.PteUnpacks': WHATEVER THE INPUT: true; the input reads as it did. -/
def pteUnpacksSpec : ChangeSpec := { name := "pteUnpacks", fn := fun _ => fun
  | [d] => { results := [.lit (.bool true)], args := [d] }
  | _ => none }
def pteUnpacksRow : OpenClaim := { program := "ytdjhkacjgdnglaa", sum := "ec51afcb5adf8a21c7327ae4125849f274b0c95f6adfc43847751c907ab79ec0", func := "tenement/tenementlaw04.PteUnpacks", spec := "pteUnpacks", apart := false }
def PteUnpacksSaid : Prop := pteUnpacksRow.holds Try.pinned (OpenSpec.ofChange pteUnpacksSpec)

/-- ITS FALSE NEIGHBOUR: 'it returns false'. Refute it at one input. -/
def pteUnpacksWrong : ChangeSpec := { name := "pteUnpacks", fn := fun _ => fun
  | [d] => { results := [.lit (.bool false)], args := [d] }
  | _ => none }
def PteUnpacksWrongFalsely : Prop := pteUnpacksRow.holds Try.pinned (OpenSpec.ofChange pteUnpacksWrong)

/-- 'tenementlaw04.PteSplits': WHATEVER THE INPUT: true; the input reads as it did. -/
def pteSplitsSpec : ChangeSpec := { name := "pteSplits", fn := fun _ => fun
  | [d] => { results := [.lit (.bool true)], args := [d] }
  | _ => none }
def pteSplitsRow : OpenClaim := { program := "ytdjhkacjgdnglaa", sum := "ec51afcb5adf8a21c7327ae4125849f274b0c95f6adfc43847751c907ab79ec0", func := "tenement/tenementlaw04.PteSplits", spec := "pteSplits", apart := false }
def PteSplitsSaid : Prop := pteSplitsRow.holds Try.pinned (OpenSpec.ofChange pteSplitsSpec)

/-- ITS FALSE NEIGHBOUR: 'it returns false'. Refute it at one input. -/
def pteSplitsWrong : ChangeSpec := { name := "pteSplits", fn := fun _ => fun
  | [d] => { results := [.lit (.bool false)], args := [d] }
  | _ => none }
def PteSplitsWrongFalsely : Prop := pteSplitsRow.holds Try.pinned (OpenSpec.ofChange pteSplitsWrong)

/-- 'tenementlaw04.PteJoins': WHATEVER THE INPUT: true; the input reads as it did. -/
def pteJoinsSpec : ChangeSpec := { name := "pteJoins", fn := fun _ => fun
  | [d1, d2, d3] => { results := [.lit (.bool true)], args := [d1, d2, d3] }
  | _ => none }
def pteJoinsRow : OpenClaim := { program := "ytdjhkacjgdnglaa", sum := "ec51afcb5adf8a21c7327ae4125849f274b0c95f6adfc43847751c907ab79ec0", func := "tenement/tenementlaw04.PteJoins", spec := "pteJoins", apart := false }
def PteJoinsSaid : Prop := pteJoinsRow.holds Try.pinned (OpenSpec.ofChange pteJoinsSpec)

/-- ITS FALSE NEIGHBOUR: 'it returns false'. Refute it at one input. -/
def pteJoinsWrong : ChangeSpec := { name := "pteJoins", fn := fun _ => fun
  | [d1, d2, d3] => { results := [.lit (.bool false)], args := [d1, d2, d3] }
  | _ => none }
def PteJoinsWrongFalsely : Prop := pteJoinsRow.holds Try.pinned (OpenSpec.ofChange pteJoinsWrong)

/- THE SECOND FORM. 'bulk': how many values and letters a reading holds, each counted each time it is reached (what is shared counts as often as it is met; a slice's spare places count too). A statement '..UptoSaid' is the law's where the arguments, and the package variables that the reading takes, are together of bulk at most 1048576: NARROWER than '..Said'. Prove '..Said' where nothing that the law and all that it calls make is longer than what came in: it says more and counts as full. Else prove '..UptoSaid'. A law counts once. -/
mutual
def uptoBulk {H : Type} : DataW H → Nat
  | .lit (.string bytes) => bytes.length + 1
  | .lit _ => 1
  | .nil => 1
  | .ptr d => uptoBulk d + 1
  | .slice elems spare => uptoBulkAll elems + uptoBulkAll spare + 1
  | .agg parts => uptoBulkAll parts + 1
  | .iface _ d => uptoBulk d + 1
  | .map entries => uptoBulkEntries entries + 1
  | .held _ => 1
def uptoBulkAll {H : Type} : List (DataW H) → Nat
  | [] => 0
  | d :: r => uptoBulk d + uptoBulkAll r
def uptoBulkEntries {H : Type} : List (Lit × DataW H) → Nat
  | [] => 0
  | x :: r => uptoBulkEntry x + uptoBulkEntries r
def uptoBulkEntry {H : Type} : Lit × DataW H → Nat
  | (.string bytes, d) => bytes.length + uptoBulk d + 1
  | (_, d) => uptoBulk d + 1
 end
def uptoSmall : (H : Type) → List (DataW H) → Bool := fun _ ds => decide (uptoBulkAll ds ≤ 1048576)
def OpenSpec.upto (s : _root_.Go.ChangeSpec) : _root_.Go.OpenSpec := { _root_.Go.OpenSpec.ofChange s with cond := some uptoSmall }

/-- 'tenementlaw01.PhysPlays', WHERE WHAT IT READS IS OF BULK AT MOST 1048576: true; the input reads as it did. -/
def physPlaysUptoRow : OpenClaim := { program := "ytdjhkacjgdnglaa", sum := "ec51afcb5adf8a21c7327ae4125849f274b0c95f6adfc43847751c907ab79ec0", func := "tenement/tenementlaw01.PhysPlays", spec := "physPlays", unfollowed := true, recurses := true, apart := false, narrowed := true }
def PhysPlaysUptoSaid : Prop := physPlaysUptoRow.holds Try.pinned (OpenSpec.upto physPlaysSpec)

/-- 'tenementlaw01.PhysCopies', WHERE WHAT IT READS IS OF BULK AT MOST 1048576: true; the input reads as it did. -/
def physCopiesUptoRow : OpenClaim := { program := "ytdjhkacjgdnglaa", sum := "ec51afcb5adf8a21c7327ae4125849f274b0c95f6adfc43847751c907ab79ec0", func := "tenement/tenementlaw01.PhysCopies", spec := "physCopies", unfollowed := true, recurses := true, apart := false, narrowed := true }
def PhysCopiesUptoSaid : Prop := physCopiesUptoRow.holds Try.pinned (OpenSpec.upto physCopiesSpec)

/-- 'tenementlaw04.PteWalks', WHERE WHAT IT READS IS OF BULK AT MOST 1048576: true; the input reads as it did. -/
def pteWalksUptoRow : OpenClaim := { program := "ytdjhkacjgdnglaa", sum := "ec51afcb5adf8a21c7327ae4125849f274b0c95f6adfc43847751c907ab79ec0", func := "tenement/tenementlaw04.PteWalks", spec := "pteWalks", unfollowed := true, recurses := true, apart := false, narrowed := true }
def PteWalksUptoSaid : Prop := pteWalksUptoRow.holds Try.pinned (OpenSpec.upto pteWalksSpec)

/-- 'tenementlaw04.PteBytes', WHERE WHAT IT READS IS OF BULK AT MOST 1048576: true; the input reads as it did. -/
def pteBytesUptoRow : OpenClaim := { program := "ytdjhkacjgdnglaa", sum := "ec51afcb5adf8a21c7327ae4125849f274b0c95f6adfc43847751c907ab79ec0", func := "tenement/tenementlaw04.PteBytes", spec := "pteBytes", unfollowed := true, recurses := true, apart := false, narrowed := true }
def PteBytesUptoSaid : Prop := pteBytesUptoRow.holds Try.pinned (OpenSpec.upto pteBytesSpec)

/-- 'tenementlaw04.PteBack', WHERE WHAT IT READS IS OF BULK AT MOST 1048576: true; the input reads as it did. -/
def pteBackUptoRow : OpenClaim := { program := "ytdjhkacjgdnglaa", sum := "ec51afcb5adf8a21c7327ae4125849f274b0c95f6adfc43847751c907ab79ec0", func := "tenement/tenementlaw04.PteBack", spec := "pteBack", apart := false, narrowed := true }
def PteBackUptoSaid : Prop := pteBackUptoRow.holds Try.pinned (OpenSpec.upto pteBackSpec)

/-- 'tenementlaw04.PteKept', WHERE WHAT IT READS IS OF BULK AT MOST 1048576: true; the input reads as it did. -/
def pteKeptUptoRow : OpenClaim := { program := "ytdjhkacjgdnglaa", sum := "ec51afcb5adf8a21c7327ae4125849f274b0c95f6adfc43847751c907ab79ec0", func := "tenement/tenementlaw04.PteKept", spec := "pteKept", unfollowed := true, recurses := true, apart := false, narrowed := true }
def PteKeptUptoSaid : Prop := pteKeptUptoRow.holds Try.pinned (OpenSpec.upto pteKeptSpec)

/-- 'tenementlaw04.PteZero', WHERE WHAT IT READS IS OF BULK AT MOST 1048576: true; the input reads as it did. -/
def pteZeroUptoRow : OpenClaim := { program := "ytdjhkacjgdnglaa", sum := "ec51afcb5adf8a21c7327ae4125849f274b0c95f6adfc43847751c907ab79ec0", func := "tenement/tenementlaw04.PteZero", spec := "pteZero", apart := false, narrowed := true }
def PteZeroUptoSaid : Prop := pteZeroUptoRow.holds Try.pinned (OpenSpec.upto pteZeroSpec)

/-- 'tenementlaw04.PtePacks', WHERE WHAT IT READS IS OF BULK AT MOST 1048576: true; the input reads as it did. -/
def ptePacksUptoRow : OpenClaim := { program := "ytdjhkacjgdnglaa", sum := "ec51afcb5adf8a21c7327ae4125849f274b0c95f6adfc43847751c907ab79ec0", func := "tenement/tenementlaw04.PtePacks", spec := "ptePacks", apart := false, narrowed := true }
def PtePacksUptoSaid : Prop := ptePacksUptoRow.holds Try.pinned (OpenSpec.upto ptePacksSpec)

/-- 'tenementlaw04.PteUnpacks', WHERE WHAT IT READS IS OF BULK AT MOST 1048576: true; the input reads as it did. -/
def pteUnpacksUptoRow : OpenClaim := { program := "ytdjhkacjgdnglaa", sum := "ec51afcb5adf8a21c7327ae4125849f274b0c95f6adfc43847751c907ab79ec0", func := "tenement/tenementlaw04.PteUnpacks", spec := "pteUnpacks", apart := false, narrowed := true }
def PteUnpacksUptoSaid : Prop := pteUnpacksUptoRow.holds Try.pinned (OpenSpec.upto pteUnpacksSpec)

/-- 'tenementlaw04.PteSplits', WHERE WHAT IT READS IS OF BULK AT MOST 1048576: true; the input reads as it did. -/
def pteSplitsUptoRow : OpenClaim := { program := "ytdjhkacjgdnglaa", sum := "ec51afcb5adf8a21c7327ae4125849f274b0c95f6adfc43847751c907ab79ec0", func := "tenement/tenementlaw04.PteSplits", spec := "pteSplits", apart := false, narrowed := true }
def PteSplitsUptoSaid : Prop := pteSplitsUptoRow.holds Try.pinned (OpenSpec.upto pteSplitsSpec)

/-- 'tenementlaw04.PteJoins', WHERE WHAT IT READS IS OF BULK AT MOST 1048576: true; the input reads as it did. -/
def pteJoinsUptoRow : OpenClaim := { program := "ytdjhkacjgdnglaa", sum := "ec51afcb5adf8a21c7327ae4125849f274b0c95f6adfc43847751c907ab79ec0", func := "tenement/tenementlaw04.PteJoins", spec := "pteJoins", apart := false, narrowed := true }
def PteJoinsUptoSaid : Prop := pteJoinsUptoRow.holds Try.pinned (OpenSpec.upto pteJoinsSpec)

end Rows
end Go.Proofs.Ytdjhkacjgdnglaa
