/-
  No cell of these rows narrows 'for every input' (looked for: loops, veiled, ifaces, maps, wideKeys, modest, calm, conditions, laid).
  DERIVED. THE GIVEN ROWS OF THIS SEAT. 6 by the template 'for every input the law returns true; each argument reads behind the call as it read before'; 0 by the template 'total and deterministic' (their statements: YtjgikapoohibnaaTotals.lean).
  GIVEN WITH THE SEED: the statements are not yours to turn. If you find one false, say at which input.
  Laid BY PROGRAM, IN A SANDBOX (cutbox-rows.mjs): the forced cells as the released guide's own fill.sh prints them over the translation fb6fb0f6bd917e54… (all of the seat's roots in one cut). By AI agents, Wed Nov 11 2026. No macro, syntax, notation, axiom, sorry.
-/
import Derived.Test.YtjgikapoohibnaaChecked
import GoSem.Claim
import GoSem.ClaimJoined
import GoSem.ClaimMapViews
import Derived.JoinedTies
import Derived.KernelRfl
namespace Go.Proofs.Ytjgikapoohibnaa
/- THE CELL 'sum', in the pinned program and in every row, IS THE sha256 OF THE DUMP (.gsa) THAT YtjgikapoohibnaaProg.lean LOADS. Nothing in Lean hashes anything: it is a label: what it is worth is what the hold of that sum in a sandbox is worth. -/
noncomputable def Try.pinned : Pinned := { name := "ytjgikapoohibnaa", sum := "fb6fb0f6bd917e544c377b79e7b9a3d28132cb4cce0bfc1b657e8eac3f343b5a", checked := Try.checked }
namespace Rows
def none {H : Type} : Left H := { results := [], args := [] }

/-- 'tenementlaw07.EventPlays': WHATEVER THE INPUT: true; the input reads as it did. -/
def eventPlaysSpec : ChangeSpec := { name := "eventPlays", fn := fun _ => fun
  | [d] => { results := [.lit (.bool true)], args := [d] }
  | _ => none }
def eventPlaysRow : OpenClaim := { program := "ytjgikapoohibnaa", sum := "fb6fb0f6bd917e544c377b79e7b9a3d28132cb4cce0bfc1b657e8eac3f343b5a", func := "tenement/tenementlaw07.EventPlays", spec := "eventPlays", apart := false }
def EventPlaysSaid : Prop := eventPlaysRow.holds Try.pinned (OpenSpec.ofChange eventPlaysSpec)

/-- ITS FALSE NEIGHBOUR: 'it returns false'. Refute it at one input. -/
def eventPlaysWrong : ChangeSpec := { name := "eventPlays", fn := fun _ => fun
  | [d] => { results := [.lit (.bool false)], args := [d] }
  | _ => none }
def EventPlaysWrongFalsely : Prop := eventPlaysRow.holds Try.pinned (OpenSpec.ofChange eventPlaysWrong)

/-- 'tenementlaw07.EventPeers': WHATEVER THE INPUT: true; the input reads as it did. -/
def eventPeersSpec : ChangeSpec := { name := "eventPeers", fn := fun _ => fun
  | [d] => { results := [.lit (.bool true)], args := [d] }
  | _ => none }
def eventPeersRow : OpenClaim := { program := "ytjgikapoohibnaa", sum := "fb6fb0f6bd917e544c377b79e7b9a3d28132cb4cce0bfc1b657e8eac3f343b5a", func := "tenement/tenementlaw07.EventPeers", spec := "eventPeers", apart := false }
def EventPeersSaid : Prop := eventPeersRow.holds Try.pinned (OpenSpec.ofChange eventPeersSpec)

/-- ITS FALSE NEIGHBOUR: 'it returns false'. Refute it at one input. -/
def eventPeersWrong : ChangeSpec := { name := "eventPeers", fn := fun _ => fun
  | [d] => { results := [.lit (.bool false)], args := [d] }
  | _ => none }
def EventPeersWrongFalsely : Prop := eventPeersRow.holds Try.pinned (OpenSpec.ofChange eventPeersWrong)

/-- 'tenementlaw07.EventTells': WHATEVER THE INPUT: true; the input reads as it did. -/
def eventTellsSpec : ChangeSpec := { name := "eventTells", fn := fun _ => fun
  | [d1, d2, d3, d4] => { results := [.lit (.bool true)], args := [d1, d2, d3, d4] }
  | _ => none }
def eventTellsRow : OpenClaim := { program := "ytjgikapoohibnaa", sum := "fb6fb0f6bd917e544c377b79e7b9a3d28132cb4cce0bfc1b657e8eac3f343b5a", func := "tenement/tenementlaw07.EventTells", spec := "eventTells", apart := false }
def EventTellsSaid : Prop := eventTellsRow.holds Try.pinned (OpenSpec.ofChange eventTellsSpec)

/-- ITS FALSE NEIGHBOUR: 'it returns false'. Refute it at one input. -/
def eventTellsWrong : ChangeSpec := { name := "eventTells", fn := fun _ => fun
  | [d1, d2, d3, d4] => { results := [.lit (.bool false)], args := [d1, d2, d3, d4] }
  | _ => none }
def EventTellsWrongFalsely : Prop := eventTellsRow.holds Try.pinned (OpenSpec.ofChange eventTellsWrong)

/-- 'tenementlaw07.EventZero': WHATEVER THE INPUT: true; the input reads as it did. -/
def eventZeroSpec : ChangeSpec := { name := "eventZero", fn := fun _ => fun
  | [d1, d2, d3] => { results := [.lit (.bool true)], args := [d1, d2, d3] }
  | _ => none }
def eventZeroRow : OpenClaim := { program := "ytjgikapoohibnaa", sum := "fb6fb0f6bd917e544c377b79e7b9a3d28132cb4cce0bfc1b657e8eac3f343b5a", func := "tenement/tenementlaw07.EventZero", spec := "eventZero", apart := false }
def EventZeroSaid : Prop := eventZeroRow.holds Try.pinned (OpenSpec.ofChange eventZeroSpec)

/-- ITS FALSE NEIGHBOUR: 'it returns false'. Refute it at one input. -/
def eventZeroWrong : ChangeSpec := { name := "eventZero", fn := fun _ => fun
  | [d1, d2, d3] => { results := [.lit (.bool false)], args := [d1, d2, d3] }
  | _ => none }
def EventZeroWrongFalsely : Prop := eventZeroRow.holds Try.pinned (OpenSpec.ofChange eventZeroWrong)

/-- 'tenementlaw07.EventMasks': WHATEVER THE INPUT: true; the input reads as it did. -/
def eventMasksSpec : ChangeSpec := { name := "eventMasks", fn := fun _ => fun
  | [d1, d2, d3] => { results := [.lit (.bool true)], args := [d1, d2, d3] }
  | _ => none }
def eventMasksRow : OpenClaim := { program := "ytjgikapoohibnaa", sum := "fb6fb0f6bd917e544c377b79e7b9a3d28132cb4cce0bfc1b657e8eac3f343b5a", func := "tenement/tenementlaw07.EventMasks", spec := "eventMasks", apart := false }
def EventMasksSaid : Prop := eventMasksRow.holds Try.pinned (OpenSpec.ofChange eventMasksSpec)

/-- ITS FALSE NEIGHBOUR: 'it returns false'. Refute it at one input. -/
def eventMasksWrong : ChangeSpec := { name := "eventMasks", fn := fun _ => fun
  | [d1, d2, d3] => { results := [.lit (.bool false)], args := [d1, d2, d3] }
  | _ => none }
def EventMasksWrongFalsely : Prop := eventMasksRow.holds Try.pinned (OpenSpec.ofChange eventMasksWrong)

/-- 'tenementlaw07.EventLeast': WHATEVER THE INPUT: true; the input reads as it did. -/
def eventLeastSpec : ChangeSpec := { name := "eventLeast", fn := fun _ => fun
  | [d1, d2, d3] => { results := [.lit (.bool true)], args := [d1, d2, d3] }
  | _ => none }
def eventLeastRow : OpenClaim := { program := "ytjgikapoohibnaa", sum := "fb6fb0f6bd917e544c377b79e7b9a3d28132cb4cce0bfc1b657e8eac3f343b5a", func := "tenement/tenementlaw07.EventLeast", spec := "eventLeast", apart := false }
def EventLeastSaid : Prop := eventLeastRow.holds Try.pinned (OpenSpec.ofChange eventLeastSpec)

/-- ITS FALSE NEIGHBOUR: 'it returns false'. Refute it at one input. -/
def eventLeastWrong : ChangeSpec := { name := "eventLeast", fn := fun _ => fun
  | [d1, d2, d3] => { results := [.lit (.bool false)], args := [d1, d2, d3] }
  | _ => none }
def EventLeastWrongFalsely : Prop := eventLeastRow.holds Try.pinned (OpenSpec.ofChange eventLeastWrong)

/- THE SECOND FORM. 'bulk': how many values and letters a reading holds, each counted each time it is reached (what is shared counts as often as it is met; a slice's spare places count too). A statement '..UptoSaid' is the law's where the arguments, and the package variables that the reading takes, are together of bulk at most 1048576: NARROWER than '..Said'. Prove '..Said' where nothing that the law and all that it calls make is longer than what came in: it says more and counts as full. Else prove '..UptoSaid'. A law counts once. -/
mutual
def uptoBulk {H : Type} : DataW H → Nat
  | .lit (.string bytes) => bytes.length + 1
  | .lit _ => 1
  | .nil => 1
  | .ptr d => uptoBulk d + 1
  | .slice elems spare => uptoBulkAll elems + uptoBulkAll spare + 1
  | .agg parts => uptoBulkAll parts + 1
  | .iface _ d => uptoBulk d + 1
  | .map entries => uptoBulkEntries entries + 1
  | .held _ => 1
def uptoBulkAll {H : Type} : List (DataW H) → Nat
  | [] => 0
  | d :: r => uptoBulk d + uptoBulkAll r
def uptoBulkEntries {H : Type} : List (Lit × DataW H) → Nat
  | [] => 0
  | x :: r => uptoBulkEntry x + uptoBulkEntries r
def uptoBulkEntry {H : Type} : Lit × DataW H → Nat
  | (.string bytes, d) => bytes.length + uptoBulk d + 1
  | (_, d) => uptoBulk d + 1
 end
def uptoSmall : (H : Type) → List (DataW H) → Bool := fun _ ds => decide (uptoBulkAll ds ≤ 1048576)
def OpenSpec.upto (s : _root_.Go.ChangeSpec) : _root_.Go.OpenSpec := { _root_.Go.OpenSpec.ofChange s with cond := some uptoSmall }

/-- 'tenementlaw07.EventPlays', WHERE WHAT IT READS IS OF BULK AT MOST 1048576: true; the input reads as it did. -/
def eventPlaysUptoRow : OpenClaim := { program := "ytjgikapoohibnaa", sum := "fb6fb0f6bd917e544c377b79e7b9a3d28132cb4cce0bfc1b657e8eac3f343b5a", func := "tenement/tenementlaw07.EventPlays", spec := "eventPlays", apart := false, narrowed := true }
def EventPlaysUptoSaid : Prop := eventPlaysUptoRow.holds Try.pinned (OpenSpec.upto eventPlaysSpec)

/-- 'tenementlaw07.EventPeers', WHERE WHAT IT READS IS OF BULK AT MOST 1048576: true; the input reads as it did. -/
def eventPeersUptoRow : OpenClaim := { program := "ytjgikapoohibnaa", sum := "fb6fb0f6bd917e544c377b79e7b9a3d28132cb4cce0bfc1b657e8eac3f343b5a", func := "tenement/tenementlaw07.EventPeers", spec := "eventPeers", apart := false, narrowed := true }
def EventPeersUptoSaid : Prop := eventPeersUptoRow.holds Try.pinned (OpenSpec.upto eventPeersSpec)

/-- 'tenementlaw07.EventTells', WHERE WHAT IT READS IS OF BULK AT MOST 1048576: true; the input reads as it did. -/
def eventTellsUptoRow : OpenClaim := { program := "ytjgikapoohibnaa", sum := "fb6fb0f6bd917e544c377b79e7b9a3d28132cb4cce0bfc1b657e8eac3f343b5a", func := "tenement/tenementlaw07.EventTells", spec := "eventTells", apart := false, narrowed := true }
def EventTellsUptoSaid : Prop := eventTellsUptoRow.holds Try.pinned (OpenSpec.upto eventTellsSpec)

/-- 'tenementlaw07.EventZero', WHERE WHAT IT READS IS OF BULK AT MOST 1048576: true; the input reads as it did. -/
def eventZeroUptoRow : OpenClaim := { program := "ytjgikapoohibnaa", sum := "fb6fb0f6bd917e544c377b79e7b9a3d28132cb4cce0bfc1b657e8eac3f343b5a", func := "tenement/tenementlaw07.EventZero", spec := "eventZero", apart := false, narrowed := true }
def EventZeroUptoSaid : Prop := eventZeroUptoRow.holds Try.pinned (OpenSpec.upto eventZeroSpec)

/-- 'tenementlaw07.EventMasks', WHERE WHAT IT READS IS OF BULK AT MOST 1048576: true; the input reads as it did. -/
def eventMasksUptoRow : OpenClaim := { program := "ytjgikapoohibnaa", sum := "fb6fb0f6bd917e544c377b79e7b9a3d28132cb4cce0bfc1b657e8eac3f343b5a", func := "tenement/tenementlaw07.EventMasks", spec := "eventMasks", apart := false, narrowed := true }
def EventMasksUptoSaid : Prop := eventMasksUptoRow.holds Try.pinned (OpenSpec.upto eventMasksSpec)

/-- 'tenementlaw07.EventLeast', WHERE WHAT IT READS IS OF BULK AT MOST 1048576: true; the input reads as it did. -/
def eventLeastUptoRow : OpenClaim := { program := "ytjgikapoohibnaa", sum := "fb6fb0f6bd917e544c377b79e7b9a3d28132cb4cce0bfc1b657e8eac3f343b5a", func := "tenement/tenementlaw07.EventLeast", spec := "eventLeast", apart := false, narrowed := true }
def EventLeastUptoSaid : Prop := eventLeastUptoRow.holds Try.pinned (OpenSpec.upto eventLeastSpec)

end Rows
end Go.Proofs.Ytjgikapoohibnaa
