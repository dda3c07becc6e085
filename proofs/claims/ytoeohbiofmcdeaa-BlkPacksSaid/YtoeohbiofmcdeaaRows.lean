/-
  No cell of these rows narrows 'for every input' (looked for: loops, veiled, ifaces, maps, wideKeys, modest, calm, conditions, laid).
  DERIVED. THE GIVEN ROWS OF THIS SEAT. 5 by the template 'for every input the law returns true; each argument reads behind the call as it read before'; 0 by the template 'total and deterministic' (their statements: YtoeohbiofmcdeaaTotals.lean).
  GIVEN WITH THE SEED: the statements are not yours to turn. If you find one false, say at which input.
  Laid BY PROGRAM, IN A SANDBOX (cutbox-rows.mjs): the forced cells as the released guide's own fill.sh prints them over the translation 091b13b4fcaf6a99… (all of the seat's roots in one cut). By AI agents, Wed Nov 11 2026. No macro, syntax, notation, axiom, sorry.
-/
import Derived.Test.YtoeohbiofmcdeaaChecked
import GoSem.Claim
import GoSem.ClaimJoined
import GoSem.ClaimMapViews
import Derived.JoinedTies
import Derived.KernelRfl
namespace Go.Proofs.Ytoeohbiofmcdeaa
/- THE CELL 'sum', in the pinned program and in every row, IS THE sha256 OF THE DUMP (.gsa) THAT YtoeohbiofmcdeaaProg.lean LOADS. Nothing in Lean hashes anything: it is a label: what it is worth is what the hold of that sum in a sandbox is worth. -/
noncomputable def Try.pinned : Pinned := { name := "ytoeohbiofmcdeaa", sum := "091b13b4fcaf6a99c82f09b2fd4b476df71c4415efa8175946d01661cab143ca", checked := Try.checked }
namespace Rows
def none {H : Type} : Left H := { results := [], args := [] }

/-- 'tenementlaw13.BlkBack': WHATEVER THE INPUT: true; the input reads as it did. -/
def blkBackSpec : ChangeSpec := { name := "blkBack", fn := fun _ => fun
  | [d1, d2] => { results := [.lit (.bool true)], args := [d1, d2] }
  | _ => none }
def blkBackRow : OpenClaim := { program := "ytoeohbiofmcdeaa", sum := "091b13b4fcaf6a99c82f09b2fd4b476df71c4415efa8175946d01661cab143ca", func := "tenement/tenementlaw13.BlkBack", spec := "blkBack", unfollowed := true, recurses := true, apart := false }
def BlkBackSaid : Prop := blkBackRow.holds Try.pinned (OpenSpec.ofChange blkBackSpec)

/-- ITS FALSE NEIGHBOUR: 'it returns false'. Refute it at one input. -/
def blkBackWrong : ChangeSpec := { name := "blkBack", fn := fun _ => fun
  | [d1, d2] => { results := [.lit (.bool false)], args := [d1, d2] }
  | _ => none }
def BlkBackWrongFalsely : Prop := blkBackRow.holds Try.pinned (OpenSpec.ofChange blkBackWrong)

/-- 'tenementlaw13.BlkPacks': WHATEVER THE INPUT: true; the input reads as it did. -/
def blkPacksSpec : ChangeSpec := { name := "blkPacks", fn := fun _ => fun
  | [d1, d2] => { results := [.lit (.bool true)], args := [d1, d2] }
  | _ => none }
def blkPacksRow : OpenClaim := { program := "ytoeohbiofmcdeaa", sum := "091b13b4fcaf6a99c82f09b2fd4b476df71c4415efa8175946d01661cab143ca", func := "tenement/tenementlaw13.BlkPacks", spec := "blkPacks", unfollowed := true, recurses := true, apart := false }
def BlkPacksSaid : Prop := blkPacksRow.holds Try.pinned (OpenSpec.ofChange blkPacksSpec)

/-- ITS FALSE NEIGHBOUR: 'it returns false'. Refute it at one input. -/
def blkPacksWrong : ChangeSpec := { name := "blkPacks", fn := fun _ => fun
  | [d1, d2] => { results := [.lit (.bool false)], args := [d1, d2] }
  | _ => none }
def BlkPacksWrongFalsely : Prop := blkPacksRow.holds Try.pinned (OpenSpec.ofChange blkPacksWrong)

/-- 'tenementlaw13.BlkUnpacks': WHATEVER THE INPUT: true; the input reads as it did. -/
def blkUnpacksSpec : ChangeSpec := { name := "blkUnpacks", fn := fun _ => fun
  | [d] => { results := [.lit (.bool true)], args := [d] }
  | _ => none }
def blkUnpacksRow : OpenClaim := { program := "ytoeohbiofmcdeaa", sum := "091b13b4fcaf6a99c82f09b2fd4b476df71c4415efa8175946d01661cab143ca", func := "tenement/tenementlaw13.BlkUnpacks", spec := "blkUnpacks", unfollowed := true, recurses := true, apart := false }
def BlkUnpacksSaid : Prop := blkUnpacksRow.holds Try.pinned (OpenSpec.ofChange blkUnpacksSpec)

/-- ITS FALSE NEIGHBOUR: 'it returns false'. Refute it at one input. -/
def blkUnpacksWrong : ChangeSpec := { name := "blkUnpacks", fn := fun _ => fun
  | [d] => { results := [.lit (.bool false)], args := [d] }
  | _ => none }
def BlkUnpacksWrongFalsely : Prop := blkUnpacksRow.holds Try.pinned (OpenSpec.ofChange blkUnpacksWrong)

/-- 'tenementlaw15.NetPackets': WHATEVER THE INPUT: true; the input reads as it did. -/
def netPacketsSpec : ChangeSpec := { name := "netPackets", fn := fun _ => fun
  | [d1, d2, d3, d4] => { results := [.lit (.bool true)], args := [d1, d2, d3, d4] }
  | _ => none }
def netPacketsRow : OpenClaim := { program := "ytoeohbiofmcdeaa", sum := "091b13b4fcaf6a99c82f09b2fd4b476df71c4415efa8175946d01661cab143ca", func := "tenement/tenementlaw15.NetPackets", spec := "netPackets", apart := false }
def NetPacketsSaid : Prop := netPacketsRow.holds Try.pinned (OpenSpec.ofChange netPacketsSpec)

/-- ITS FALSE NEIGHBOUR: 'it returns false'. Refute it at one input. -/
def netPacketsWrong : ChangeSpec := { name := "netPackets", fn := fun _ => fun
  | [d1, d2, d3, d4] => { results := [.lit (.bool false)], args := [d1, d2, d3, d4] }
  | _ => none }
def NetPacketsWrongFalsely : Prop := netPacketsRow.holds Try.pinned (OpenSpec.ofChange netPacketsWrong)

/-- 'tenementlaw15.NetReplies': WHATEVER THE INPUT: true; the input reads as it did. -/
def netRepliesSpec : ChangeSpec := { name := "netReplies", fn := fun _ => fun
  | [d] => { results := [.lit (.bool true)], args := [d] }
  | _ => none }
def netRepliesRow : OpenClaim := { program := "ytoeohbiofmcdeaa", sum := "091b13b4fcaf6a99c82f09b2fd4b476df71c4415efa8175946d01661cab143ca", func := "tenement/tenementlaw15.NetReplies", spec := "netReplies", apart := false }
def NetRepliesSaid : Prop := netRepliesRow.holds Try.pinned (OpenSpec.ofChange netRepliesSpec)

/-- ITS FALSE NEIGHBOUR: 'it returns false'. Refute it at one input. -/
def netRepliesWrong : ChangeSpec := { name := "netReplies", fn := fun _ => fun
  | [d] => { results := [.lit (.bool false)], args := [d] }
  | _ => none }
def NetRepliesWrongFalsely : Prop := netRepliesRow.holds Try.pinned (OpenSpec.ofChange netRepliesWrong)

/- THE SECOND FORM. 'bulk': how many values and letters a reading holds, each counted each time it is reached (what is shared counts as often as it is met; a slice's spare places count too). A statement '..UptoSaid' is the law's where the arguments, and the package variables that the reading takes, are together of bulk at most 1048576: NARROWER than '..Said'. Prove '..Said' where nothing that the law and all that it calls make is longer than what came in: it says more and counts as full. Else prove '..UptoSaid'. A law counts once. -/
mutual
def uptoBulk {H : Type} : DataW H → Nat
  | .lit (.string bytes) => bytes.length + 1
  | .lit _ => 1
  | .nil => 1
  | .ptr d => uptoBulk d + 1
  | .slice elems spare => uptoBulkAll elems + uptoBulkAll spare + 1
  | .agg parts => uptoBulkAll parts + 1
  | .iface _ d => uptoBulk d + 1
  | .map entries => uptoBulkEntries entries + 1
  | .held _ => 1
def uptoBulkAll {H : Type} : List (DataW H) → Nat
  | [] => 0
  | d :: r => uptoBulk d + uptoBulkAll r
def uptoBulkEntries {H : Type} : List (Lit × DataW H) → Nat
  | [] => 0
  | x :: r => uptoBulkEntry x + uptoBulkEntries r
def uptoBulkEntry {H : Type} : Lit × DataW H → Nat
  | (.string bytes, d) => bytes.length + uptoBulk d + 1
  | (_, d) => uptoBulk d + 1
 end
def uptoSmall : (H : Type) → List (DataW H) → Bool := fun _ ds => decide (uptoBulkAll ds ≤ 1048576)
def OpenSpec.upto (s : _root_.Go.ChangeSpec) : _root_.Go.OpenSpec := { _root_.Go.OpenSpec.ofChange s with cond := some uptoSmall }

/-- 'tenementlaw13.BlkBack', WHERE WHAT IT READS IS OF BULK AT MOST 1048576: true; the input reads as it did. -/
def blkBackUptoRow : OpenClaim := { program := "ytoeohbiofmcdeaa", sum := "091b13b4fcaf6a99c82f09b2fd4b476df71c4415efa8175946d01661cab143ca", func := "tenement/tenementlaw13.BlkBack", spec := "blkBack", unfollowed := true, recurses := true, apart := false, narrowed := true }
def BlkBackUptoSaid : Prop := blkBackUptoRow.holds Try.pinned (OpenSpec.upto blkBackSpec)

/-- 'tenementlaw13.BlkPacks', WHERE WHAT IT READS IS OF BULK AT MOST 1048576: true; the input reads as it did. -/
def blkPacksUptoRow : OpenClaim := { program := "ytoeohbiofmcdeaa", sum := "091b13b4fcaf6a99c82f09b2fd4b476df71c4415efa8175946d01661cab143ca", func := "tenement/tenementlaw13.BlkPacks", spec := "blkPacks", unfollowed := true, recurses := true, apart := false, narrowed := true }
def BlkPacksUptoSaid : Prop := blkPacksUptoRow.holds Try.pinned (OpenSpec.upto blkPacksSpec)

/-- 'tenementlaw13.BlkUnpacks', WHERE WHAT IT READS IS OF BULK AT MOST 1048576: true; the input reads as it did. -/
def blkUnpacksUptoRow : OpenClaim := { program := "ytoeohbiofmcdeaa", sum := "091b13b4fcaf6a99c82f09b2fd4b476df71c4415efa8175946d01661cab143ca", func := "tenement/tenementlaw13.BlkUnpacks", spec := "blkUnpacks", unfollowed := true, recurses := true, apart := false, narrowed := true }
def BlkUnpacksUptoSaid : Prop := blkUnpacksUptoRow.holds Try.pinned (OpenSpec.upto blkUnpacksSpec)

/-- 'tenementlaw15.NetPackets', WHERE WHAT IT READS IS OF BULK AT MOST 1048576: true; the input reads as it did. -/
def netPacketsUptoRow : OpenClaim := { program := "ytoeohbiofmcdeaa", sum := "091b13b4fcaf6a99c82f09b2fd4b476df71c4415efa8175946d01661cab143ca", func := "tenement/tenementlaw15.NetPackets", spec := "netPackets", apart := false, narrowed := true }
def NetPacketsUptoSaid : Prop := netPacketsUptoRow.holds Try.pinned (OpenSpec.upto netPacketsSpec)

/-- 'tenementlaw15.NetReplies', WHERE WHAT IT READS IS OF BULK AT MOST 1048576: true; the input reads as it did. -/
def netRepliesUptoRow : OpenClaim := { program := "ytoeohbiofmcdeaa", sum := "091b13b4fcaf6a99c82f09b2fd4b476df71c4415efa8175946d01661cab143ca", func := "tenement/tenementlaw15.NetReplies", spec := "netReplies", apart := false, narrowed := true }
def NetRepliesUptoSaid : Prop := netRepliesUptoRow.holds Try.pinned (OpenSpec.upto netRepliesSpec)

end Rows
end Go.Proofs.Ytoeohbiofmcdeaa
