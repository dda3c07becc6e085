/-
  No cell of these rows narrows 'for every input' (looked for: loops, veiled, ifaces, maps, wideKeys, modest, calm, conditions, laid).
  DERIVED. THE GIVEN ROWS OF THIS SEAT. 8 by the template 'for every input the law returns true; each argument reads behind the call as it read before'; 0 by the template 'total and deterministic' (their statements: YtibiianmpajabaaTotals.lean).
  GIVEN WITH THE SEED: the statements are not yours to turn. If you find one false, say at which input.
  Laid BY PROGRAM, IN A SANDBOX (cutbox-rows.mjs): the forced cells as the released guide's own fill.sh prints them over the translation 92c1398304c7bc25… (all of the seat's roots in one cut). By AI agents, Wed Nov 11 2026. No macro, syntax, notation, axiom, sorry.
-/
import Derived.Test.YtibiianmpajabaaChecked
import GoSem.Claim
import GoSem.ClaimJoined
import GoSem.ClaimMapViews
import Derived.JoinedTies
import Derived.KernelRfl
namespace Go.Proofs.Ytibiianmpajabaa
/- THE CELL 'sum', in the pinned program and in every row, IS THE sha256 OF THE DUMP (.gsa) THAT YtibiianmpajabaaProg.lean LOADS. Nothing in Lean hashes anything: it is a label: what it is worth is what the hold of that sum in a sandbox is worth. -/
noncomputable def Try.pinned : Pinned := { name := "ytibiianmpajabaa", sum := "92c1398304c7bc25cfca0e2edbd0042d3f44dc6328029f3ae46b507348abac35", checked := Try.checked }
namespace Rows
def none {H : Type} : Left H := { results := [], args := [] }

/-- 'tenementlaw01.PhysPlays': WHATEVER THE INPUT: true; the input reads as it did. -/
def physPlaysSpec : ChangeSpec := { name := "physPlays", fn := fun _ => fun
  | [d1, d2] => { results := [.lit (.bool true)], args := [d1, d2] }
  | _ => none }
def physPlaysRow : OpenClaim := { program := "ytibiianmpajabaa", sum := "92c1398304c7bc25cfca0e2edbd0042d3f44dc6328029f3ae46b507348abac35", func := "tenement/tenementlaw01.PhysPlays", spec := "physPlays", unfollowed := true, recurses := true, plainKeys := false, apart := false }
def PhysPlaysSaid : Prop := physPlaysRow.holds Try.pinned (OpenSpec.ofChange physPlaysSpec)

/-- ITS FALSE NEIGHBOUR: 'it returns false'. Refute it at one input. -/
def physPlaysWrong : ChangeSpec := { name := "physPlays", fn := fun _ => fun
  | [d1, d2] => { results := [.lit (.bool false)], args := [d1, d2] }
  | _ => none }
def PhysPlaysWrongFalsely : Prop := physPlaysRow.holds Try.pinned (OpenSpec.ofChange physPlaysWrong)

/-- 'tenementlaw02.ViewPlays': WHATEVER THE INPUT: true; the input reads as it did. -/
def viewPlaysSpec : ChangeSpec := { name := "viewPlays", fn := fun _ => fun
  | [d1, d2, d3] => { results := [.lit (.bool true)], args := [d1, d2, d3] }
  | _ => none }
def viewPlaysRow : OpenClaim := { program := "ytibiianmpajabaa", sum := "92c1398304c7bc25cfca0e2edbd0042d3f44dc6328029f3ae46b507348abac35", func := "tenement/tenementlaw02.ViewPlays", spec := "viewPlays", unfollowed := true, recurses := true, plainKeys := false, apart := false }
def ViewPlaysSaid : Prop := viewPlaysRow.holds Try.pinned (OpenSpec.ofChange viewPlaysSpec)

/-- ITS FALSE NEIGHBOUR: 'it returns false'. Refute it at one input. -/
def viewPlaysWrong : ChangeSpec := { name := "viewPlays", fn := fun _ => fun
  | [d1, d2, d3] => { results := [.lit (.bool false)], args := [d1, d2, d3] }
  | _ => none }
def ViewPlaysWrongFalsely : Prop := viewPlaysRow.holds Try.pinned (OpenSpec.ofChange viewPlaysWrong)

/-- 'tenementlaw03.PmapPlays': WHATEVER THE INPUT: true; the input reads as it did. -/
def pmapPlaysSpec : ChangeSpec := { name := "pmapPlays", fn := fun _ => fun
  | [d1, d2] => { results := [.lit (.bool true)], args := [d1, d2] }
  | _ => none }
def pmapPlaysRow : OpenClaim := { program := "ytibiianmpajabaa", sum := "92c1398304c7bc25cfca0e2edbd0042d3f44dc6328029f3ae46b507348abac35", func := "tenement/tenementlaw03.PmapPlays", spec := "pmapPlays", inPlace := ["maps.clone"], plainKeys := false, apart := false }
def PmapPlaysSaid : Prop := pmapPlaysRow.holds Try.pinned (OpenSpec.ofChange pmapPlaysSpec)

/-- ITS FALSE NEIGHBOUR: 'it returns false'. Refute it at one input. -/
def pmapPlaysWrong : ChangeSpec := { name := "pmapPlays", fn := fun _ => fun
  | [d1, d2] => { results := [.lit (.bool false)], args := [d1, d2] }
  | _ => none }
def PmapPlaysWrongFalsely : Prop := pmapPlaysRow.holds Try.pinned (OpenSpec.ofChange pmapPlaysWrong)

/-- 'tenementlaw06.GrantLive': WHATEVER THE INPUT: true; the input reads as it did. -/
def grantLiveSpec : ChangeSpec := { name := "grantLive", fn := fun _ => fun
  | [d1, d2, d3, d4] => { results := [.lit (.bool true)], args := [d1, d2, d3, d4] }
  | _ => none }
def grantLiveRow : OpenClaim := { program := "ytibiianmpajabaa", sum := "92c1398304c7bc25cfca0e2edbd0042d3f44dc6328029f3ae46b507348abac35", func := "tenement/tenementlaw06.GrantLive", spec := "grantLive", unfollowed := true, recurses := true, plainKeys := false, apart := false }
def GrantLiveSaid : Prop := grantLiveRow.holds Try.pinned (OpenSpec.ofChange grantLiveSpec)

/-- ITS FALSE NEIGHBOUR: 'it returns false'. Refute it at one input. -/
def grantLiveWrong : ChangeSpec := { name := "grantLive", fn := fun _ => fun
  | [d1, d2, d3, d4] => { results := [.lit (.bool false)], args := [d1, d2, d3, d4] }
  | _ => none }
def GrantLiveWrongFalsely : Prop := grantLiveRow.holds Try.pinned (OpenSpec.ofChange grantLiveWrong)

/-- 'tenementlaw06.GrantApart': WHATEVER THE INPUT: true; the input reads as it did. -/
def grantApartSpec : ChangeSpec := { name := "grantApart", fn := fun _ => fun
  | [d1, d2, d3, d4, d5] => { results := [.lit (.bool true)], args := [d1, d2, d3, d4, d5] }
  | _ => none }
def grantApartRow : OpenClaim := { program := "ytibiianmpajabaa", sum := "92c1398304c7bc25cfca0e2edbd0042d3f44dc6328029f3ae46b507348abac35", func := "tenement/tenementlaw06.GrantApart", spec := "grantApart", unfollowed := true, recurses := true, plainKeys := false, apart := false }
def GrantApartSaid : Prop := grantApartRow.holds Try.pinned (OpenSpec.ofChange grantApartSpec)

/-- ITS FALSE NEIGHBOUR: 'it returns false'. Refute it at one input. -/
def grantApartWrong : ChangeSpec := { name := "grantApart", fn := fun _ => fun
  | [d1, d2, d3, d4, d5] => { results := [.lit (.bool false)], args := [d1, d2, d3, d4, d5] }
  | _ => none }
def GrantApartWrongFalsely : Prop := grantApartRow.holds Try.pinned (OpenSpec.ofChange grantApartWrong)

/-- 'tenementlaw06.GrantZero': WHATEVER THE INPUT: true; the input reads as it did. -/
def grantZeroSpec : ChangeSpec := { name := "grantZero", fn := fun _ => fun
  | [d1, d2, d3] => { results := [.lit (.bool true)], args := [d1, d2, d3] }
  | _ => none }
def grantZeroRow : OpenClaim := { program := "ytibiianmpajabaa", sum := "92c1398304c7bc25cfca0e2edbd0042d3f44dc6328029f3ae46b507348abac35", func := "tenement/tenementlaw06.GrantZero", spec := "grantZero", unfollowed := true, recurses := true, plainKeys := false, apart := false }
def GrantZeroSaid : Prop := grantZeroRow.holds Try.pinned (OpenSpec.ofChange grantZeroSpec)

/-- ITS FALSE NEIGHBOUR: 'it returns false'. Refute it at one input. -/
def grantZeroWrong : ChangeSpec := { name := "grantZero", fn := fun _ => fun
  | [d1, d2, d3] => { results := [.lit (.bool false)], args := [d1, d2, d3] }
  | _ => none }
def GrantZeroWrongFalsely : Prop := grantZeroRow.holds Try.pinned (OpenSpec.ofChange grantZeroWrong)

/-- 'tenementlaw06.GrantRange': WHATEVER THE INPUT: true; the input reads as it did. -/
def grantRangeSpec : ChangeSpec := { name := "grantRange", fn := fun _ => fun
  | [d1, d2, d3, d4, d5] => { results := [.lit (.bool true)], args := [d1, d2, d3, d4, d5] }
  | _ => none }
def grantRangeRow : OpenClaim := { program := "ytibiianmpajabaa", sum := "92c1398304c7bc25cfca0e2edbd0042d3f44dc6328029f3ae46b507348abac35", func := "tenement/tenementlaw06.GrantRange", spec := "grantRange", unfollowed := true, recurses := true, plainKeys := false, apart := false }
def GrantRangeSaid : Prop := grantRangeRow.holds Try.pinned (OpenSpec.ofChange grantRangeSpec)

/-- ITS FALSE NEIGHBOUR: 'it returns false'. Refute it at one input. -/
def grantRangeWrong : ChangeSpec := { name := "grantRange", fn := fun _ => fun
  | [d1, d2, d3, d4, d5] => { results := [.lit (.bool false)], args := [d1, d2, d3, d4, d5] }
  | _ => none }
def GrantRangeWrongFalsely : Prop := grantRangeRow.holds Try.pinned (OpenSpec.ofChange grantRangeWrong)

/-- 'tenementlaw06.GrantHandles': WHATEVER THE INPUT: true; the input reads as it did. -/
def grantHandlesSpec : ChangeSpec := { name := "grantHandles", fn := fun _ => fun
  | [d] => { results := [.lit (.bool true)], args := [d] }
  | _ => none }
def grantHandlesRow : OpenClaim := { program := "ytibiianmpajabaa", sum := "92c1398304c7bc25cfca0e2edbd0042d3f44dc6328029f3ae46b507348abac35", func := "tenement/tenementlaw06.GrantHandles", spec := "grantHandles", unfollowed := true, recurses := true, plainKeys := false, apart := false }
def GrantHandlesSaid : Prop := grantHandlesRow.holds Try.pinned (OpenSpec.ofChange grantHandlesSpec)

/-- ITS FALSE NEIGHBOUR: 'it returns false'. Refute it at one input. -/
def grantHandlesWrong : ChangeSpec := { name := "grantHandles", fn := fun _ => fun
  | [d] => { results := [.lit (.bool false)], args := [d] }
  | _ => none }
def GrantHandlesWrongFalsely : Prop := grantHandlesRow.holds Try.pinned (OpenSpec.ofChange grantHandlesWrong)

/- THE SECOND FORM. 'bulk': how many values and letters a reading holds, each counted each time it is reached (what is shared counts as often as it is met; a slice's spare places count too). A statement '..UptoSaid' is the law's where the arguments, and the package variables that the reading takes, are together of bulk at most 1048576: NARROWER than '..Said'. Prove '..Said' where nothing that the law and all that it calls make is longer than what came in: it says more and counts as full. Else prove '..UptoSaid'. A law counts once. -/
mutual
def uptoBulk {H : Type} : DataW H → Nat
  | .lit (.string bytes) => bytes.length + 1
  | .lit _ => 1
  | .nil => 1
  | .ptr d => uptoBulk d + 1
  | .slice elems spare => uptoBulkAll elems + uptoBulkAll spare + 1
  | .agg parts => uptoBulkAll parts + 1
  | .iface _ d => uptoBulk d + 1
  | .map entries => uptoBulkEntries entries + 1
  | .held _ => 1
def uptoBulkAll {H : Type} : List (DataW H) → Nat
  | [] => 0
  | d :: r => uptoBulk d + uptoBulkAll r
def uptoBulkEntries {H : Type} : List (Lit × DataW H) → Nat
  | [] => 0
  | x :: r => uptoBulkEntry x + uptoBulkEntries r
def uptoBulkEntry {H : Type} : Lit × DataW H → Nat
  | (.string bytes, d) => bytes.length + uptoBulk d + 1
  | (_, d) => uptoBulk d + 1
 end
def uptoSmall : (H : Type) → List (DataW H) → Bool := fun _ ds => decide (uptoBulkAll ds ≤ 1048576)
def OpenSpec.upto (s : _root_.Go.ChangeSpec) : _root_.Go.OpenSpec := { _root_.Go.OpenSpec.ofChange s with cond := some uptoSmall }

/-- 'tenementlaw01.PhysPlays', WHERE WHAT IT READS IS OF BULK AT MOST 1048576: true; the input reads as it did. -/
def physPlaysUptoRow : OpenClaim := { program := "ytibiianmpajabaa", sum := "92c1398304c7bc25cfca0e2edbd0042d3f44dc6328029f3ae46b507348abac35", func := "tenement/tenementlaw01.PhysPlays", spec := "physPlays", unfollowed := true, recurses := true, plainKeys := false, apart := false, narrowed := true }
def PhysPlaysUptoSaid : Prop := physPlaysUptoRow.holds Try.pinned (OpenSpec.upto physPlaysSpec)

/-- 'tenementlaw02.ViewPlays', WHERE WHAT IT READS IS OF BULK AT MOST 1048576: true; the input reads as it did. -/
def viewPlaysUptoRow : OpenClaim := { program := "ytibiianmpajabaa", sum := "92c1398304c7bc25cfca0e2edbd0042d3f44dc6328029f3ae46b507348abac35", func := "tenement/tenementlaw02.ViewPlays", spec := "viewPlays", unfollowed := true, recurses := true, plainKeys := false, apart := false, narrowed := true }
def ViewPlaysUptoSaid : Prop := viewPlaysUptoRow.holds Try.pinned (OpenSpec.upto viewPlaysSpec)

/-- 'tenementlaw03.PmapPlays', WHERE WHAT IT READS IS OF BULK AT MOST 1048576: true; the input reads as it did. -/
def pmapPlaysUptoRow : OpenClaim := { program := "ytibiianmpajabaa", sum := "92c1398304c7bc25cfca0e2edbd0042d3f44dc6328029f3ae46b507348abac35", func := "tenement/tenementlaw03.PmapPlays", spec := "pmapPlays", inPlace := ["maps.clone"], plainKeys := false, apart := false, narrowed := true }
def PmapPlaysUptoSaid : Prop := pmapPlaysUptoRow.holds Try.pinned (OpenSpec.upto pmapPlaysSpec)

/-- 'tenementlaw06.GrantLive', WHERE WHAT IT READS IS OF BULK AT MOST 1048576: true; the input reads as it did. -/
def grantLiveUptoRow : OpenClaim := { program := "ytibiianmpajabaa", sum := "92c1398304c7bc25cfca0e2edbd0042d3f44dc6328029f3ae46b507348abac35", func := "tenement/tenementlaw06.GrantLive", spec := "grantLive", unfollowed := true, recurses := true, plainKeys := false, apart := false, narrowed := true }
def GrantLiveUptoSaid : Prop := grantLiveUptoRow.holds Try.pinned (OpenSpec.upto grantLiveSpec)

/-- 'tenementlaw06.GrantApart', WHERE WHAT IT READS IS OF BULK AT MOST 1048576: true; the input reads as it did. -/
def grantApartUptoRow : OpenClaim := { program := "ytibiianmpajabaa", sum := "92c1398304c7bc25cfca0e2edbd0042d3f44dc6328029f3ae46b507348abac35", func := "tenement/tenementlaw06.GrantApart", spec := "grantApart", unfollowed := true, recurses := true, plainKeys := false, apart := false, narrowed := true }
def GrantApartUptoSaid : Prop := grantApartUptoRow.holds Try.pinned (OpenSpec.upto grantApartSpec)

/-- 'tenementlaw06.GrantZero', WHERE WHAT IT READS IS OF BULK AT MOST 1048576: true; the input reads as it did. -/
def grantZeroUptoRow : OpenClaim := { program := "ytibiianmpajabaa", sum := "92c1398304c7bc25cfca0e2edbd0042d3f44dc6328029f3ae46b507348abac35", func := "tenement/tenementlaw06.GrantZero", spec := "grantZero", unfollowed := true, recurses := true, plainKeys := false, apart := false, narrowed := true }
def GrantZeroUptoSaid : Prop := grantZeroUptoRow.holds Try.pinned (OpenSpec.upto grantZeroSpec)

/-- 'tenementlaw06.GrantRange', WHERE WHAT IT READS IS OF BULK AT MOST 1048576: true; the input reads as it did. -/
def grantRangeUptoRow : OpenClaim := { program := "ytibiianmpajabaa", sum := "92c1398304c7bc25cfca0e2edbd0042d3f44dc6328029f3ae46b507348abac35", func := "tenement/tenementlaw06.GrantRange", spec := "grantRange", unfollowed := true, recurses := true, plainKeys := false, apart := false, narrowed := true }
def GrantRangeUptoSaid : Prop := grantRangeUptoRow.holds Try.pinned (OpenSpec.upto grantRangeSpec)

/-- 'tenementlaw06.GrantHandles', WHERE WHAT IT READS IS OF BULK AT MOST 1048576: true; the input reads as it did. -/
def grantHandlesUptoRow : OpenClaim := { program := "ytibiianmpajabaa", sum := "92c1398304c7bc25cfca0e2edbd0042d3f44dc6328029f3ae46b507348abac35", func := "tenement/tenementlaw06.GrantHandles", spec := "grantHandles", unfollowed := true, recurses := true, plainKeys := false, apart := false, narrowed := true }
def GrantHandlesUptoSaid : Prop := grantHandlesUptoRow.holds Try.pinned (OpenSpec.upto grantHandlesSpec)

end Rows
end Go.Proofs.Ytibiianmpajabaa
