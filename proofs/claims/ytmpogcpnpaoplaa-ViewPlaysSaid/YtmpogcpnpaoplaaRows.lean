/-
  No cell of these rows narrows 'for every input' (looked for: loops, veiled, ifaces, maps, wideKeys, modest, calm, conditions, laid).
  DERIVED. THE GIVEN ROWS OF THIS SEAT. 8 by the template 'for every input the law returns true; each argument reads behind the call as it read before'; 0 by the template 'total and deterministic' (their statements: YtmpogcpnpaoplaaTotals.lean).
  GIVEN WITH THE SEED: the statements are not yours to turn. If you find one false, say at which input.
  Laid BY PROGRAM, IN A SANDBOX (cutbox-rows.mjs): the forced cells as the released guide's own fill.sh prints them over the translation 0e38deed00fa1ea3… (all of the seat's roots in one cut). By AI agents, Wed Nov 11 2026. No macro, syntax, notation, axiom, sorry.
-/
import Derived.Test.YtmpogcpnpaoplaaChecked
import GoSem.Claim
import GoSem.ClaimJoined
import GoSem.ClaimMapViews
import Derived.JoinedTies
import Derived.KernelRfl
namespace Go.Proofs.Ytmpogcpnpaoplaa
/- THE CELL 'sum', in the pinned program and in every row, IS THE sha256 OF THE DUMP (.gsa) THAT YtmpogcpnpaoplaaProg.lean LOADS. Nothing in Lean hashes anything: it is a label: what it is worth is what the hold of that sum in a sandbox is worth. -/
noncomputable def Try.pinned : Pinned := { name := "ytmpogcpnpaoplaa", sum := "0e38deed00fa1ea3c7eb75705b50ab10f94eddc716cc7d406afef7d30d438460", checked := Try.checked }
namespace Rows
def none {H : Type} : Left H := { results := [], args := [] }

/-- 'tenementlaw01.PhysPlays': WHATEVER THE INPUT: true; the input reads as it did. -/
def physPlaysSpec : ChangeSpec := { name := "physPlays", fn := fun _ => fun
  | [d1, d2] => { results := [.lit (.bool true)], args := [d1, d2] }
  | _ => none }
def physPlaysRow : OpenClaim := { program := "ytmpogcpnpaoplaa", sum := "0e38deed00fa1ea3c7eb75705b50ab10f94eddc716cc7d406afef7d30d438460", func := "tenement/tenementlaw01.PhysPlays", spec := "physPlays", unfollowed := true, recurses := true, apart := false }
def PhysPlaysSaid : Prop := physPlaysRow.holds Try.pinned (OpenSpec.ofChange physPlaysSpec)

/-- ITS FALSE NEIGHBOUR: 'it returns false'. Refute it at one input. -/
def physPlaysWrong : ChangeSpec := { name := "physPlays", fn := fun _ => fun
  | [d1, d2] => { results := [.lit (.bool false)], args := [d1, d2] }
  | _ => none }
def PhysPlaysWrongFalsely : Prop := physPlaysRow.holds Try.pinned (OpenSpec.ofChange physPlaysWrong)

/-- 'tenementlaw01.PhysCopies': WHATEVER THE INPUT: true; the input reads as it did. -/
def physCopiesSpec : ChangeSpec := { name := "physCopies", fn := fun _ => fun
  | [d1, d2, d3] => { results := [.lit (.bool true)], args := [d1, d2, d3] }
  | _ => none }
def physCopiesRow : OpenClaim := { program := "ytmpogcpnpaoplaa", sum := "0e38deed00fa1ea3c7eb75705b50ab10f94eddc716cc7d406afef7d30d438460", func := "tenement/tenementlaw01.PhysCopies", spec := "physCopies", unfollowed := true, recurses := true, apart := false }
def PhysCopiesSaid : Prop := physCopiesRow.holds Try.pinned (OpenSpec.ofChange physCopiesSpec)

/-- ITS FALSE NEIGHBOUR: 'it returns false'. Refute it at one input. -/
def physCopiesWrong : ChangeSpec := { name := "physCopies", fn := fun _ => fun
  | [d1, d2, d3] => { results := [.lit (.bool false)], args := [d1, d2, d3] }
  | _ => none }
def PhysCopiesWrongFalsely : Prop := physCopiesRow.holds Try.pinned (OpenSpec.ofChange physCopiesWrong)

/-- 'tenementlaw02.ViewPlays': WHATEVER THE INPUT: true; the input reads as it did. -/
def viewPlaysSpec : ChangeSpec := { name := "viewPlays", fn := fun _ => fun
  | [d1, d2, d3] => { results := [.lit (.bool true)], args := [d1, d2, d3] }
  | _ => none }
def viewPlaysRow : OpenClaim := { program := "ytmpogcpnpaoplaa", sum := "0e38deed00fa1ea3c7eb75705b50ab10f94eddc716cc7d406afef7d30d438460", func := "tenement/tenementlaw02.ViewPlays", spec := "viewPlays", unfollowed := true, recurses := true, apart := false }
def ViewPlaysSaid : Prop := viewPlaysRow.holds Try.pinned (OpenSpec.ofChange viewPlaysSpec)

/-- ITS FALSE NEIGHBOUR: 'it returns false'. Refute it at one input. -/
def viewPlaysWrong : ChangeSpec := { name := "viewPlays", fn := fun _ => fun
  | [d1, d2, d3] => { results := [.lit (.bool false)], args := [d1, d2, d3] }
  | _ => none }
def ViewPlaysWrongFalsely : Prop := viewPlaysRow.holds Try.pinned (OpenSpec.ofChange viewPlaysWrong)

/-- 'tenementlaw02.ViewLater': WHATEVER THE INPUT: true; the input reads as it did. -/
def viewLaterSpec : ChangeSpec := { name := "viewLater", fn := fun _ => fun
  | [d1, d2, d3, d4, d5] => { results := [.lit (.bool true)], args := [d1, d2, d3, d4, d5] }
  | _ => none }
def viewLaterRow : OpenClaim := { program := "ytmpogcpnpaoplaa", sum := "0e38deed00fa1ea3c7eb75705b50ab10f94eddc716cc7d406afef7d30d438460", func := "tenement/tenementlaw02.ViewLater", spec := "viewLater", unfollowed := true, recurses := true, apart := false }
def ViewLaterSaid : Prop := viewLaterRow.holds Try.pinned (OpenSpec.ofChange viewLaterSpec)

/-- ITS FALSE NEIGHBOUR: 'it returns false'. Refute it at one input. -/
def viewLaterWrong : ChangeSpec := { name := "viewLater", fn := fun _ => fun
  | [d1, d2, d3, d4, d5] => { results := [.lit (.bool false)], args := [d1, d2, d3, d4, d5] }
  | _ => none }
def ViewLaterWrongFalsely : Prop := viewLaterRow.holds Try.pinned (OpenSpec.ofChange viewLaterWrong)

/-- 'tenementlaw02.ViewKept': WHATEVER THE INPUT: true; the input reads as it did. -/
def viewKeptSpec : ChangeSpec := { name := "viewKept", fn := fun _ => fun
  | [d1, d2, d3] => { results := [.lit (.bool true)], args := [d1, d2, d3] }
  | _ => none }
def viewKeptRow : OpenClaim := { program := "ytmpogcpnpaoplaa", sum := "0e38deed00fa1ea3c7eb75705b50ab10f94eddc716cc7d406afef7d30d438460", func := "tenement/tenementlaw02.ViewKept", spec := "viewKept", unfollowed := true, recurses := true, apart := false }
def ViewKeptSaid : Prop := viewKeptRow.holds Try.pinned (OpenSpec.ofChange viewKeptSpec)

/-- ITS FALSE NEIGHBOUR: 'it returns false'. Refute it at one input. -/
def viewKeptWrong : ChangeSpec := { name := "viewKept", fn := fun _ => fun
  | [d1, d2, d3] => { results := [.lit (.bool false)], args := [d1, d2, d3] }
  | _ => none }
def ViewKeptWrongFalsely : Prop := viewKeptRow.holds Try.pinned (OpenSpec.ofChange viewKeptWrong)

/-- 'tenementlaw02.ViewZero': WHATEVER THE INPUT: true; the input reads as it did. -/
def viewZeroSpec : ChangeSpec := { name := "viewZero", fn := fun _ => fun
  | [d1, d2] => { results := [.lit (.bool true)], args := [d1, d2] }
  | _ => none }
def viewZeroRow : OpenClaim := { program := "ytmpogcpnpaoplaa", sum := "0e38deed00fa1ea3c7eb75705b50ab10f94eddc716cc7d406afef7d30d438460", func := "tenement/tenementlaw02.ViewZero", spec := "viewZero", unfollowed := true, recurses := true, apart := false }
def ViewZeroSaid : Prop := viewZeroRow.holds Try.pinned (OpenSpec.ofChange viewZeroSpec)

/-- ITS FALSE NEIGHBOUR: 'it returns false'. Refute it at one input. -/
def viewZeroWrong : ChangeSpec := { name := "viewZero", fn := fun _ => fun
  | [d1, d2] => { results := [.lit (.bool false)], args := [d1, d2] }
  | _ => none }
def ViewZeroWrongFalsely : Prop := viewZeroRow.holds Try.pinned (OpenSpec.ofChange viewZeroWrong)

/-- 'tenementlaw02.ViewWords': WHATEVER THE INPUT: true; the input reads as it did. -/
def viewWordsSpec : ChangeSpec := { name := "viewWords", fn := fun _ => fun
  | [d1, d2, d3, d4] => { results := [.lit (.bool true)], args := [d1, d2, d3, d4] }
  | _ => none }
def viewWordsRow : OpenClaim := { program := "ytmpogcpnpaoplaa", sum := "0e38deed00fa1ea3c7eb75705b50ab10f94eddc716cc7d406afef7d30d438460", func := "tenement/tenementlaw02.ViewWords", spec := "viewWords", unfollowed := true, recurses := true, apart := false }
def ViewWordsSaid : Prop := viewWordsRow.holds Try.pinned (OpenSpec.ofChange viewWordsSpec)

/-- ITS FALSE NEIGHBOUR: 'it returns false'. Refute it at one input. -/
def viewWordsWrong : ChangeSpec := { name := "viewWords", fn := fun _ => fun
  | [d1, d2, d3, d4] => { results := [.lit (.bool false)], args := [d1, d2, d3, d4] }
  | _ => none }
def ViewWordsWrongFalsely : Prop := viewWordsRow.holds Try.pinned (OpenSpec.ofChange viewWordsWrong)

/-- 'tenementlaw02.ViewOrder': WHATEVER THE INPUT: true; the input reads as it did. -/
def viewOrderSpec : ChangeSpec := { name := "viewOrder", fn := fun _ => fun
  | [d1, d2, d3] => { results := [.lit (.bool true)], args := [d1, d2, d3] }
  | _ => none }
def viewOrderRow : OpenClaim := { program := "ytmpogcpnpaoplaa", sum := "0e38deed00fa1ea3c7eb75705b50ab10f94eddc716cc7d406afef7d30d438460", func := "tenement/tenementlaw02.ViewOrder", spec := "viewOrder", unfollowed := true, recurses := true, apart := false }
def ViewOrderSaid : Prop := viewOrderRow.holds Try.pinned (OpenSpec.ofChange viewOrderSpec)

/-- ITS FALSE NEIGHBOUR: 'it returns false'. Refute it at one input. -/
def viewOrderWrong : ChangeSpec := { name := "viewOrder", fn := fun _ => fun
  | [d1, d2, d3] => { results := [.lit (.bool false)], args := [d1, d2, d3] }
  | _ => none }
def ViewOrderWrongFalsely : Prop := viewOrderRow.holds Try.pinned (OpenSpec.ofChange viewOrderWrong)

/- THE SECOND FORM. 'bulk': how many values and letters a reading holds, each counted each time it is reached (what is shared counts as often as it is met; a slice's spare places count too). A statement '..UptoSaid' is the law's where the arguments, and the package variables that the reading takes, are together of bulk at most 1048576: NARROWER than '..Said'. Prove '..Said' where nothing that the law and all that it calls make is longer than what came in: it says more and counts as full. Else prove '..UptoSaid'. A law counts once. -/
mutual
def uptoBulk {H : Type} : DataW H → Nat
  | .lit (.string bytes) => bytes.length + 1
  | .lit _ => 1
  | .nil => 1
  | .ptr d => uptoBulk d + 1
  | .slice elems spare => uptoBulkAll elems + uptoBulkAll spare + 1
  | .agg parts => uptoBulkAll parts + 1
  | .iface _ d => uptoBulk d + 1
  | .map entries => uptoBulkEntries entries + 1
  | .held _ => 1
def uptoBulkAll {H : Type} : List (DataW H) → Nat
  | [] => 0
  | d :: r => uptoBulk d + uptoBulkAll r
def uptoBulkEntries {H : Type} : List (Lit × DataW H) → Nat
  | [] => 0
  | x :: r => uptoBulkEntry x + uptoBulkEntries r
def uptoBulkEntry {H : Type} : Lit × DataW H → Nat
  | (.string bytes, d) => bytes.length + uptoBulk d + 1
  | (_, d) => uptoBulk d + 1
 end
def uptoSmall : (H : Type) → List (DataW H) → Bool := fun _ ds => decide (uptoBulkAll ds ≤ 1048576)
def OpenSpec.upto (s : _root_.Go.ChangeSpec) : _root_.Go.OpenSpec := { _root_.Go.OpenSpec.ofChange s with cond := some uptoSmall }

/-- 'tenementlaw01.PhysPlays', WHERE WHAT IT READS IS OF BULK AT MOST 1048576: true; the input reads as it did. -/
def physPlaysUptoRow : OpenClaim := { program := "ytmpogcpnpaoplaa", sum := "0e38deed00fa1ea3c7eb75705b50ab10f94eddc716cc7d406afef7d30d438460", func := "tenement/tenementlaw01.PhysPlays", spec := "physPlays", unfollowed := true, recurses := true, apart := false, narrowed := true }
def PhysPlaysUptoSaid : Prop := physPlaysUptoRow.holds Try.pinned (OpenSpec.upto physPlaysSpec)

/-- 'tenementlaw01.PhysCopies', WHERE WHAT IT READS IS OF BULK AT MOST 1048576: true; the input reads as it did. -/
def physCopiesUptoRow : OpenClaim := { program := "ytmpogcpnpaoplaa", sum := "0e38deed00fa1ea3c7eb75705b50ab10f94eddc716cc7d406afef7d30d438460", func := "tenement/tenementlaw01.PhysCopies", spec := "physCopies", unfollowed := true, recurses := true, apart := false, narrowed := true }
def PhysCopiesUptoSaid : Prop := physCopiesUptoRow.holds Try.pinned (OpenSpec.upto physCopiesSpec)

/-- 'tenementlaw02.ViewPlays', WHERE WHAT IT READS IS OF BULK AT MOST 1048576: true; the input reads as it did. -/
def viewPlaysUptoRow : OpenClaim := { program := "ytmpogcpnpaoplaa", sum := "0e38deed00fa1ea3c7eb75705b50ab10f94eddc716cc7d406afef7d30d438460", func := "tenement/tenementlaw02.ViewPlays", spec := "viewPlays", unfollowed := true, recurses := true, apart := false, narrowed := true }
def ViewPlaysUptoSaid : Prop := viewPlaysUptoRow.holds Try.pinned (OpenSpec.upto viewPlaysSpec)

/-- 'tenementlaw02.ViewLater', WHERE WHAT IT READS IS OF BULK AT MOST 1048576: true; the input reads as it did. -/
def viewLaterUptoRow : OpenClaim := { program := "ytmpogcpnpaoplaa", sum := "0e38deed00fa1ea3c7eb75705b50ab10f94eddc716cc7d406afef7d30d438460", func := "tenement/tenementlaw02.ViewLater", spec := "viewLater", unfollowed := true, recurses := true, apart := false, narrowed := true }
def ViewLaterUptoSaid : Prop := viewLaterUptoRow.holds Try.pinned (OpenSpec.upto viewLaterSpec)

/-- 'tenementlaw02.ViewKept', WHERE WHAT IT READS IS OF BULK AT MOST 1048576: true; the input reads as it did. -/
def viewKeptUptoRow : OpenClaim := { program := "ytmpogcpnpaoplaa", sum := "0e38deed00fa1ea3c7eb75705b50ab10f94eddc716cc7d406afef7d30d438460", func := "tenement/tenementlaw02.ViewKept", spec := "viewKept", unfollowed := true, recurses := true, apart := false, narrowed := true }
def ViewKeptUptoSaid : Prop := viewKeptUptoRow.holds Try.pinned (OpenSpec.upto viewKeptSpec)

/-- 'tenementlaw02.ViewZero', WHERE WHAT IT READS IS OF BULK AT MOST 1048576: true; the input reads as it did. -/
def viewZeroUptoRow : OpenClaim := { program := "ytmpogcpnpaoplaa", sum := "0e38deed00fa1ea3c7eb75705b50ab10f94eddc716cc7d406afef7d30d438460", func := "tenement/tenementlaw02.ViewZero", spec := "viewZero", unfollowed := true, recurses := true, apart := false, narrowed := true }
def ViewZeroUptoSaid : Prop := viewZeroUptoRow.holds Try.pinned (OpenSpec.upto viewZeroSpec)

/-- 'tenementlaw02.ViewWords', WHERE WHAT IT READS IS OF BULK AT MOST 1048576: true; the input reads as it did. -/
def viewWordsUptoRow : OpenClaim := { program := "ytmpogcpnpaoplaa", sum := "0e38deed00fa1ea3c7eb75705b50ab10f94eddc716cc7d406afef7d30d438460", func := "tenement/tenementlaw02.ViewWords", spec := "viewWords", unfollowed := true, recurses := true, apart := false, narrowed := true }
def ViewWordsUptoSaid : Prop := viewWordsUptoRow.holds Try.pinned (OpenSpec.upto viewWordsSpec)

/-- 'tenementlaw02.ViewOrder', WHERE WHAT IT READS IS OF BULK AT MOST 1048576: true; the input reads as it did. -/
def viewOrderUptoRow : OpenClaim := { program := "ytmpogcpnpaoplaa", sum := "0e38deed00fa1ea3c7eb75705b50ab10f94eddc716cc7d406afef7d30d438460", func := "tenement/tenementlaw02.ViewOrder", spec := "viewOrder", unfollowed := true, recurses := true, apart := false, narrowed := true }
def ViewOrderUptoSaid : Prop := viewOrderUptoRow.holds Try.pinned (OpenSpec.upto viewOrderSpec)

end Rows
end Go.Proofs.Ytmpogcpnpaoplaa
