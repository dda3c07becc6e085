/-
  No cell of these rows narrows 'for every input' (looked for: loops, veiled, ifaces, maps, wideKeys, modest, calm, conditions, laid).
  DERIVED. THE GIVEN ROWS OF THIS SEAT. 3 by the template 'for every input the law returns true; each argument reads behind the call as it read before'; 0 by the template 'total and deterministic' (their statements: YtbocbokkphlcbaaTotals.lean).
  GIVEN WITH THE SEED: the statements are not yours to turn. If you find one false, say at which input.
  Laid BY PROGRAM, IN A SANDBOX (cutbox-rows.mjs): the forced cells as the released guide's own fill.sh prints them over the translation 7d782f04be888388… (all of the seat's roots in one cut). By AI agents, Wed Nov 11 2026. No macro, syntax, notation, axiom, sorry.
-/
import Derived.Test.YtbocbokkphlcbaaChecked
import GoSem.Claim
import GoSem.ClaimJoined
import GoSem.ClaimMapViews
import Derived.JoinedTies
import Derived.KernelRfl
namespace Go.Proofs.Ytbocbokkphlcbaa
/- THE CELL 'sum', in the pinned program and in every row, IS THE sha256 OF THE DUMP (.gsa) THAT YtbocbokkphlcbaaProg.lean LOADS. Nothing in Lean hashes anything: it is a label: what it is worth is what the hold of that sum in a sandbox is worth. -/
noncomputable def Try.pinned : Pinned := { name := "ytbocbokkphlcbaa", sum := "7d782f04be888388973e9ca5b0e4829c34ffdd99e21bad7e2d5775ee190bb7bf", checked := Try.checked }
namespace Rows
def none {H : Type} : Left H := { results := [], args := [] }

/-- 'tenementlaw11.BusStates': WHATEVER THE INPUT: true; the input reads as it did. -/
def busStatesSpec : ChangeSpec := { name := "busStates", fn := fun _ => fun
  | [d] => { results := [.lit (.bool true)], args := [d] }
  | _ => none }
def busStatesRow : OpenClaim := { program := "ytbocbokkphlcbaa", sum := "7d782f04be888388973e9ca5b0e4829c34ffdd99e21bad7e2d5775ee190bb7bf", func := "tenement/tenementlaw11.BusStates", spec := "busStates", apart := false }
def BusStatesSaid : Prop := busStatesRow.holds Try.pinned (OpenSpec.ofChange busStatesSpec)

/-- ITS FALSE NEIGHBOUR: 'it returns false'. Refute it at one input. -/
def busStatesWrong : ChangeSpec := { name := "busStates", fn := fun _ => fun
  | [d] => { results := [.lit (.bool false)], args := [d] }
  | _ => none }
def BusStatesWrongFalsely : Prop := busStatesRow.holds Try.pinned (OpenSpec.ofChange busStatesWrong)

/-- 'tenementlaw11.BusAllows': WHATEVER THE INPUT: true; the input reads as it did. -/
def busAllowsSpec : ChangeSpec := { name := "busAllows", fn := fun _ => fun
  | [d1, d2, d3] => { results := [.lit (.bool true)], args := [d1, d2, d3] }
  | _ => none }
def busAllowsRow : OpenClaim := { program := "ytbocbokkphlcbaa", sum := "7d782f04be888388973e9ca5b0e4829c34ffdd99e21bad7e2d5775ee190bb7bf", func := "tenement/tenementlaw11.BusAllows", spec := "busAllows", apart := false }
def BusAllowsSaid : Prop := busAllowsRow.holds Try.pinned (OpenSpec.ofChange busAllowsSpec)

/-- ITS FALSE NEIGHBOUR: 'it returns false'. Refute it at one input. -/
def busAllowsWrong : ChangeSpec := { name := "busAllows", fn := fun _ => fun
  | [d1, d2, d3] => { results := [.lit (.bool false)], args := [d1, d2, d3] }
  | _ => none }
def BusAllowsWrongFalsely : Prop := busAllowsRow.holds Try.pinned (OpenSpec.ofChange busAllowsWrong)

/-- 'tenementlaw11.BusNexts': WHATEVER THE INPUT: true; the input reads as it did. -/
def busNextsSpec : ChangeSpec := { name := "busNexts", fn := fun _ => fun
  | [d1, d2] => { results := [.lit (.bool true)], args := [d1, d2] }
  | _ => none }
def busNextsRow : OpenClaim := { program := "ytbocbokkphlcbaa", sum := "7d782f04be888388973e9ca5b0e4829c34ffdd99e21bad7e2d5775ee190bb7bf", func := "tenement/tenementlaw11.BusNexts", spec := "busNexts", apart := false }
def BusNextsSaid : Prop := busNextsRow.holds Try.pinned (OpenSpec.ofChange busNextsSpec)

/-- ITS FALSE NEIGHBOUR: 'it returns false'. Refute it at one input. -/
def busNextsWrong : ChangeSpec := { name := "busNexts", fn := fun _ => fun
  | [d1, d2] => { results := [.lit (.bool false)], args := [d1, d2] }
  | _ => none }
def BusNextsWrongFalsely : Prop := busNextsRow.holds Try.pinned (OpenSpec.ofChange busNextsWrong)

/- THE SECOND FORM. 'bulk': how many values and letters a reading holds, each counted each time it is reached (what is shared counts as often as it is met; a slice's spare places count too). A statement '..UptoSaid' is the law's where the arguments, and the package variables that the reading takes, are together of bulk at most 1048576: NARROWER than '..Said'. Prove '..Said' where nothing that the law and all that it calls make is longer than what came in: it says more and counts as full. Else prove '..UptoSaid'. A law counts once. -/
mutual
def uptoBulk {H : Type} : DataW H → Nat
  | .lit (.string bytes) => bytes.length + 1
  | .lit _ => 1
  | .nil => 1
  | .ptr d => uptoBulk d + 1
  | .slice elems spare => uptoBulkAll elems + uptoBulkAll spare + 1
  | .agg parts => uptoBulkAll parts + 1
  | .iface _ d => uptoBulk d + 1
  | .map entries => uptoBulkEntries entries + 1
  | .held _ => 1
def uptoBulkAll {H : Type} : List (DataW H) → Nat
  | [] => 0
  | d :: r => uptoBulk d + uptoBulkAll r
def uptoBulkEntries {H : Type} : List (Lit × DataW H) → Nat
  | [] => 0
  | x :: r => uptoBulkEntry x + uptoBulkEntries r
def uptoBulkEntry {H : Type} : Lit × DataW H → Nat
  | (.string bytes, d) => bytes.length + uptoBulk d + 1
  | (_, d) => uptoBulk d + 1
 end
def uptoSmall : (H : Type) → List (DataW H) → Bool := fun _ ds => decide (uptoBulkAll ds ≤ 1048576)
def OpenSpec.upto (s : _root_.Go.ChangeSpec) : _root_.Go.OpenSpec := { _root_.Go.OpenSpec.ofChange s with cond := some uptoSmall }

/-- 'tenementlaw11.BusStates', WHERE WHAT IT READS IS OF BULK AT MOST 1048576: true; the input reads as it did. -/
def busStatesUptoRow : OpenClaim := { program := "ytbocbokkphlcbaa", sum := "7d782f04be888388973e9ca5b0e4829c34ffdd99e21bad7e2d5775ee190bb7bf", func := "tenement/tenementlaw11.BusStates", spec := "busStates", apart := false, narrowed := true }
def BusStatesUptoSaid : Prop := busStatesUptoRow.holds Try.pinned (OpenSpec.upto busStatesSpec)

/-- 'tenementlaw11.BusAllows', WHERE WHAT IT READS IS OF BULK AT MOST 1048576: true; the input reads as it did. -/
def busAllowsUptoRow : OpenClaim := { program := "ytbocbokkphlcbaa", sum := "7d782f04be888388973e9ca5b0e4829c34ffdd99e21bad7e2d5775ee190bb7bf", func := "tenement/tenementlaw11.BusAllows", spec := "busAllows", apart := false, narrowed := true }
def BusAllowsUptoSaid : Prop := busAllowsUptoRow.holds Try.pinned (OpenSpec.upto busAllowsSpec)

/-- 'tenementlaw11.BusNexts', WHERE WHAT IT READS IS OF BULK AT MOST 1048576: true; the input reads as it did. -/
def busNextsUptoRow : OpenClaim := { program := "ytbocbokkphlcbaa", sum := "7d782f04be888388973e9ca5b0e4829c34ffdd99e21bad7e2d5775ee190bb7bf", func := "tenement/tenementlaw11.BusNexts", spec := "busNexts", apart := false, narrowed := true }
def BusNextsUptoSaid : Prop := busNextsUptoRow.holds Try.pinned (OpenSpec.upto busNextsSpec)

end Rows
end Go.Proofs.Ytbocbokkphlcbaa
