/-
  No cell of these rows narrows 'for every input' (looked for: loops, veiled, ifaces, maps, wideKeys, modest, calm, conditions, laid).
  DERIVED. THE GIVEN ROWS OF THIS SEAT. 7 by the template 'for every input the law returns true; each argument reads behind the call as it read before'; 0 by the template 'total and deterministic' (their statements: YtfifhaajjjamcaaTotals.lean).
  GIVEN WITH THE SEED: the statements are not yours to turn. If you find one false, say at which input.
  Laid BY PROGRAM, IN A SANDBOX (cutbox-rows.mjs): the forced cells as the released guide's own fill.sh prints them over the translation 19d7819a2533756e… (all of the seat's roots in one cut). By AI agents, Wed Nov 11 2026. No macro, syntax, notation, axiom, sorry.
-/
import Derived.Test.YtfifhaajjjamcaaChecked
import GoSem.Claim
import GoSem.ClaimJoined
import GoSem.ClaimMapViews
import Derived.JoinedTies
import Derived.KernelRfl
namespace Go.Proofs.Ytfifhaajjjamcaa
/- THE CELL 'sum', in the pinned program and in every row, IS THE sha256 OF THE DUMP (.gsa) THAT YtfifhaajjjamcaaProg.lean LOADS. Nothing in Lean hashes anything: it is a label: what it is worth is what the hold of that sum in a sandbox is worth. -/
noncomputable def Try.pinned : Pinned := { name := "ytfifhaajjjamcaa", sum := "19d7819a2533756e0b4be3f7a3f6b8491cca125bbdd1e4a7fc4ea611ea799cc8", checked := Try.checked }
namespace Rows
def none {H : Type} : Left H := { results := [], args := [] }

/-- 'tenementlaw01.PhysPlays': WHATEVER THE INPUT: true; the input reads as it did. -/
def physPlaysSpec : ChangeSpec := { name := "physPlays", fn := fun _ => fun
  | [d1, d2] => { results := [.lit (.bool true)], args := [d1, d2] }
  | _ => none }
def physPlaysRow : OpenClaim := { program := "ytfifhaajjjamcaa", sum := "19d7819a2533756e0b4be3f7a3f6b8491cca125bbdd1e4a7fc4ea611ea799cc8", func := "tenement/tenementlaw01.PhysPlays", spec := "physPlays", unfollowed := true, recurses := true, apart := false }
def PhysPlaysSaid : Prop := physPlaysRow.holds Try.pinned (OpenSpec.ofChange physPlaysSpec)

/-- ITS FALSE NEIGHBOUR: 'it returns false'. Refute it at one input. -/
def physPlaysWrong : ChangeSpec := { name := "physPlays", fn := fun _ => fun
  | [d1, d2] => { results := [.lit (.bool false)], args := [d1, d2] }
  | _ => none }
def PhysPlaysWrongFalsely : Prop := physPlaysRow.holds Try.pinned (OpenSpec.ofChange physPlaysWrong)

/-- 'tenementlaw01.PhysParts': WHATEVER THE INPUT: true; the input reads as it did. -/
def physPartsSpec : ChangeSpec := { name := "physParts", fn := fun _ => fun
  | [d1, d2] => { results := [.lit (.bool true)], args := [d1, d2] }
  | _ => none }
def physPartsRow : OpenClaim := { program := "ytfifhaajjjamcaa", sum := "19d7819a2533756e0b4be3f7a3f6b8491cca125bbdd1e4a7fc4ea611ea799cc8", func := "tenement/tenementlaw01.PhysParts", spec := "physParts", unfollowed := true, recurses := true, apart := false }
def PhysPartsSaid : Prop := physPartsRow.holds Try.pinned (OpenSpec.ofChange physPartsSpec)

/-- ITS FALSE NEIGHBOUR: 'it returns false'. Refute it at one input. -/
def physPartsWrong : ChangeSpec := { name := "physParts", fn := fun _ => fun
  | [d1, d2] => { results := [.lit (.bool false)], args := [d1, d2] }
  | _ => none }
def PhysPartsWrongFalsely : Prop := physPartsRow.holds Try.pinned (OpenSpec.ofChange physPartsWrong)

/-- 'tenementlaw01.PhysRefs': WHATEVER THE INPUT: true; the input reads as it did. -/
def physRefsSpec : ChangeSpec := { name := "physRefs", fn := fun _ => fun
  | [d1, d2] => { results := [.lit (.bool true)], args := [d1, d2] }
  | _ => none }
def physRefsRow : OpenClaim := { program := "ytfifhaajjjamcaa", sum := "19d7819a2533756e0b4be3f7a3f6b8491cca125bbdd1e4a7fc4ea611ea799cc8", func := "tenement/tenementlaw01.PhysRefs", spec := "physRefs", unfollowed := true, recurses := true, apart := false }
def PhysRefsSaid : Prop := physRefsRow.holds Try.pinned (OpenSpec.ofChange physRefsSpec)

/-- ITS FALSE NEIGHBOUR: 'it returns false'. Refute it at one input. -/
def physRefsWrong : ChangeSpec := { name := "physRefs", fn := fun _ => fun
  | [d1, d2] => { results := [.lit (.bool false)], args := [d1, d2] }
  | _ => none }
def PhysRefsWrongFalsely : Prop := physRefsRow.holds Try.pinned (OpenSpec.ofChange physRefsWrong)

/-- 'tenementlaw01.PhysZero': WHATEVER THE INPUT: true; the input reads as it did. -/
def physZeroSpec : ChangeSpec := { name := "physZero", fn := fun _ => fun
  | [d1, d2, d3] => { results := [.lit (.bool true)], args := [d1, d2, d3] }
  | _ => none }
def physZeroRow : OpenClaim := { program := "ytfifhaajjjamcaa", sum := "19d7819a2533756e0b4be3f7a3f6b8491cca125bbdd1e4a7fc4ea611ea799cc8", func := "tenement/tenementlaw01.PhysZero", spec := "physZero", unfollowed := true, recurses := true, apart := false }
def PhysZeroSaid : Prop := physZeroRow.holds Try.pinned (OpenSpec.ofChange physZeroSpec)

/-- ITS FALSE NEIGHBOUR: 'it returns false'. Refute it at one input. -/
def physZeroWrong : ChangeSpec := { name := "physZero", fn := fun _ => fun
  | [d1, d2, d3] => { results := [.lit (.bool false)], args := [d1, d2, d3] }
  | _ => none }
def PhysZeroWrongFalsely : Prop := physZeroRow.holds Try.pinned (OpenSpec.ofChange physZeroWrong)

/-- 'tenementlaw01.PhysLeast': WHATEVER THE INPUT: true; the input reads as it did. -/
def physLeastSpec : ChangeSpec := { name := "physLeast", fn := fun _ => fun
  | [d1, d2] => { results := [.lit (.bool true)], args := [d1, d2] }
  | _ => none }
def physLeastRow : OpenClaim := { program := "ytfifhaajjjamcaa", sum := "19d7819a2533756e0b4be3f7a3f6b8491cca125bbdd1e4a7fc4ea611ea799cc8", func := "tenement/tenementlaw01.PhysLeast", spec := "physLeast", unfollowed := true, recurses := true, apart := false }
def PhysLeastSaid : Prop := physLeastRow.holds Try.pinned (OpenSpec.ofChange physLeastSpec)

/-- ITS FALSE NEIGHBOUR: 'it returns false'. Refute it at one input. -/
def physLeastWrong : ChangeSpec := { name := "physLeast", fn := fun _ => fun
  | [d1, d2] => { results := [.lit (.bool false)], args := [d1, d2] }
  | _ => none }
def PhysLeastWrongFalsely : Prop := physLeastRow.holds Try.pinned (OpenSpec.ofChange physLeastWrong)

/-- 'tenementlaw01.PhysBytes': WHATEVER THE INPUT: true; the input reads as it did. -/
def physBytesSpec : ChangeSpec := { name := "physBytes", fn := fun _ => fun
  | [d1, d2, d3, d4] => { results := [.lit (.bool true)], args := [d1, d2, d3, d4] }
  | _ => none }
def physBytesRow : OpenClaim := { program := "ytfifhaajjjamcaa", sum := "19d7819a2533756e0b4be3f7a3f6b8491cca125bbdd1e4a7fc4ea611ea799cc8", func := "tenement/tenementlaw01.PhysBytes", spec := "physBytes", unfollowed := true, recurses := true, apart := false }
def PhysBytesSaid : Prop := physBytesRow.holds Try.pinned (OpenSpec.ofChange physBytesSpec)

/-- ITS FALSE NEIGHBOUR: 'it returns false'. Refute it at one input. -/
def physBytesWrong : ChangeSpec := { name := "physBytes", fn := fun _ => fun
  | [d1, d2, d3, d4] => { results := [.lit (.bool false)], args := [d1, d2, d3, d4] }
  | _ => none }
def PhysBytesWrongFalsely : Prop := physBytesRow.holds Try.pinned (OpenSpec.ofChange physBytesWrong)

/-- 'tenementlaw01.PhysCopies': WHATEVER THE INPUT: true; the input reads as it did. -/
def physCopiesSpec : ChangeSpec := { name := "physCopies", fn := fun _ => fun
  | [d1, d2, d3] => { results := [.lit (.bool true)], args := [d1, d2, d3] }
  | _ => none }
def physCopiesRow : OpenClaim := { program := "ytfifhaajjjamcaa", sum := "19d7819a2533756e0b4be3f7a3f6b8491cca125bbdd1e4a7fc4ea611ea799cc8", func := "tenement/tenementlaw01.PhysCopies", spec := "physCopies", unfollowed := true, recurses := true, apart := false }
def PhysCopiesSaid : Prop := physCopiesRow.holds Try.pinned (OpenSpec.ofChange physCopiesSpec)

/-- ITS FALSE NEIGHBOUR: 'it returns false'. Refute it at one input. -/
def physCopiesWrong : ChangeSpec := { name := "physCopies", fn := fun _ => fun
  | [d1, d2, d3] => { results := [.lit (.bool false)], args := [d1, d2, d3] }
  | _ => none }
def PhysCopiesWrongFalsely : Prop := physCopiesRow.holds Try.pinned (OpenSpec.ofChange physCopiesWrong)

/- THE SECOND FORM. 'bulk': how many values and letters a reading holds, each counted each time it is reached (what is shared counts as often as it is met; a slice's spare places count too). A statement '..UptoSaid' is the law's where the arguments, and the package variables that the reading takes, are together of bulk at most 1048576: NARROWER than '..Said'. Prove '..Said' where nothing that the law and all that it calls make is longer than what came in: it says more and counts as full. Else prove '..UptoSaid'. A law counts once. -/
mutual
def uptoBulk {H : Type} : DataW H → Nat
  | .lit (.string bytes) => bytes.length + 1
  | .lit _ => 1
  | .nil => 1
  | .ptr d => uptoBulk d + 1
  | .slice elems spare => uptoBulkAll elems + uptoBulkAll spare + 1
  | .agg parts => uptoBulkAll parts + 1
  | .iface _ d => uptoBulk d + 1
  | .map entries => uptoBulkEntries entries + 1
  | .held _ => 1
def uptoBulkAll {H : Type} : List (DataW H) → Nat
  | [] => 0
  | d :: r => uptoBulk d + uptoBulkAll r
def uptoBulkEntries {H : Type} : List (Lit × DataW H) → Nat
  | [] => 0
  | x :: r => uptoBulkEntry x + uptoBulkEntries r
def uptoBulkEntry {H : Type} : Lit × DataW H → Nat
  | (.string bytes, d) => bytes.length + uptoBulk d + 1
  | (_, d) => uptoBulk d + 1
 end
def uptoSmall : (H : Type) → List (DataW H) → Bool := fun _ ds => decide (uptoBulkAll ds ≤ 1048576)
def OpenSpec.upto (s : _root_.Go.ChangeSpec) : _root_.Go.OpenSpec := { _root_.Go.OpenSpec.ofChange s with cond := some uptoSmall }

/-- 'tenementlaw01.PhysPlays', WHERE WHAT IT READS IS OF BULK AT MOST 1048576: true; the input reads as it did. -/
def physPlaysUptoRow : OpenClaim := { program := "ytfifhaajjjamcaa", sum := "19d7819a2533756e0b4be3f7a3f6b8491cca125bbdd1e4a7fc4ea611ea799cc8", func := "tenement/tenementlaw01.PhysPlays", spec := "physPlays", unfollowed := true, recurses := true, apart := false, narrowed := true }
def PhysPlaysUptoSaid : Prop := physPlaysUptoRow.holds Try.pinned (OpenSpec.upto physPlaysSpec)

/-- 'tenementlaw01.PhysParts', WHERE WHAT IT READS IS OF BULK AT MOST 1048576: true; the input reads as it did. -/
def physPartsUptoRow : OpenClaim := { program := "ytfifhaajjjamcaa", sum := "19d7819a2533756e0b4be3f7a3f6b8491cca125bbdd1e4a7fc4ea611ea799cc8", func := "tenement/tenementlaw01.PhysParts", spec := "physParts", unfollowed := true, recurses := true, apart := false, narrowed := true }
def PhysPartsUptoSaid : Prop := physPartsUptoRow.holds Try.pinned (OpenSpec.upto physPartsSpec)

/-- 'tenementlaw01.PhysRefs', WHERE WHAT IT READS IS OF BULK AT MOST 1048576: true; the input reads as it did. -/
def physRefsUptoRow : OpenClaim := { program := "ytfifhaajjjamcaa", sum := "19d7819a2533756e0b4be3f7a3f6b8491cca125bbdd1e4a7fc4ea611ea799cc8", func := "tenement/tenementlaw01.PhysRefs", spec := "physRefs", unfollowed := true, recurses := true, apart := false, narrowed := true }
def PhysRefsUptoSaid : Prop := physRefsUptoRow.holds Try.pinned (OpenSpec.upto physRefsSpec)

/-- 'tenementlaw01.PhysZero', WHERE WHAT IT READS IS OF BULK AT MOST 1048576: true; the input reads as it did. -/
def physZeroUptoRow : OpenClaim := { program := "ytfifhaajjjamcaa", sum := "19d7819a2533756e0b4be3f7a3f6b8491cca125bbdd1e4a7fc4ea611ea799cc8", func := "tenement/tenementlaw01.PhysZero", spec := "physZero", unfollowed := true, recurses := true, apart := false, narrowed := true }
def PhysZeroUptoSaid : Prop := physZeroUptoRow.holds Try.pinned (OpenSpec.upto physZeroSpec)

/-- 'tenementlaw01.PhysLeast', WHERE WHAT IT READS IS OF BULK AT MOST 1048576: true; the input reads as it did. -/
def physLeastUptoRow : OpenClaim := { program := "ytfifhaajjjamcaa", sum := "19d7819a2533756e0b4be3f7a3f6b8491cca125bbdd1e4a7fc4ea611ea799cc8", func := "tenement/tenementlaw01.PhysLeast", spec := "physLeast", unfollowed := true, recurses := true, apart := false, narrowed := true }
def PhysLeastUptoSaid : Prop := physLeastUptoRow.holds Try.pinned (OpenSpec.upto physLeastSpec)

/-- 'tenementlaw01.PhysBytes', WHERE WHAT IT READS IS OF BULK AT MOST 1048576: true; the input reads as it did. -/
def physBytesUptoRow : OpenClaim := { program := "ytfifhaajjjamcaa", sum := "19d7819a2533756e0b4be3f7a3f6b8491cca125bbdd1e4a7fc4ea611ea799cc8", func := "tenement/tenementlaw01.PhysBytes", spec := "physBytes", unfollowed := true, recurses := true, apart := false, narrowed := true }
def PhysBytesUptoSaid : Prop := physBytesUptoRow.holds Try.pinned (OpenSpec.upto physBytesSpec)

/-- 'tenementlaw01.PhysCopies', WHERE WHAT IT READS IS OF BULK AT MOST 1048576: true; the input reads as it did. -/
def physCopiesUptoRow : OpenClaim := { program := "ytfifhaajjjamcaa", sum := "19d7819a2533756e0b4be3f7a3f6b8491cca125bbdd1e4a7fc4ea611ea799cc8", func := "tenement/tenementlaw01.PhysCopies", spec := "physCopies", unfollowed := true, recurses := true, apart := false, narrowed := true }
def PhysCopiesUptoSaid : Prop := physCopiesUptoRow.holds Try.pinned (OpenSpec.upto physCopiesSpec)

end Rows
end Go.Proofs.Ytfifhaajjjamcaa
