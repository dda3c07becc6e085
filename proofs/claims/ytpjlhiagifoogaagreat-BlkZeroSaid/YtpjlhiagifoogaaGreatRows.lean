/-
  No cell of these rows narrows 'for every input' (looked for: loops, veiled, ifaces, maps, wideKeys, modest, calm, conditions, laid).
  DERIVED. THE GIVEN ROWS OF THIS SEAT. 7 by the template 'for every input the law returns true; each argument reads behind the call as it read before'; 0 by the template 'total and deterministic' (their statements: YtpjlhiagifoogaaGreatTotals.lean).
  GIVEN WITH THE SEED: the statements are not yours to turn. If you find one false, say at which input.
  Laid BY PROGRAM, IN A SANDBOX (cutbox-rows.mjs): the forced cells as the released guide's own fill.sh prints them over the translation 9608831112f81ab8… (all of the seat's roots in one cut). By AI agents, Wed Nov 11 2026. No macro, syntax, notation, axiom, sorry.
-/
import Derived.Test.YtpjlhiagifoogaaGreatChecked
import GoSem.Claim
import GoSem.ClaimJoined
import GoSem.ClaimMapViews
import Derived.JoinedTies
import Derived.KernelRfl
namespace Go.Proofs.YtpjlhiagifoogaaGreat
/- THE CELL 'sum', in the pinned program and in every row, IS THE sha256 OF THE DUMP (.gsa) THAT YtpjlhiagifoogaaGreatProg.lean LOADS. Nothing in Lean hashes anything: it is a label: what it is worth is what the hold of that sum in a sandbox is worth. -/
noncomputable def Tryz.pinned : Pinned := { name := "ytpjlhiagifoogaagreat", sum := "9608831112f81ab89eb0468d893538210222e33368ec8118016b665783a55c76", checked := Tryz.checked }
namespace Rows
def none {H : Type} : Left H := { results := [], args := [] }

/-- 'tenementlaw06.GrantPlays': WHATEVER THE INPUT: true; the input reads as it did. -/
def grantPlaysSpec : ChangeSpec := { name := "grantPlays", fn := fun _ => fun
  | [d1, d2] => { results := [.lit (.bool true)], args := [d1, d2] }
  | _ => none }
def grantPlaysRow : OpenClaim := { program := "ytpjlhiagifoogaagreat", sum := "9608831112f81ab89eb0468d893538210222e33368ec8118016b665783a55c76", func := "tenement/tenementlaw06.GrantPlays", spec := "grantPlays", unfollowed := true, recurses := true, plainKeys := false, apart := false }
def GrantPlaysSaid : Prop := grantPlaysRow.holds Tryz.pinned (OpenSpec.ofChange grantPlaysSpec)

/-- ITS FALSE NEIGHBOUR: 'it returns false'. Refute it at one input. -/
def grantPlaysWrong : ChangeSpec := { name := "grantPlays", fn := fun _ => fun
  | [d1, d2] => { results := [.lit (.bool false)], args := [d1, d2] }
  | _ => none }
def GrantPlaysWrongFalsely : Prop := grantPlaysRow.holds Tryz.pinned (OpenSpec.ofChange grantPlaysWrong)

/-- 'tenementlaw13.BlkPlays': WHATEVER THE INPUT: true; the input reads as it did. -/
def blkPlaysSpec : ChangeSpec := { name := "blkPlays", fn := fun _ => fun
  | [d1, d2, d3, d4, d5] => { results := [.lit (.bool true)], args := [d1, d2, d3, d4, d5] }
  | _ => none }
def blkPlaysRow : OpenClaim := { program := "ytpjlhiagifoogaagreat", sum := "9608831112f81ab89eb0468d893538210222e33368ec8118016b665783a55c76", func := "tenement/tenementlaw13.BlkPlays", spec := "blkPlays", unfollowed := true, recurses := true, plainKeys := false, apart := false }
def BlkPlaysSaid : Prop := blkPlaysRow.holds Tryz.pinned (OpenSpec.ofChange blkPlaysSpec)

/-- ITS FALSE NEIGHBOUR: 'it returns false'. Refute it at one input. -/
def blkPlaysWrong : ChangeSpec := { name := "blkPlays", fn := fun _ => fun
  | [d1, d2, d3, d4, d5] => { results := [.lit (.bool false)], args := [d1, d2, d3, d4, d5] }
  | _ => none }
def BlkPlaysWrongFalsely : Prop := blkPlaysRow.holds Tryz.pinned (OpenSpec.ofChange blkPlaysWrong)

/-- 'tenementlaw13.BlkOnce': WHATEVER THE INPUT: true; the input reads as it did. -/
def blkOnceSpec : ChangeSpec := { name := "blkOnce", fn := fun _ => fun
  | [d1, d2, d3, d4] => { results := [.lit (.bool true)], args := [d1, d2, d3, d4] }
  | _ => none }
def blkOnceRow : OpenClaim := { program := "ytpjlhiagifoogaagreat", sum := "9608831112f81ab89eb0468d893538210222e33368ec8118016b665783a55c76", func := "tenement/tenementlaw13.BlkOnce", spec := "blkOnce", unfollowed := true, recurses := true, plainKeys := false, apart := false }
def BlkOnceSaid : Prop := blkOnceRow.holds Tryz.pinned (OpenSpec.ofChange blkOnceSpec)

/-- ITS FALSE NEIGHBOUR: 'it returns false'. Refute it at one input. -/
def blkOnceWrong : ChangeSpec := { name := "blkOnce", fn := fun _ => fun
  | [d1, d2, d3, d4] => { results := [.lit (.bool false)], args := [d1, d2, d3, d4] }
  | _ => none }
def BlkOnceWrongFalsely : Prop := blkOnceRow.holds Tryz.pinned (OpenSpec.ofChange blkOnceWrong)

/-- 'tenementlaw13.BlkDisk': WHATEVER THE INPUT: true; the input reads as it did. -/
def blkDiskSpec : ChangeSpec := { name := "blkDisk", fn := fun _ => fun
  | [d1, d2] => { results := [.lit (.bool true)], args := [d1, d2] }
  | _ => none }
def blkDiskRow : OpenClaim := { program := "ytpjlhiagifoogaagreat", sum := "9608831112f81ab89eb0468d893538210222e33368ec8118016b665783a55c76", func := "tenement/tenementlaw13.BlkDisk", spec := "blkDisk", inPlace := ["maps.clone"], unfollowed := true, recurses := true, plainKeys := false, apart := false }
def BlkDiskSaid : Prop := blkDiskRow.holds Tryz.pinned (OpenSpec.ofChange blkDiskSpec)

/-- ITS FALSE NEIGHBOUR: 'it returns false'. Refute it at one input. -/
def blkDiskWrong : ChangeSpec := { name := "blkDisk", fn := fun _ => fun
  | [d1, d2] => { results := [.lit (.bool false)], args := [d1, d2] }
  | _ => none }
def BlkDiskWrongFalsely : Prop := blkDiskRow.holds Tryz.pinned (OpenSpec.ofChange blkDiskWrong)

/-- 'tenementlaw13.BlkZero': WHATEVER THE INPUT: true; the input reads as it did. -/
def blkZeroSpec : ChangeSpec := { name := "blkZero", fn := fun _ => fun
  | [d1, d2] => { results := [.lit (.bool true)], args := [d1, d2] }
  | _ => none }
def blkZeroRow : OpenClaim := { program := "ytpjlhiagifoogaagreat", sum := "9608831112f81ab89eb0468d893538210222e33368ec8118016b665783a55c76", func := "tenement/tenementlaw13.BlkZero", spec := "blkZero", unfollowed := true, recurses := true, plainKeys := false, apart := false }
def BlkZeroSaid : Prop := blkZeroRow.holds Tryz.pinned (OpenSpec.ofChange blkZeroSpec)

/-- ITS FALSE NEIGHBOUR: 'it returns false'. Refute it at one input. -/
def blkZeroWrong : ChangeSpec := { name := "blkZero", fn := fun _ => fun
  | [d1, d2] => { results := [.lit (.bool false)], args := [d1, d2] }
  | _ => none }
def BlkZeroWrongFalsely : Prop := blkZeroRow.holds Tryz.pinned (OpenSpec.ofChange blkZeroWrong)

/-- 'tenementtop.WholeDisk': WHATEVER THE INPUT: true; the input reads as it did. -/
def wholeDiskSpec : ChangeSpec := { name := "wholeDisk", fn := fun _ => fun
  | [d1, d2, d3] => { results := [.lit (.bool true)], args := [d1, d2, d3] }
  | _ => none }
def wholeDiskRow : OpenClaim := { program := "ytpjlhiagifoogaagreat", sum := "9608831112f81ab89eb0468d893538210222e33368ec8118016b665783a55c76", func := "tenement/tenementtop.WholeDisk", spec := "wholeDisk", inPlace := ["maps.clone"], unfollowed := true, recurses := true, plainKeys := false, apart := false }
def WholeDiskSaid : Prop := wholeDiskRow.holds Tryz.pinned (OpenSpec.ofChange wholeDiskSpec)

/-- ITS FALSE NEIGHBOUR: 'it returns false'. Refute it at one input. -/
def wholeDiskWrong : ChangeSpec := { name := "wholeDisk", fn := fun _ => fun
  | [d1, d2, d3] => { results := [.lit (.bool false)], args := [d1, d2, d3] }
  | _ => none }
def WholeDiskWrongFalsely : Prop := wholeDiskRow.holds Tryz.pinned (OpenSpec.ofChange wholeDiskWrong)

/-- 'tenementtop.WholeRing': WHATEVER THE INPUT: true; the input reads as it did. -/
def wholeRingSpec : ChangeSpec := { name := "wholeRing", fn := fun _ => fun
  | [d1, d2] => { results := [.lit (.bool true)], args := [d1, d2] }
  | _ => none }
def wholeRingRow : OpenClaim := { program := "ytpjlhiagifoogaagreat", sum := "9608831112f81ab89eb0468d893538210222e33368ec8118016b665783a55c76", func := "tenement/tenementtop.WholeRing", spec := "wholeRing", unfollowed := true, recurses := true, plainKeys := false, apart := false }
def WholeRingSaid : Prop := wholeRingRow.holds Tryz.pinned (OpenSpec.ofChange wholeRingSpec)

/-- ITS FALSE NEIGHBOUR: 'it returns false'. Refute it at one input. -/
def wholeRingWrong : ChangeSpec := { name := "wholeRing", fn := fun _ => fun
  | [d1, d2] => { results := [.lit (.bool false)], args := [d1, d2] }
  | _ => none }
def WholeRingWrongFalsely : Prop := wholeRingRow.holds Tryz.pinned (OpenSpec.ofChange wholeRingWrong)

/- THE SECOND FORM. 'bulk': how many values and letters a reading holds, each counted each time it is reached (what is shared counts as often as it is met; a slice's spare places count too). A statement '..UptoSaid' is the law's where the arguments, and the package variables that the reading takes, are together of bulk at most 1048576: NARROWER than '..Said'. Prove '..Said' where nothing that the law and all that it calls make is longer than what came in: it says more and counts as full. Else prove '..UptoSaid'. A law counts once. -/
mutual
def uptoBulk {H : Type} : DataW H → Nat
  | .lit (.string bytes) => bytes.length + 1
  | .lit _ => 1
  | .nil => 1
  | .ptr d => uptoBulk d + 1
  | .slice elems spare => uptoBulkAll elems + uptoBulkAll spare + 1
  | .agg parts => uptoBulkAll parts + 1
  | .iface _ d => uptoBulk d + 1
  | .map entries => uptoBulkEntries entries + 1
  | .held _ => 1
def uptoBulkAll {H : Type} : List (DataW H) → Nat
  | [] => 0
  | d :: r => uptoBulk d + uptoBulkAll r
def uptoBulkEntries {H : Type} : List (Lit × DataW H) → Nat
  | [] => 0
  | x :: r => uptoBulkEntry x + uptoBulkEntries r
def uptoBulkEntry {H : Type} : Lit × DataW H → Nat
  | (.string bytes, d) => bytes.length + uptoBulk d + 1
  | (_, d) => uptoBulk d + 1
 end
def uptoSmall : (H : Type) → List (DataW H) → Bool := fun _ ds => decide (uptoBulkAll ds ≤ 1048576)
def OpenSpec.upto (s : _root_.Go.ChangeSpec) : _root_.Go.OpenSpec := { _root_.Go.OpenSpec.ofChange s with cond := some uptoSmall }

/-- 'tenementlaw06.GrantPlays', WHERE WHAT IT READS IS OF BULK AT MOST 1048576: true; the input reads as it did. -/
def grantPlaysUptoRow : OpenClaim := { program := "ytpjlhiagifoogaagreat", sum := "9608831112f81ab89eb0468d893538210222e33368ec8118016b665783a55c76", func := "tenement/tenementlaw06.GrantPlays", spec := "grantPlays", unfollowed := true, recurses := true, plainKeys := false, apart := false, narrowed := true }
def GrantPlaysUptoSaid : Prop := grantPlaysUptoRow.holds Tryz.pinned (OpenSpec.upto grantPlaysSpec)

/-- 'tenementlaw13.BlkPlays', WHERE WHAT IT READS IS OF BULK AT MOST 1048576: true; the input reads as it did. -/
def blkPlaysUptoRow : OpenClaim := { program := "ytpjlhiagifoogaagreat", sum := "9608831112f81ab89eb0468d893538210222e33368ec8118016b665783a55c76", func := "tenement/tenementlaw13.BlkPlays", spec := "blkPlays", unfollowed := true, recurses := true, plainKeys := false, apart := false, narrowed := true }
def BlkPlaysUptoSaid : Prop := blkPlaysUptoRow.holds Tryz.pinned (OpenSpec.upto blkPlaysSpec)

/-- 'tenementlaw13.BlkOnce', WHERE WHAT IT READS IS OF BULK AT MOST 1048576: true; the input reads as it did. -/
def blkOnceUptoRow : OpenClaim := { program := "ytpjlhiagifoogaagreat", sum := "9608831112f81ab89eb0468d893538210222e33368ec8118016b665783a55c76", func := "tenement/tenementlaw13.BlkOnce", spec := "blkOnce", unfollowed := true, recurses := true, plainKeys := false, apart := false, narrowed := true }
def BlkOnceUptoSaid : Prop := blkOnceUptoRow.holds Tryz.pinned (OpenSpec.upto blkOnceSpec)

/-- 'tenementlaw13.BlkDisk', WHERE WHAT IT READS IS OF BULK AT MOST 1048576: true; the input reads as it did. -/
def blkDiskUptoRow : OpenClaim := { program := "ytpjlhiagifoogaagreat", sum := "9608831112f81ab89eb0468d893538210222e33368ec8118016b665783a55c76", func := "tenement/tenementlaw13.BlkDisk", spec := "blkDisk", inPlace := ["maps.clone"], unfollowed := true, recurses := true, plainKeys := false, apart := false, narrowed := true }
def BlkDiskUptoSaid : Prop := blkDiskUptoRow.holds Tryz.pinned (OpenSpec.upto blkDiskSpec)

/-- 'tenementlaw13.BlkZero', WHERE WHAT IT READS IS OF BULK AT MOST 1048576: true; the input reads as it did. -/
def blkZeroUptoRow : OpenClaim := { program := "ytpjlhiagifoogaagreat", sum := "9608831112f81ab89eb0468d893538210222e33368ec8118016b665783a55c76", func := "tenement/tenementlaw13.BlkZero", spec := "blkZero", unfollowed := true, recurses := true, plainKeys := false, apart := false, narrowed := true }
def BlkZeroUptoSaid : Prop := blkZeroUptoRow.holds Tryz.pinned (OpenSpec.upto blkZeroSpec)

/-- 'tenementtop.WholeDisk', WHERE WHAT IT READS IS OF BULK AT MOST 1048576: true; the input reads as it did. -/
def wholeDiskUptoRow : OpenClaim := { program := "ytpjlhiagifoogaagreat", sum := "9608831112f81ab89eb0468d893538210222e33368ec8118016b665783a55c76", func := "tenement/tenementtop.WholeDisk", spec := "wholeDisk", inPlace := ["maps.clone"], unfollowed := true, recurses := true, plainKeys := false, apart := false, narrowed := true }
def WholeDiskUptoSaid : Prop := wholeDiskUptoRow.holds Tryz.pinned (OpenSpec.upto wholeDiskSpec)

/-- 'tenementtop.WholeRing', WHERE WHAT IT READS IS OF BULK AT MOST 1048576: true; the input reads as it did. -/
def wholeRingUptoRow : OpenClaim := { program := "ytpjlhiagifoogaagreat", sum := "9608831112f81ab89eb0468d893538210222e33368ec8118016b665783a55c76", func := "tenement/tenementtop.WholeRing", spec := "wholeRing", unfollowed := true, recurses := true, plainKeys := false, apart := false, narrowed := true }
def WholeRingUptoSaid : Prop := wholeRingUptoRow.holds Tryz.pinned (OpenSpec.upto wholeRingSpec)

end Rows
end Go.Proofs.YtpjlhiagifoogaaGreat
