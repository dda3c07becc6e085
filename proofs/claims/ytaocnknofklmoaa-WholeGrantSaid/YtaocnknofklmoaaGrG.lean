/-
  Package grant: Pack.
-/
import Derived.Test.YtaocnknofklmoaaGrF
import Derived.Deep.RegionHeld3
set_option linter.unusedSimpArgs false
set_option linter.unusedVariables false
namespace Go.Proofs.Ytaocnknofklmoaa
open Go.RowKit
set_option maxHeartbeats 4000000
def le2 (n : Nat) : List UInt8 := [UInt8.ofNat (n % 256), UInt8.ofNat (n / 256)]
theorem info_u8' : (Try.prog.info? 5).map (fun i => (i.zero, i.size, i.bytes)) = some (some (.int .u8 0), 1, 1) := by kernel_rfl
theorem bcells_le2 (n : Nat) (hn : n < 65536) : bcells (le2 n) = [.int .u8 (n % 256 : Nat), .int .u8 (n / 256 : Nat)] := by
  have h1 : (n / 256) % 256 = n / 256 := by omega
  simp [bcells, le2]
  omega
def ByPost (n : Nat) (w : World) (e : Ending) (w' : World) : Prop := e = .returned (.slice (some ⟨w.heap.size, 0, none⟩) 2 2) ∧ w'.ownsRow w.heap.size 5 1 (.slice (some ⟨w.heap.size, 0, none⟩) 2 2) 2 (bcells (le2 n)) ∧ w.grownBy w' none
theorem gBytes (n : Nat) (hn : n < 65536) (w : World) : Calls Try.prog 107 #[.int .i64 n] w (ByPost n w) := by
  go_enter Try.func107, Try.ntmps107
  go_wp2
  go_ret
  refine ⟨rfl, ?_, World.grownBy_alloc _ _ _⟩
  rw [bcells_le2 n hn]
  exact ⟨rfl, .inr ⟨w.heap.size, 2, _, rfl, Nat.le_refl _, heap_alloc_new w _, Nat.le_refl _, by decide, rfl, rfl⟩⟩
theorem or4 (k : Nat) (h : k ≤ 2) : bits .or .i64 (k : Int) 4 = ((k + 4 : Nat) : Int) := by
  have : k = 0 ∨ k = 1 ∨ k = 2 := by omega
  rcases this with rfl | rfl | rfl <;> rfl
theorem or8 (k : Nat) (h : k ≤ 6) : bits .or .i64 (k : Int) 8 = ((k + 8 : Nat) : Int) := by
  have : k = 0 ∨ k = 1 ∨ k = 2 ∨ k = 3 ∨ k = 4 ∨ k = 5 ∨ k = 6 := by omega
  rcases this with rfl | rfl | rfl | rfl | rfl | rfl | rfl <;> rfl
end Go.Proofs.Ytaocnknofklmoaa
