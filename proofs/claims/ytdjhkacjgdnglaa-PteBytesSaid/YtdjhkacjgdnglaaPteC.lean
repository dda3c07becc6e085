/-
  Package tenementlaw04: awake.
-/
import Derived.Test.YtdjhkacjgdnglaaPteB
namespace Go.Proofs.Ytdjhkacjgdnglaa
open Go.RowKit
set_option maxHeartbeats 1000000

theorem pAwake (w : World) : Calls Try.prog 28 #[] w fun e w' => e = .returned (.bool true) ∧ w.grownBy w' none := by
  have H := Lib.hid (fun w => (pack_any ⟨true, true, 5⟩ w).mono fun e w' h => (⟨by rw [h.1]; rfl, h.2⟩ : e = .returned (.tuple #[.int .u32 1283, .int .i64 0]) ∧ w.grownBy w' none))
  go_enter Try.func28, Try.ntmps28
  go_wp2_with (go_at_call 34; refine (H.out _).mono ?_; rintro e w2 ⟨rfl, hg⟩; have HG := Lib.hid hg; clear hg)
  go_ret
  exact ⟨rfl, HG.out⟩
theorem u32_nat {n : Int} (h : (Lit.int .u32 n).wf = true) : ∃ k : Nat, n = k ∧ k < 4294967296 := by
  simp only [Lit.wf, Bool.and_eq_true, decide_eq_true_eq] at h
  have h1 : IntKind.u32.min = 0 := rfl
  have h2 : IntKind.u32.max = 4294967295 := rfl
  rw [h1, h2] at h
  exact ⟨n.toNat, by omega, by omega⟩
end Go.Proofs.Ytdjhkacjgdnglaa
