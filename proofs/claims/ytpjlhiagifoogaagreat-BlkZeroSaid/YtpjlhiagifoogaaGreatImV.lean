/-
  Package image: Copy.
-/
import Derived.Test.YtpjlhiagifoogaaGreatImU
import Derived.Laws.Externs
import Derived.MapKept
import Derived.Deep.RegionHeld3
import Derived.Shelf.SlMaps.Clone
set_option linter.unusedSimpArgs false
set_option linter.unusedVariables false
namespace Go.Proofs.YtpjlhiagifoogaaGreat.Imx
open Go.RowKit Gen CM
set_option maxHeartbeats 1000000

theorem iCopy_no (p : Option Addr) (w : World) (h : NoI w p) : Calls Tryz.prog 42 #[.pointer p] w fun e w' => e = .returned (.pointer none) ∧ w = w' := by
  have H := hid h
  clear h
  go_enter Tryz.func42, Tryz.ntmps42
  go_wp2_with (go_at_call 109; refine (imade_no _ _ H.out).mono ?_; rintro e w' ⟨rfl, rfl⟩)
  go_ret
  exact ⟨rfl, rfl⟩
theorem PI.make {w : World} {b g m : Nat} {I : Im} (h : PI w b g m I) {q : Nat} (hq : IMb w q I.used (blkF I.own)) : PI (w.alloc (.cells #[.slice (some ⟨g, 0, none⟩) I.n I.n, .map (some q), .int .i64 I.most] 189)) w.heap.size g q I :=
  ⟨Row.new w _ _ _ _ (by simp) (fun k hk => by match k, hk with | 0, _ => rfl | 1, _ => rfl | 2, _ => rfl), h.base.alloc _, hq.alloc _⟩
end Go.Proofs.YtpjlhiagifoogaaGreat.Imx
