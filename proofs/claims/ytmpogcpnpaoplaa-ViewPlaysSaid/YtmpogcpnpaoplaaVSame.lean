/-
  law02.same: both machines have the same bytes.
-/
import Derived.Test.YtmpogcpnpaoplaaVStr
import Derived.Deep.QuietTactic
import Derived.BigQuiet
namespace Go.Proofs.Ytmpogcpnpaoplaa
open Go.RowKit
set_option maxHeartbeats 1200000

set_option maxRecDepth 100000 in
theorem same_yes (B b : Nat) (M : Mach) (L : Lay) (X : Int) (w : World) (hm : PM w B M) (hr : RM w b M L) (hok : M.ok X) :
    Calls Try.prog 28 #[.pointer (some ⟨B, 0, none⟩), .pointer (some ⟨b, 0, none⟩)] w fun e w' => e = .returned (.bool true) ∧ w.grownBy w' none := by
  have HM := hid hm; have HR := hid hr; have HOk := hid hok
  have HNn := hid (show M.n = L.n from hr.hn)
  have hLn : (L.n : Int) ≤ 256 := by have h1 := hok.n2; have h2 := hr.hn; omega
  clear hm hr hok
  go_enter Try.func28, Try.ntmps28
  go_wp2
  go_loopw [5] (fun x wr => ∃ i : Nat, x = .int .i64 i ∧ i ≤ L.n ∧ PM wr B M ∧ RM wr b M L ∧ w.grownBy wr none) (fun x _ => L.n - (intOf x).toNat)
  case atStart => exact ⟨0, rfl, by omega, HM.out, HR.out, World.grownBy.refl _ _⟩
  case round =>
    clear HM HR
    obtain ⟨i, rfl, hi, hm, hr, hg⟩ := hrel
    have e0 := hr.slB
    have HM := hid hm; have HR := hid hr; have HG := hid hg
    clear hm hr hg
    have hi0 : (0 : Int) ≤ i := by omega
    by_cases hil : i < L.n
    · have hil' : (i : Int) < L.n := by omega
      have HRd := hid (show Calls Try.prog 31 #[.pointer (some ⟨B, 0, none⟩), .int .i64 i, .int .i64 0, .int .i64 256] wr fun e w' => ∃ v, e = .returned (.tuple #[v, .int .i64 0]) ∧ FreshB wr ((M.fr i).part 0 256) v w' ∧ wr.grownBy w' none from by
        have := Read_all B i 0 256 wr M X HM.out HOk.out (by omega)
        rw [read_page M i (by rw [HNn.out]; exact hil')] at this
        exact this)
      go_upto_region 5 with (go_at_call 31; refine HRd.out.mono ?_; rintro e w8 ⟨v8, rfl, ⟨p8, c8, rfl, hk8⟩, g8⟩; have G8 := hid g8; have kc1 := (fun n => kept_string hk8 c8 _ (grownBy_drewN w8 n none)); rw [part_len] at kc1; rw [part_len]; clear hk8 g8)
      have HR8 := hid (HR.out.grown G8.out)
      clear e0
      have e1 := HR8.out.slB
      have e6 := HR8.out.sl hil
      have kc2 : ∀ n : Nat, (convert 31 9 (.slice (some ⟨L.g i, 0, none⟩) 256 (L.cg i))).run Try.prog (w8.drewN n) = .ok (.string ⟨((M.fr i).part 0 256).toArray⟩) (w8.drewN n) := fun n =>
        vconv_row _ _ 0 256 _ _ (part_len _ _ _) fun q hq => by rw [part_get _ _ _ _ hq]; simpa using (HR8.out.byte hil hq)
      go_quiet (fail)
      clear e1 e6 kc1 kc2
      go_wp2
      go_roundw
      case rel => exact ⟨i + 1, by go_num, by omega, (HM.out.grown G8.out (by simp)).grown (grownBy_drewN _ _ none) (by simp), HR8.out.grown (grownBy_drewN _ _ _), (HG.out.trans G8.out).trans (grownBy_drewN _ _ _)⟩
      case measure => simp [intOf]; omega
    · obtain rfl : i = L.n := by omega
      have hge2 : (L.n : Int) ≤ L.n := by omega
      go_wp2
      go_ret
      exact ⟨rfl, HG.out⟩
end Go.Proofs.Ytmpogcpnpaoplaa
