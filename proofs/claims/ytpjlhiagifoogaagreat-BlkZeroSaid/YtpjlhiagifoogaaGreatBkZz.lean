/-
  Package blk: a backend that nobody made; New.
-/
import Derived.Test.YtpjlhiagifoogaaGreatImX
import Derived.Test.YtpjlhiagifoogaaGreatGmZ
import Derived.Test.YtpjlhiagifoogaaGreatPmapB
import Derived.Test.YtpjlhiagifoogaaGreatLift
import Derived.Test.YtpjlhiagifoogaaGreatOpen
import Derived.Test.YtpjlhiagifoogaaGreatViewZ
import Derived.Test.YtpjlhiagifoogaaGreatViewD
import Derived.ProofKit
import Derived.OpenShut
set_option linter.unusedSimpArgs false
set_option linter.unusedVariables false
namespace Go.Proofs.YtpjlhiagifoogaaGreat
open Go.RowKit
set_option maxHeartbeats 2000000
/-- a backend that nobody made -/
def NoBk (w : World) (p : Option Addr) : Prop := p = none ∨ ∃ b, p = some ⟨b, 0, none⟩ ∧ w.cell? ⟨b, 3, none⟩ = some (.pointer none)
theorem NoBk.nil (w : World) : NoBk w none := .inl rfl
theorem NoBk.grown {w w' : World} {p : Option Addr} (h : NoBk w p) (hg : w.grownBy w' none) : NoBk w' p := by
  rcases h with h | ⟨b, h, c⟩
  · exact .inl h
  · exact .inr ⟨b, h, hg.cell c (by simp)⟩
theorem kMade_no (p : Option Addr) (w : World) (h : NoBk w p) : Calls Tryz.prog 93 #[.pointer p] w fun e w' => e = .returned (.bool false) ∧ w = w' := by
  rcases h with rfl | ⟨b, rfl, c⟩
  · go_enter Tryz.func93, Tryz.ntmps93
    go_wp2
    go_ret
    exact ⟨rfl, rfl⟩
  · go_enter Tryz.func93, Tryz.ntmps93
    go_wp2
    go_ret
    exact ⟨rfl, rfl⟩
theorem kMade_yes (b : Nat) (a : Addr) (w : World) (c : w.cell? ⟨b, 3, none⟩ = some (.pointer (some a))) : Calls Tryz.prog 93 #[.pointer (some ⟨b, 0, none⟩)] w fun e w' => e = .returned (.bool true) ∧ w = w' := by
  go_enter Tryz.func93, Tryz.ntmps93
  go_wp2
  go_ret
  exact ⟨rfl, rfl⟩
theorem kStep_no (p q : Option Addr) (n : Int) (w : World) (h : NoBk w p) : Calls Tryz.prog 23 #[.pointer p, .pointer q, .int .i64 n] w fun e w' => e = .returned (.tuple #[.int .i64 0, .int .i64 7]) ∧ w = w' := by
  have H := hid (kMade_no p w h)
  clear h
  go_enter Tryz.func23, Tryz.ntmps23
  go_wp2_with (go_at_call 93; refine H.out.mono ?_; rintro e w' ⟨rfl, rfl⟩)
  go_ret2
  exact ⟨rfl, rfl⟩
theorem vMachine_none (w : World) : Calls Tryz.prog 182 #[.pointer none] w fun e w' => e = .returned (.pointer none) ∧ w = w' := by
  go_enter Tryz.func182, Tryz.ntmps182
  go_wp2
  go_ret
  exact ⟨rfl, rfl⟩
theorem kStep_view (b : Nat) (a : Addr) (n : Int) (w : World) (c : w.cell? ⟨b, 3, none⟩ = some (.pointer (some a))) : Calls Tryz.prog 23 #[.pointer (some ⟨b, 0, none⟩), .pointer none, .int .i64 n] w fun e w' => e = .returned (.tuple #[.int .i64 0, .int .i64 7]) ∧ w = w' := by
  have H := hid (kMade_yes b a w c)
  have HV : Calls Tryz.prog 94 #[.pointer none] w fun e w' => e = .returned (.bool false) ∧ w = w' := by
    go_enter Tryz.func94, Tryz.ntmps94
    go_wp2_with (go_at_call 182; refine (vMachine_none _).mono ?_; rintro e w' ⟨rfl, rfl⟩)
    go_ret
    exact ⟨rfl, rfl⟩
  have HV := hid HV
  clear c
  go_enter Tryz.func23, Tryz.ntmps23
  go_wp2_with (first
    | (go_at_call 93; refine H.out.mono ?_; rintro e w' ⟨rfl, rfl⟩)
    | (go_at_call 94; refine HV.out.mono ?_; rintro e w' ⟨rfl, rfl⟩))
  go_ret2
  exact ⟨rfl, rfl⟩
theorem kImage_no (p : Option Addr) (w : World) (h : NoBk w p) : Calls Tryz.prog 29 #[.pointer p] w fun e w' => e = .returned (.pointer none) ∧ w = w' := by
  have H := hid (kMade_no p w h)
  clear h
  go_enter Tryz.func29, Tryz.ntmps29
  go_wp2_with (go_at_call 93; refine H.out.mono ?_; rintro e w' ⟨rfl, rfl⟩)
  go_ret
  exact ⟨rfl, rfl⟩
theorem kRing_no (p : Option Addr) (w : World) (h : NoBk w p) : Calls Tryz.prog 31 #[.pointer p] w fun e w' => e = .returned (.pointer none) ∧ w = w' := by
  have H := hid (kMade_no p w h)
  clear h
  go_enter Tryz.func31, Tryz.ntmps31
  go_wp2_with (go_at_call 93; refine H.out.mono ?_; rintro e w' ⟨rfl, rfl⟩)
  go_ret
  exact ⟨rfl, rfl⟩
theorem kReplies_no (p : Option Addr) (w : World) (h : NoBk w p) : Calls Tryz.prog 27 #[.pointer p] w fun e w' => e = .returned (.slice none 0 0) ∧ w = w' := by
  have H := hid (kMade_no p w h)
  clear h
  go_enter Tryz.func27, Tryz.ntmps27
  go_wp2_with (go_at_call 93; refine H.out.mono ?_; rintro e w' ⟨rfl, rfl⟩)
  go_ret
  exact ⟨rfl, rfl⟩
theorem kIsGr_no (w : World) : Calls Tryz.prog 84 #[.pointer none] w fun e w' => e = .returned (.bool false) ∧ w = w' := by
  go_enter Tryz.func84, Tryz.ntmps84
  go_wp2_with (go_at_call 74; refine (gzLeave _ _ (NoGr.nil _) _).mono ?_; rintro e w' ⟨rfl, rfl⟩)
  go_ret
  exact ⟨rfl, rfl⟩
theorem kIsGr_yes (X B : Nat) (w : World) (c : w.cell? ⟨X, 0, none⟩ = some (.pointer (some ⟨B, 0, none⟩))) : Calls Tryz.prog 84 #[.pointer (some ⟨X, 0, none⟩)] w fun e w' => e = .returned (.bool true) ∧ w = w' := by
  have HL : Calls Tryz.prog 74 #[.pointer (some ⟨X, 0, none⟩), .int .i64 (-1)] w fun e w' => e = .returned (.int .i64 1) ∧ w = w' := by
    have HD : Calls Tryz.prog 139 #[.int .i64 (-1)] w fun e w' => e = .returned (.bool false) ∧ w = w' := by
      go_enter Tryz.func139, Tryz.ntmps139
      go_wp2
      go_ret
      exact ⟨rfl, rfl⟩
    have HD := hid HD
    go_enter Tryz.func74, Tryz.ntmps74
    go_wp2_with (first
      | (go_at_call 108; refine (gMade_yes X B _ c).mono ?_; rintro e w' ⟨rfl, rfl⟩)
      | (go_at_call 139; refine HD.out.mono ?_; rintro e w' ⟨rfl, rfl⟩))
    go_ret
    exact ⟨rfl, rfl⟩
  have HL := hid HL
  clear c
  go_enter Tryz.func84, Tryz.ntmps84
  go_wp2_with (go_at_call 74; refine HL.out.mono ?_; rintro e w' ⟨rfl, rfl⟩)
  go_ret
  exact ⟨rfl, rfl⟩
theorem kIsIm_no (w : World) : Calls Tryz.prog 85 #[.pointer none] w fun e w' => e = .returned (.bool false) ∧ w.grownBy w' none := by
  go_enter Tryz.func85, Tryz.ntmps85
  go_wp2_with (go_at_call 131; refine (Imx.iNeed_none _ _ _ _ (.inl rfl)).mono ?_; rintro e w1 ⟨rfl, g1⟩; have G := hid g1; clear g1)
  go_ret
  exact ⟨rfl, G.out⟩
theorem kIsIm_yes (w : World) {b g m : Nat} {I : Imx.Im} (h : Imx.PI w b g m I) (hok : I.ok) : Calls Tryz.prog 85 #[.pointer (some ⟨b, 0, none⟩)] w fun e w' => e = .returned (.bool true) ∧ w.grownBy w' none := by
  have H := hid (Imx.iNeed h hok 0 0 (Imx.I64.of (by omega) (by omega)) (Imx.I64.of (by omega) (by omega)))
  clear h hok
  go_enter Tryz.func85, Tryz.ntmps85
  go_wp2_with (go_at_call 131; refine H.out.mono ?_; rintro e w1 ⟨rfl, g1⟩; have G := hid g1; clear g1)
  go_ret
  exact ⟨rfl, G.out⟩
theorem kRNew (w : World) : Calls Tryz.prog 86 #[.int .i64 0] w fun e w' => ∃ v, e = .returned (.tuple #[.pointer (some v), .int .i64 0]) ∧ w.grownBy w' none := by
  go_enter Tryz.func86, Tryz.ntmps86
  go_wp2
  go_ret2
  exact ⟨_, rfl, World.grownBy_alloc _ _ _⟩
theorem kIsDom (d : Nat) (hd : d < 8) (w : World) : Calls Tryz.prog 87 #[.int .i64 d] w fun e w' => e = .returned (.bool true) ∧ w = w' := by
  have h0 : (0 : Int) ≤ d := by omega
  have h1 : (d : Int) < 8 := by omega
  go_enter Tryz.func87, Tryz.ntmps87
  go_wp2
  go_ret
  exact ⟨rfl, rfl⟩
theorem kNew_nil (q : Option Addr) (w : World) : Calls Tryz.prog 17 #[.pointer none, .int .i64 0, .int .i64 1, .int .i64 0, .pointer q] w fun e w' => e = .returned (.tuple #[.pointer none, .int .i64 7]) ∧ w = w' := by
  go_enter Tryz.func17, Tryz.ntmps17
  go_wp2_with (go_at_call 84; refine (kIsGr_no _).mono ?_; rintro e w' ⟨rfl, rfl⟩)
  go_ret2
  exact ⟨rfl, rfl⟩
theorem kNew_noim (X B : Nat) (w : World) (c : w.cell? ⟨X, 0, none⟩ = some (.pointer (some ⟨B, 0, none⟩))) : Calls Tryz.prog 17 #[.pointer (some ⟨X, 0, none⟩), .int .i64 0, .int .i64 1, .int .i64 0, .pointer none] w fun e w' => e = .returned (.tuple #[.pointer none, .int .i64 7]) ∧ w.grownBy w' none := by
  have H := hid (kIsGr_yes X B w c)
  clear c
  go_enter Tryz.func17, Tryz.ntmps17
  go_wp2_with (first
    | (go_at_call 84; refine H.out.mono ?_; rintro e w' ⟨rfl, rfl⟩)
    | (go_at_call 85; refine (kIsIm_no _).mono ?_; rintro e w1 ⟨rfl, g1⟩; have G := hid g1; clear g1))
  go_ret2
  exact ⟨rfl, G.out⟩
theorem kNew_yes (X B : Nat) (w : World) {b g m : Nat} {I : Imx.Im} (c : w.cell? ⟨X, 0, none⟩ = some (.pointer (some ⟨B, 0, none⟩))) (h : Imx.PI w b g m I) (hok : I.ok) : Calls Tryz.prog 17 #[.pointer (some ⟨X, 0, none⟩), .int .i64 0, .int .i64 1, .int .i64 0, .pointer (some ⟨b, 0, none⟩)] w fun e w' => ∃ k v, e = .returned (.tuple #[.pointer (some ⟨k, 0, none⟩), .int .i64 0]) ∧ w'.cell? ⟨k, 3, none⟩ = some (.pointer (some v)) ∧ w.grownBy w' none := by
  have H := hid (kIsGr_yes X B w c)
  have HI := hid (kIsIm_yes w h hok)
  have HD0 := hid (fun w' => kIsDom 0 (by omega) w')
  have HD1 := hid (fun w' => kIsDom 1 (by omega) w')
  simp only [Int.cast_ofNat_Int] at HD0 HD1
  clear c h hok
  go_enter Tryz.func17, Tryz.ntmps17
  go_wp2_with (first
    | (go_at_call 84; refine H.out.mono ?_; rintro e w' ⟨rfl, rfl⟩)
    | (go_at_call 85; refine HI.out.mono ?_; rintro e w1 ⟨rfl, g1⟩; have G := hid g1; clear g1)
    | (go_at_call 86; refine (kRNew _).mono ?_; rintro e w2 ⟨v, rfl, g2⟩; replace G := hid (G.out.trans g2); clear g2)
    | (go_at_call 87; first | (with_reducible refine (HD0.out _).mono ?_; rintro e w' ⟨rfl, rfl⟩) | (with_reducible refine (HD1.out _).mono ?_; rintro e w' ⟨rfl, rfl⟩)))
  go_ret2
  exact ⟨_, v, rfl, by simp [go_sem], G.out.trans (World.grownBy_alloc _ _ _)⟩
end Go.Proofs.YtpjlhiagifoogaaGreat
