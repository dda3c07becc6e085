/-
  Package net: a backend that nobody made; New.
-/
import Derived.Test.YtolfjbodgdjbjaaGreatGmZ
import Derived.Test.YtolfjbodgdjbjaaGreatPmapB
import Derived.Test.YtolfjbodgdjbjaaGreatLift
import Derived.Test.YtolfjbodgdjbjaaGreatOpen
import Derived.Test.YtolfjbodgdjbjaaGreatViewZ
import Derived.Test.YtolfjbodgdjbjaaGreatViewD
import Derived.Test.YtolfjbodgdjbjaaGreatBrN
import Derived.ProofKit
import Derived.OpenShut
set_option linter.unusedSimpArgs false
set_option linter.unusedVariables false
namespace Go.Proofs.YtolfjbodgdjbjaaGreat.Nt
open Go.RowKit Gen
set_option maxHeartbeats 2000000
/-- a backend that nobody made -/
def NoNt (w : World) (p : Option Addr) : Prop := p = none ∨ ∃ b, p = some ⟨b, 0, none⟩ ∧ w.cell? ⟨b, 3, none⟩ = some (.pointer none)
theorem NoNt.nil (w : World) : NoNt w none := .inl rfl
theorem NoNt.grown {w w' : World} {p : Option Addr} (h : NoNt w p) (hg : w.grownBy w' none) : NoNt w' p := by
  rcases h with h | ⟨b, h, c⟩
  · exact .inl h
  · exact .inr ⟨b, h, hg.cell c (by simp)⟩
theorem nMade_no (p : Option Addr) (w : World) (h : NoNt w p) : Calls Tryz.prog 16 #[.pointer p] w fun e w' => e = .returned (.bool false) ∧ w = w' := by
  rcases h with rfl | ⟨b, rfl, c⟩
  · go_enter Tryz.func16, Tryz.ntmps16
    go_wp2
    go_ret
    exact ⟨rfl, rfl⟩
  · go_enter Tryz.func16, Tryz.ntmps16
    go_wp2
    go_ret
    exact ⟨rfl, rfl⟩
theorem nMade_yes (b : Nat) (a : Addr) (w : World) (c : w.cell? ⟨b, 3, none⟩ = some (.pointer (some a))) : Calls Tryz.prog 16 #[.pointer (some ⟨b, 0, none⟩)] w fun e w' => e = .returned (.bool true) ∧ w = w' := by
  go_enter Tryz.func16, Tryz.ntmps16
  go_wp2
  go_ret
  exact ⟨rfl, rfl⟩
theorem nSend_no (p q : Option Addr) (n : Int) (w : World) (h : NoNt w p) : Calls Tryz.prog 7 #[.pointer p, .pointer q, .int .i64 n] w fun e w' => e = .returned (.tuple #[.int .i64 0, .int .i64 7]) ∧ w = w' := by
  have H := hid (nMade_no p w h)
  clear h
  go_enter Tryz.func7, Tryz.ntmps7
  go_wp2_with (go_at_call 16; refine H.out.mono ?_; rintro e w' ⟨rfl, rfl⟩)
  go_ret2
  exact ⟨rfl, rfl⟩
theorem nDeliver_no (p q : Option Addr) (n : Int) (w : World) (h : NoNt w p) : Calls Tryz.prog 8 #[.pointer p, .pointer q, .int .i64 n] w fun e w' => e = .returned (.tuple #[.int .i64 0, .int .i64 7]) ∧ w = w' := by
  have H := hid (nMade_no p w h)
  clear h
  go_enter Tryz.func8, Tryz.ntmps8
  go_wp2_with (go_at_call 16; refine H.out.mono ?_; rintro e w' ⟨rfl, rfl⟩)
  go_ret2
  exact ⟨rfl, rfl⟩
theorem nvMachine_none (w : World) : Calls Tryz.prog 35 #[.pointer none] w fun e w' => e = .returned (.pointer none) ∧ w = w' := by
  go_enter Tryz.func35, Tryz.ntmps35
  go_wp2
  go_ret
  exact ⟨rfl, rfl⟩
theorem nSend_view (b : Nat) (a : Addr) (n : Int) (w : World) (c : w.cell? ⟨b, 3, none⟩ = some (.pointer (some a))) : Calls Tryz.prog 7 #[.pointer (some ⟨b, 0, none⟩), .pointer none, .int .i64 n] w fun e w' => e = .returned (.tuple #[.int .i64 0, .int .i64 7]) ∧ w = w' := by
  have H := hid (nMade_yes b a w c)
  have HV : Calls Tryz.prog 17 #[.pointer none] w fun e w' => e = .returned (.bool false) ∧ w = w' := by
    go_enter Tryz.func17, Tryz.ntmps17
    go_wp2_with (go_at_call 35; refine (nvMachine_none _).mono ?_; rintro e w' ⟨rfl, rfl⟩)
    go_ret
    exact ⟨rfl, rfl⟩
  have HV := hid HV
  clear c
  go_enter Tryz.func7, Tryz.ntmps7
  go_wp2_with (first
    | (go_at_call 16; refine H.out.mono ?_; rintro e w' ⟨rfl, rfl⟩)
    | (go_at_call 17; refine HV.out.mono ?_; rintro e w' ⟨rfl, rfl⟩))
  go_ret2
  exact ⟨rfl, rfl⟩
theorem nRings_no (p : Option Addr) (w : World) (h : NoNt w p) : Calls Tryz.prog 11 #[.pointer p] w fun e w' => e = .returned (.tuple #[.pointer none, .pointer none]) ∧ w = w' := by
  have H := hid (nMade_no p w h)
  clear h
  go_enter Tryz.func11, Tryz.ntmps11
  go_wp2_with (go_at_call 16; refine H.out.mono ?_; rintro e w' ⟨rfl, rfl⟩)
  go_ret2
  exact ⟨rfl, rfl⟩
theorem nPort_no (p : Option Addr) (w : World) (h : NoNt w p) : Calls Tryz.prog 12 #[.pointer p] w fun e w' => e = .returned (.int .i64 (-1)) ∧ w = w' := by
  have H := hid (nMade_no p w h)
  clear h
  go_enter Tryz.func12, Tryz.ntmps12
  go_wp2_with (go_at_call 16; refine H.out.mono ?_; rintro e w' ⟨rfl, rfl⟩)
  go_ret
  exact ⟨rfl, rfl⟩
theorem nIsGr_no (w : World) : Calls Tryz.prog 24 #[.pointer none] w fun e w' => e = .returned (.bool false) ∧ w = w' := by
  go_enter Tryz.func24, Tryz.ntmps24
  go_wp2_with (go_at_call 49; refine (gzLeave _ _ (NoGr.nil _) _).mono ?_; rintro e w' ⟨rfl, rfl⟩)
  go_ret
  exact ⟨rfl, rfl⟩
theorem nIsGr_yes (X B : Nat) (w : World) (c : w.cell? ⟨X, 0, none⟩ = some (.pointer (some ⟨B, 0, none⟩))) : Calls Tryz.prog 24 #[.pointer (some ⟨X, 0, none⟩)] w fun e w' => e = .returned (.bool true) ∧ w = w' := by
  have HL : Calls Tryz.prog 49 #[.pointer (some ⟨X, 0, none⟩), .int .i64 (-1)] w fun e w' => e = .returned (.int .i64 1) ∧ w = w' := by
    have HD : Calls Tryz.prog 74 #[.int .i64 (-1)] w fun e w' => e = .returned (.bool false) ∧ w = w' := by
      go_enter Tryz.func74, Tryz.ntmps74
      go_wp2
      go_ret
      exact ⟨rfl, rfl⟩
    have HD := hid HD
    go_enter Tryz.func49, Tryz.ntmps49
    go_wp2_with (first
      | (go_at_call 73; refine (gMade_yes X B _ c).mono ?_; rintro e w' ⟨rfl, rfl⟩)
      | (go_at_call 74; refine HD.out.mono ?_; rintro e w' ⟨rfl, rfl⟩))
    go_ret
    exact ⟨rfl, rfl⟩
  have HL := hid HL
  clear c
  go_enter Tryz.func24, Tryz.ntmps24
  go_wp2_with (go_at_call 49; refine HL.out.mono ?_; rintro e w' ⟨rfl, rfl⟩)
  go_ret
  exact ⟨rfl, rfl⟩
theorem nIsBr_no (w : World) : Calls Tryz.prog 25 #[.pointer none] w fun e w' => e = .returned (.bool false) ∧ w = w' := by
  go_enter Tryz.func25, Tryz.ntmps25
  go_wp2_with (go_at_call 28; refine (Br.bPorts_no _ _ (.inl rfl)).mono ?_; rintro e w' ⟨rfl, rfl⟩)
  go_ret
  exact ⟨rfl, rfl⟩
/-- a switch of one port: all that New asks of it -/
def One (w : World) (p : Nat) : Prop := Calls Tryz.prog 28 #[.pointer (some ⟨p, 0, none⟩)] w fun e w' => e = .returned (.int .i64 1) ∧ w = w'
theorem nIsBr_yes (p : Nat) (w : World) (h : One w p) : Calls Tryz.prog 25 #[.pointer (some ⟨p, 0, none⟩)] w fun e w' => e = .returned (.bool true) ∧ w = w' := by
  have H := hid (show Calls Tryz.prog 28 #[.pointer (some ⟨p, 0, none⟩)] w fun e w' => e = .returned (.int .i64 1) ∧ w = w' from h)
  clear h
  go_enter Tryz.func25, Tryz.ntmps25
  go_wp2_with (go_at_call 28; refine H.out.mono ?_; rintro e w' ⟨rfl, rfl⟩)
  go_ret
  exact ⟨rfl, rfl⟩
theorem nRNew (w : World) : Calls Tryz.prog 26 #[.int .i64 0] w fun e w' => ∃ v, e = .returned (.tuple #[.pointer (some v), .int .i64 0]) ∧ w.grownBy w' none := by
  go_enter Tryz.func26, Tryz.ntmps26
  go_wp2
  go_ret2
  exact ⟨_, rfl, World.grownBy_alloc _ _ _⟩
theorem nIsDom (d : Nat) (hd : d < 8) (w : World) : Calls Tryz.prog 27 #[.int .i64 d] w fun e w' => e = .returned (.bool true) ∧ w = w' := by
  have h0 : (0 : Int) ≤ d := by omega
  have h1 : (d : Int) < 8 := by omega
  go_enter Tryz.func27, Tryz.ntmps27
  go_wp2
  go_ret
  exact ⟨rfl, rfl⟩
theorem nNew_nil (q : Option Addr) (w : World) : Calls Tryz.prog 9 #[.pointer none, .int .i64 0, .int .i64 1, .int .i64 0, .int .i64 0, .pointer q, .int .i64 0] w fun e w' => e = .returned (.tuple #[.pointer none, .int .i64 7]) ∧ w = w' := by
  go_enter Tryz.func9, Tryz.ntmps9
  go_wp2_with (go_at_call 24; refine (nIsGr_no _).mono ?_; rintro e w' ⟨rfl, rfl⟩)
  go_ret2
  exact ⟨rfl, rfl⟩
theorem nNew_nobr (X B : Nat) (w : World) (c : w.cell? ⟨X, 0, none⟩ = some (.pointer (some ⟨B, 0, none⟩))) : Calls Tryz.prog 9 #[.pointer (some ⟨X, 0, none⟩), .int .i64 0, .int .i64 1, .int .i64 0, .int .i64 0, .pointer none, .int .i64 0] w fun e w' => e = .returned (.tuple #[.pointer none, .int .i64 7]) ∧ w = w' := by
  have H := hid (nIsGr_yes X B w c)
  clear c
  go_enter Tryz.func9, Tryz.ntmps9
  go_wp2_with (first
    | (go_at_call 24; refine H.out.mono ?_; rintro e w' ⟨rfl, rfl⟩)
    | (go_at_call 25; refine (nIsBr_no _).mono ?_; rintro e w1 ⟨rfl, rfl⟩))
  go_ret2
  exact ⟨rfl, rfl⟩
theorem nNew_yes (X B p : Nat) (w : World) (c : w.cell? ⟨X, 0, none⟩ = some (.pointer (some ⟨B, 0, none⟩))) (h : ∀ w', w.grownBy w' none → One w' p) : Calls Tryz.prog 9 #[.pointer (some ⟨X, 0, none⟩), .int .i64 0, .int .i64 1, .int .i64 0, .int .i64 0, .pointer (some ⟨p, 0, none⟩), .int .i64 0] w fun e w' =>
    ∃ k v, e = .returned (.tuple #[.pointer (some ⟨k, 0, none⟩), .int .i64 0]) ∧ w'.cell? ⟨k, 3, none⟩ = some (.pointer (some v)) ∧ w.grownBy w' none := by
  have H := hid (nIsGr_yes X B w c)
  have HB := hid (nIsBr_yes p w (h w (grownBy_refl _ _)))
  have HP := hid (fun w' hg => show Calls Tryz.prog 28 #[.pointer (some ⟨p, 0, none⟩)] w' fun e w'' => e = .returned (.int .i64 1) ∧ w' = w'' from h w' hg)
  have HD0 := hid (fun w' => nIsDom 0 (by omega) w')
  have HD1 := hid (fun w' => nIsDom 1 (by omega) w')
  simp only [Int.cast_ofNat_Int] at HD0 HD1
  clear c h
  go_enter Tryz.func9, Tryz.ntmps9
  go_wp2_with (first
    | (go_at_call 24; refine H.out.mono ?_; rintro e w' ⟨rfl, rfl⟩)
    | (go_at_call 25; refine HB.out.mono ?_; rintro e w1 ⟨rfl, rfl⟩; have G := hid (grownBy_refl w none))
    | (go_at_call 26; refine (nRNew _).mono ?_; first | (rintro e w2 ⟨v1, rfl, g2⟩; replace G := hid (G.out.trans g2); clear g2))
    | (go_at_call 28; refine (HP.out _ G.out).mono ?_; rintro e w' ⟨rfl, rfl⟩)
    | (go_at_call 27; first | (with_reducible refine (HD0.out _).mono ?_; rintro e w' ⟨rfl, rfl⟩) | (with_reducible refine (HD1.out _).mono ?_; rintro e w' ⟨rfl, rfl⟩)))
  go_ret2
  rename_i wv vv
  exact ⟨_, vv, rfl, by simp [go_sem], G.out.trans (World.grownBy_alloc _ _ _)⟩
theorem nbNew (w : World) : Calls Tryz.prog 6 #[.int .i64 1] w fun e w' => ∃ p, e = .returned (.tuple #[.pointer (some ⟨p, 0, none⟩), .int .i64 0]) ∧ (∀ w'', w'.grownBy w'' none → One w'' p) ∧ w.grownBy w' none := by
  refine (Br.bNew_yes (fun _ => 0) 1 (by omega) (by omega) w).mono ?_
  rintro e w' ⟨v, rfl, lab', b, g, m, lq, rfl, hp, hg, _⟩
  refine ⟨b, rfl, fun w'' hg' => ?_, hg⟩
  have h2 := hp.grown (by show 1 ≤ 8; omega) hg'
  exact Br.bPorts (T := 0) h2 (Br.Sw.new_ok (by omega) (by omega))
end Go.Proofs.YtolfjbodgdjbjaaGreat.Nt
