/-
  Package bus: calls of a device that nobody made; New of a store that nobody made.
-/
import Derived.Test.YtbocbokkphlcbaaGreatDoorStZr
set_option linter.unusedSimpArgs false
set_option linter.unusedVariables false
namespace Go.Proofs.YtbocbokkphlcbaaGreatDoor
open Go.RowKit Gen
set_option maxHeartbeats 1000000

/-- nobody made the device that p points to -/
def NoDv (w : World) (p : Option Addr) : Prop := p = none ∨ ∃ b, p = some ⟨b, 0, none⟩ ∧ w.cell? ⟨b, 0, none⟩ = some (.pointer none)
theorem NoDv.nil (w : World) : NoDv w none := .inl rfl
theorem NoDv.grown {w w' : World} {p : Option Addr} (h : NoDv w p) (hg : w.grownBy w' none) : NoDv w' p := by
  rcases h with h | ⟨b, h, hc⟩
  · exact .inl h
  · exact .inr ⟨b, h, hg.cell hc (by simp)⟩
theorem zDmade (p : Option Addr) (w : World) (h : NoDv w p) : Calls Tryz.prog 36 #[.pointer p] w fun e w' => e = .returned (.bool false) ∧ w = w' := by
  rcases h with rfl | ⟨b, rfl, hc⟩
  · go_enter Tryz.func36, Tryz.ntmps36
    go_wp2
    go_ret
    exact ⟨rfl, rfl⟩
  · go_enter Tryz.func36, Tryz.ntmps36
    go_wp2
    go_ret
    exact ⟨rfl, rfl⟩
theorem zDnodes (p : Option Addr) (d : Int) (w : World) (h : NoDv w p) : Calls Tryz.prog 52 #[.pointer p, .int .i64 d] w fun e w' => e = .returned (.tuple #[.string ⟨#[]⟩, .string ⟨#[]⟩, .int .i64 7]) ∧ w = w' := by
  have H := hid (zDmade p w h)
  clear h
  go_enter Tryz.func52, Tryz.ntmps52
  go_wp2_with (go_at_call 36; refine H.out.mono ?_; rintro e w' ⟨rfl, rfl⟩)
  go_returns
  exact ⟨rfl, rfl⟩
theorem zDsee (p : Option Addr) (d : Int) (w : World) (h : NoDv w p) : Calls Tryz.prog 23 #[.pointer p, .int .i64 d] w fun e w' => e = .returned (.tuple #[.int .i64 0, .int .i64 0, .int .i64 7]) ∧ w = w' := by
  have H := hid (zDnodes p d w h)
  clear h
  go_enter Tryz.func23, Tryz.ntmps23
  go_wp2_with (go_at_call 52; refine H.out.mono ?_; rintro e w' ⟨rfl, rfl⟩)
  go_returns
  exact ⟨rfl, rfl⟩
theorem zDstep (p : Option Addr) (w : World) (h : NoDv w p) : Calls Tryz.prog 20 #[.pointer p] w fun e w' => e = .returned (.tuple #[.int .i64 0, .int .i64 7]) ∧ w = w' := by
  have H := hid (zDmade p w h)
  clear h
  go_enter Tryz.func20, Tryz.ntmps20
  go_wp2_with (go_at_call 36; refine H.out.mono ?_; rintro e w' ⟨rfl, rfl⟩)
  go_ret2
  exact ⟨rfl, rfl⟩
theorem zDswitch (p : Option Addr) (d t : Int) (w : World) (h : NoDv w p) : Calls Tryz.prog 22 #[.pointer p, .int .i64 d, .int .i64 t] w fun e w' => e = .returned (.int .i64 7) ∧ w = w' := by
  have H := hid (zDnodes p d w h)
  clear h
  go_enter Tryz.func22, Tryz.ntmps22
  go_wp2_with (go_at_call 52; refine H.out.mono ?_; rintro e w' ⟨rfl, rfl⟩)
  go_ret
  exact ⟨rfl, rfl⟩
theorem zDremove (p : Option Addr) (w : World) (h : NoDv w p) : Calls Tryz.prog 24 #[.pointer p] w fun e w' => e = .returned (.int .i64 7) ∧ w = w' := by
  have H := hid (zDmade p w h)
  clear h
  go_enter Tryz.func24, Tryz.ntmps24
  go_wp2_with (go_at_call 36; refine H.out.mono ?_; rintro e w' ⟨rfl, rfl⟩)
  go_ret
  exact ⟨rfl, rfl⟩
theorem zDfront (p : Option Addr) (w : World) (h : NoDv w p) : Calls Tryz.prog 13 #[.pointer p] w fun e w' => e = .returned (.string ⟨#[]⟩) ∧ w = w' := by
  have H := hid (zDmade p w h)
  clear h
  go_enter Tryz.func13, Tryz.ntmps13
  go_wp2_with (go_at_call 36; refine H.out.mono ?_; rintro e w' ⟨rfl, rfl⟩)
  go_ret
  exact ⟨rfl, rfl⟩
theorem zDback (p : Option Addr) (w : World) (h : NoDv w p) : Calls Tryz.prog 14 #[.pointer p] w fun e w' => e = .returned (.string ⟨#[]⟩) ∧ w = w' := by
  have H := hid (zDmade p w h)
  clear h
  go_enter Tryz.func14, Tryz.ntmps14
  go_wp2_with (go_at_call 36; refine H.out.mono ?_; rintro e w' ⟨rfl, rfl⟩)
  go_ret
  exact ⟨rfl, rfl⟩
theorem zBmade (p : Option Addr) (w : World) (h : NoSt w p) : Calls Tryz.prog 26 #[.pointer p] w fun e w' => e = .returned (.bool false) ∧ w.grownBy w' none := by
  have H := hid (zSread p 0 0 ⟨#[47]⟩ w h)
  clear h
  go_enter Tryz.func26, Tryz.ntmps26
  go_wp2_with (go_at_call 18; refine H.out.mono ?_; rintro e w1 ⟨rfl, g1⟩; have G1 := hid g1; clear g1)
  go_ret
  exact ⟨rfl, G1.out⟩
theorem zBnew (p : Option Addr) (a b n : Int) (w : World) (h : NoSt w p) : Calls Tryz.prog 9 #[.pointer p, .int .i64 a, .int .i64 b, .int .i64 n] w fun e w' => e = .returned (.tuple #[.pointer none, .int .i64 7]) ∧ w.grownBy w' none := by
  have H := hid (zBmade p w h)
  clear h
  go_enter Tryz.func9, Tryz.ntmps9
  go_wp2_with (go_at_call 26; refine H.out.mono ?_; rintro e w1 ⟨rfl, g1⟩; have G1 := hid g1; clear g1)
  go_ret2
  exact ⟨rfl, G1.out⟩
end Go.Proofs.YtbocbokkphlcbaaGreatDoor
