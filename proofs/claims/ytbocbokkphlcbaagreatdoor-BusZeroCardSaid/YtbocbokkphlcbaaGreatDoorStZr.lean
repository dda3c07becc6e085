/-
  Package store: Read on a store that nobody made.
-/
import Derived.Test.YtbocbokkphlcbaaGreatDoorRows
import Derived.Test.YtbocbokkphlcbaaGreatDoorGen
import Derived.WalkKit
import Derived.WalkSpells
import Derived.WalkLawsBesides
import Derived.Handy
import Derived.Carry
import Derived.BigQuiet
import Derived.Deep.QuietTactic
import Derived.Maps.OwnOps
import Derived.Lib.LazyBuf
set_option linter.unusedSimpArgs false
set_option linter.unusedVariables false
namespace Go.Proofs.YtbocbokkphlcbaaGreatDoor
open Go.RowKit Gen
set_option maxHeartbeats 1000000

/-- nobody made the store that p points to -/
def NoSt (w : World) (p : Option Addr) : Prop := p = none ∨ ∃ b, p = some ⟨b, 0, none⟩ ∧ w.cell? ⟨b, 0, none⟩ = some (.map none)
theorem NoSt.nil (w : World) : NoSt w none := .inl rfl
theorem NoSt.grown {w w' : World} {p : Option Addr} (h : NoSt w p) (hg : w.grownBy w' none) : NoSt w' p := by
  rcases h with h | ⟨b, h, hc⟩
  · exact .inl h
  · exact .inr ⟨b, h, hg.cell hc (by simp)⟩
theorem neq_tree (w : World) (r : Option Nat) : (binOp .neq 62 (.map r) (.map none)).run Tryz.prog w = .ok (.bool (!r.isNone)) w := run_neq_map_nil w _ _ _ r Tryz.underlying62
theorem zSmade (p : Option Addr) (w : World) (h : NoSt w p) : Calls Tryz.prog 74 #[.pointer p] w fun e w' => e = .returned (.bool false) ∧ w = w' := by
  rcases h with rfl | ⟨b, rfl, hc⟩
  · go_enter Tryz.func74, Tryz.ntmps74
    go_wp2
    go_ret
    exact ⟨rfl, rfl⟩
  · have hn := neq_tree w none
    go_enter Tryz.func74, Tryz.ntmps74
    go_wp2
    go_ret
    exact ⟨rfl, rfl⟩
theorem zSadmit (p : Option Addr) (d : Int) (w : World) (h : NoSt w p) : Calls Tryz.prog 146 #[.pointer p, .int .i64 d] w fun e w' => e = .returned (.int .i64 7) ∧ w = w' := by
  have H := hid (zSmade p w h)
  clear h
  go_enter Tryz.func146, Tryz.ntmps146
  go_wp2_with (go_at_call 74; refine H.out.mono ?_; rintro e w' ⟨rfl, rfl⟩)
  go_ret
  exact ⟨rfl, rfl⟩
theorem zSname (p : Option Addr) (d : Int) (s : ByteArray) (w : World) (h : NoSt w p) : Calls Tryz.prog 114 #[.pointer p, .int .i64 d, .string s] w fun e w' => e = .returned (.int .i64 7) ∧ w = w' := by
  have H := hid (zSadmit p d w h)
  clear h
  go_enter Tryz.func114, Tryz.ntmps114
  go_wp2_with (go_at_call 146; refine H.out.mono ?_; rintro e w' ⟨rfl, rfl⟩)
  go_ret
  exact ⟨rfl, rfl⟩
theorem zSdraft (p : Option Addr) (d t : Int) (s : ByteArray) (w : World) (h : NoSt w p) : Calls Tryz.prog 77 #[.pointer p, .int .i64 d, .int .i64 t, .string s] w fun e w' => e = .returned (.tuple #[.pointer none, .int .i64 7]) ∧ w = w' := by
  have H := hid (zSname p d s w h)
  clear h
  go_enter Tryz.func77, Tryz.ntmps77
  go_wp2_with (go_at_call 114; refine H.out.mono ?_; rintro e w' ⟨rfl, rfl⟩)
  go_ret2
  exact ⟨rfl, rfl⟩
theorem zSlook (p : Option Addr) (d t : Int) (s : ByteArray) (w : World) (h : NoSt w p) : Calls Tryz.prog 47 #[.pointer p, .int .i64 d, .int .i64 t, .string s] w fun e w' => e = .returned (.tuple #[.map none, .agg #[.slice none 0 0, .slice none 0 0, .slice none 0 0], .int .i64 7]) ∧ w.grownBy w' none := by
  have h1 := fun W (hg : w.grownBy W none) => zSdraft p d t s W (h.grown hg)
  have H := hid (h1 _ (World.grownBy_alloc w (.cells #[.slice none 0 0, .slice none 0 0, .slice none 0 0] 108) none))
  clear h h1
  go_enter Tryz.func47, Tryz.ntmps47
  go_wp2_with (go_at_call 77; refine H.out.mono ?_; rintro e w' ⟨rfl, rfl⟩)
  go_returns
  exact ⟨rfl, World.grownBy_alloc _ _ none⟩
theorem zClone (w : World) : Calls Tryz.prog 48 #[.slice none 0 0] w fun e w' => e = .returned (.slice none 0 0) ∧ w = w' := by
  have hn := Go.run_eql_slice_nil (P := Tryz.prog) w 39 _ none 0 0 Tryz.underlying39
  go_enter Tryz.func48, Tryz.ntmps48
  go_wp2
  go_ret
  exact ⟨rfl, rfl⟩
theorem zSread (p : Option Addr) (d t : Int) (s : ByteArray) (w : World) (h : NoSt w p) : Calls Tryz.prog 18 #[.pointer p, .int .i64 d, .int .i64 t, .string s] w fun e w' => e = .returned (.tuple #[.slice none 0 0, .int .i64 7]) ∧ w.grownBy w' none := by
  have H := hid (zSlook p d t s w h)
  clear h
  go_enter Tryz.func18, Tryz.ntmps18
  go_wp2_with (first
    | (go_at_call 47; refine H.out.mono ?_; rintro e w1 ⟨rfl, g1⟩; have G1 := hid g1; clear g1)
    | (go_at_call 48; refine (zClone _).mono ?_; rintro e w' ⟨rfl, rfl⟩))
  go_ret2
  exact ⟨rfl, G1.out.trans (World.grownBy_alloc _ _ none)⟩
end Go.Proofs.YtbocbokkphlcbaaGreatDoor
