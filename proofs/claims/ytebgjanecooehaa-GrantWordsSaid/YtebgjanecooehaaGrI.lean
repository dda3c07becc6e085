/-
  Package tenementref06: Pack.
-/
import Derived.Test.YtebgjanecooehaaGrH
set_option linter.unusedSimpArgs false
set_option linter.unusedVariables false
namespace Go.Proofs.Ytebgjanecooehaa
open Go.RowKit
set_option maxHeartbeats 4000000
theorem pkB_cells (fl d p off l : Nat) (h0 : fl < 16) (hd : d < 65536) (hp : p < 65536) (ho : off < 256) (hl : l < 256) : bcells (pkB fl d p off l) = [.int .u8 fl, .int .u8 0, .int .u8 (d % 256 : Nat), .int .u8 (d / 256 : Nat), .int .u8 (p % 256 : Nat), .int .u8 (p / 256 : Nat), .int .u8 off, .int .u8 l] := by
  rw [pkB, bcells_app, bcells_app, bcells_app, bcells_le2 fl (by omega), bcells_le2 d hd, bcells_le2 p hp, bcells_two off l ho hl, show fl % 256 = fl by omega, show fl / 256 = 0 by omega]
  rfl
theorem pk_post {w : World} {fl d p off l : Nat} {cs : Array Value} (h0 : fl < 16) (hd : d < 65536) (hp : p < 65536) (ho : off < 256) (hl : l < 256) {W : World} (hW : W.heap.size = w.heap.size + 1) (hg : w.grownBy W none)
    (hc : cs = #[.int .u8 fl, .int .u8 0, .int .u8 (d % 256 : Nat), .int .u8 (d / 256 : Nat), .int .u8 (p % 256 : Nat), .int .u8 (p / 256 : Nat), .int .u8 off, .int .u8 l]) :
    PkPost (pkB fl d p off l) w (.returned (.tuple #[.slice (some ⟨w.heap.size + 1, 0, none⟩) 8 8, .int .i64 0])) (W.alloc (.cells cs 5)) := by
  subst hc
  refine ⟨some ⟨w.heap.size + 1, 0, none⟩, 8, by rw [pkB_len], ?_, hg.trans (World.grownBy_alloc _ _ _)⟩
  rw [pkB_len, pkB_cells fl d p off l h0 hd hp ho hl]
  exact ⟨rfl, .inr ⟨w.heap.size + 1, 8, _, rfl, Nat.le_refl _, hW ▸ heap_alloc_new W _, Nat.le_refl _, by decide, rfl, rfl⟩⟩
theorem rPk_no (k : Int) (ro sub : Bool) (d p off ln : Int) (w : World) (hp : packV ⟨k, ro, sub, d, p, off, ln⟩ = false) :
    Calls Try.prog 39 #[.agg #[.int .i64 k, .bool ro, .bool sub, .int .i64 d, .int .i64 p, .int .i64 off, .int .i64 ln]] w fun e w' => e = .returned (.tuple #[.slice none 0 0, .int .i64 1]) ∧ w.grownBy w' none := by
  have HP := hid hp
  clear hp

  cases c0 : decide (k < 0)
  case' true =>
    go_enter Try.func39, Try.ntmps39
    go_wp2
    go_ret2
    exact ⟨rfl, World.grownBy_alloc _ _ _⟩
  cases c1 : decide (2 < k)
  case' true =>
    go_enter Try.func39, Try.ntmps39
    go_wp2
    go_ret2
    exact ⟨rfl, World.grownBy_alloc _ _ _⟩
  cases c2 : decide (d < 0)
  case' true =>
    go_enter Try.func39, Try.ntmps39
    go_wp2
    go_ret2
    exact ⟨rfl, World.grownBy_alloc _ _ _⟩
  cases c3 : decide (65536 ≤ d)
  case' true =>
    go_enter Try.func39, Try.ntmps39
    go_wp2
    go_ret2
    exact ⟨rfl, World.grownBy_alloc _ _ _⟩
  cases c4 : decide (p < 0)
  case' true =>
    go_enter Try.func39, Try.ntmps39
    go_wp2
    go_ret2
    exact ⟨rfl, World.grownBy_alloc _ _ _⟩
  cases c5 : decide (65536 ≤ p)
  case' true =>
    go_enter Try.func39, Try.ntmps39
    go_wp2
    go_ret2
    exact ⟨rfl, World.grownBy_alloc _ _ _⟩
  cases c6 : decide (off < 0)
  case' true =>
    go_enter Try.func39, Try.ntmps39
    go_wp2
    go_ret2
    exact ⟨rfl, World.grownBy_alloc _ _ _⟩
  cases c7 : decide (255 < off)
  case' true =>
    go_enter Try.func39, Try.ntmps39
    go_wp2
    go_ret2
    exact ⟨rfl, World.grownBy_alloc _ _ _⟩
  cases c8 : decide (ln < 1)
  case' true =>
    go_enter Try.func39, Try.ntmps39
    go_wp2
    go_ret2
    exact ⟨rfl, World.grownBy_alloc _ _ _⟩
  cases c9 : decide (256 < ln)
  case' true =>
    go_enter Try.func39, Try.ntmps39
    go_wp2
    go_ret2
    exact ⟨rfl, World.grownBy_alloc _ _ _⟩
  have b6 : 0 ≤ off := by simpa using c6
  have b7 : off ≤ 255 := by simpa using c7
  have b8 : 1 ≤ ln := by simpa using c8
  have b9 : ln ≤ 256 := by simpa using c9
  cases c10 : decide (256 < off + ln)
  case' true =>
    go_enter Try.func39, Try.ntmps39
    go_wp2
    go_ret2
    exact ⟨rfl, World.grownBy_alloc _ _ _⟩
  exfalso
  have hp := HP.out
  simp [packV, wV, pgV] at hp c0 c1 c2 c3 c4 c5 c6 c7 c8 c9 c10
  omega
set_option maxRecDepth 100000 in
theorem rPk_rs (k d p off ln : Nat) (w : World) (hk : k ≤ 2) (hd : d < 65536) (hpp : p < 65536) (hof : off < 256) (hl0 : 1 ≤ ln) (hl1 : off + ln ≤ 256) :
    Calls Try.prog 39 #[.agg #[.int .i64 k, .bool true, .bool true, .int .i64 d, .int .i64 p, .int .i64 off, .int .i64 ln]] w (PkPost (pkB (k + 4 + 8) d p off (ln - 1)) w) := by
  have b0 : decide ((k : Int) < 0) = false := by simp
  have b1 : decide (2 < (k : Int)) = false := by simp; omega
  have b2 : decide ((d : Int) < 0) = false := by simp
  have b3 : decide (65536 ≤ (d : Int)) = false := by simp; omega
  have b4 : decide ((p : Int) < 0) = false := by simp
  have b5 : decide (65536 ≤ (p : Int)) = false := by simp; omega
  have b6 : decide ((off : Int) < 0) = false := by simp
  have b7 : decide (255 < (off : Int)) = false := by simp; omega
  have b8 : decide ((ln : Int) < 1) = false := by simp; omega
  have b9 : decide (256 < (ln : Int)) = false := by simp; omega
  have b10 : decide (256 < (off : Int) + (ln : Int)) = false := by simp; omega
  go_enter Try.func39, Try.ntmps39
  go_wp2
  go_ret2
  exact pk_post (by omega) hd hpp (by omega) (by omega) (by simp) (World.grownBy_alloc _ _ _) (by simp <;> omega)
set_option maxRecDepth 100000 in
theorem rPk_ra (k d p off ln : Nat) (w : World) (hk : k ≤ 2) (hd : d < 65536) (hpp : p < 65536) (hof : off < 256) (hl0 : 1 ≤ ln) (hl1 : off + ln ≤ 256) :
    Calls Try.prog 39 #[.agg #[.int .i64 k, .bool true, .bool false, .int .i64 d, .int .i64 p, .int .i64 off, .int .i64 ln]] w (PkPost (pkB (k + 4) d p 0 255) w) := by
  have b0 : decide ((k : Int) < 0) = false := by simp
  have b1 : decide (2 < (k : Int)) = false := by simp; omega
  have b2 : decide ((d : Int) < 0) = false := by simp
  have b3 : decide (65536 ≤ (d : Int)) = false := by simp; omega
  have b4 : decide ((p : Int) < 0) = false := by simp
  have b5 : decide (65536 ≤ (p : Int)) = false := by simp; omega
  have b6 : decide ((off : Int) < 0) = false := by simp
  have b7 : decide (255 < (off : Int)) = false := by simp; omega
  have b8 : decide ((ln : Int) < 1) = false := by simp; omega
  have b9 : decide (256 < (ln : Int)) = false := by simp; omega
  have b10 : decide (256 < (off : Int) + (ln : Int)) = false := by simp; omega
  go_enter Try.func39, Try.ntmps39
  go_wp2
  go_ret2
  exact pk_post (by omega) hd hpp (by omega) (by omega) (by simp) (World.grownBy_alloc _ _ _) (by simp <;> omega)
set_option maxRecDepth 100000 in
theorem rPk_ns (k d p off ln : Nat) (w : World) (hk : k ≤ 2) (hd : d < 65536) (hpp : p < 65536) (hof : off < 256) (hl0 : 1 ≤ ln) (hl1 : off + ln ≤ 256) :
    Calls Try.prog 39 #[.agg #[.int .i64 k, .bool false, .bool true, .int .i64 d, .int .i64 p, .int .i64 off, .int .i64 ln]] w (PkPost (pkB (k + 8) d p off (ln - 1)) w) := by
  have b0 : decide ((k : Int) < 0) = false := by simp
  have b1 : decide (2 < (k : Int)) = false := by simp; omega
  have b2 : decide ((d : Int) < 0) = false := by simp
  have b3 : decide (65536 ≤ (d : Int)) = false := by simp; omega
  have b4 : decide ((p : Int) < 0) = false := by simp
  have b5 : decide (65536 ≤ (p : Int)) = false := by simp; omega
  have b6 : decide ((off : Int) < 0) = false := by simp
  have b7 : decide (255 < (off : Int)) = false := by simp; omega
  have b8 : decide ((ln : Int) < 1) = false := by simp; omega
  have b9 : decide (256 < (ln : Int)) = false := by simp; omega
  have b10 : decide (256 < (off : Int) + (ln : Int)) = false := by simp; omega
  go_enter Try.func39, Try.ntmps39
  go_wp2
  go_ret2
  exact pk_post (by omega) hd hpp (by omega) (by omega) (by simp) (World.grownBy_alloc _ _ _) (by simp <;> omega)
set_option maxRecDepth 100000 in
theorem rPk_na (k d p off ln : Nat) (w : World) (hk : k ≤ 2) (hd : d < 65536) (hpp : p < 65536) (hof : off < 256) (hl0 : 1 ≤ ln) (hl1 : off + ln ≤ 256) :
    Calls Try.prog 39 #[.agg #[.int .i64 k, .bool false, .bool false, .int .i64 d, .int .i64 p, .int .i64 off, .int .i64 ln]] w (PkPost (pkB (k) d p 0 255) w) := by
  have b0 : decide ((k : Int) < 0) = false := by simp
  have b1 : decide (2 < (k : Int)) = false := by simp; omega
  have b2 : decide ((d : Int) < 0) = false := by simp
  have b3 : decide (65536 ≤ (d : Int)) = false := by simp; omega
  have b4 : decide ((p : Int) < 0) = false := by simp
  have b5 : decide (65536 ≤ (p : Int)) = false := by simp; omega
  have b6 : decide ((off : Int) < 0) = false := by simp
  have b7 : decide (255 < (off : Int)) = false := by simp; omega
  have b8 : decide ((ln : Int) < 1) = false := by simp; omega
  have b9 : decide (256 < (ln : Int)) = false := by simp; omega
  have b10 : decide (256 < (off : Int) + (ln : Int)) = false := by simp; omega
  go_enter Try.func39, Try.ntmps39
  go_wp2
  go_ret2
  exact pk_post (by omega) hd hpp (by omega) (by omega) (by simp) (World.grownBy_alloc _ _ _) (by simp <;> omega)
end Go.Proofs.Ytebgjanecooehaa

