/-
  Package tenementref06: Pack.
-/
import Derived.Test.YtkdoaidcmmehoaaJ9
import Derived.Laws.IdiomStrings
set_option linter.unusedSimpArgs false
set_option linter.unusedVariables false
namespace Go.Proofs.Ytkdoaidcmmehoaa
open Go.RowKit
set_option maxHeartbeats 4000000
theorem pkB_cells (fl d p off l : Nat) (h0 : fl < 16) (hd : d < 65536) (hp : p < 65536) (ho : off < 256) (hl : l < 256) : bcells (pkB fl d p off l) = [.int .u8 fl, .int .u8 0, .int .u8 (d % 256 : Nat), .int .u8 (d / 256 : Nat), .int .u8 (p % 256 : Nat), .int .u8 (p / 256 : Nat), .int .u8 off, .int .u8 l] := by
  rw [pkB, bcells_app, bcells_app, bcells_app, bcells_le2 fl (by omega), bcells_le2 d hd, bcells_le2 p hp, bcells_two off l ho hl, show fl % 256 = fl by omega, show fl / 256 = 0 by omega]
  rfl
theorem pk_post {w : World} {fl d p off l : Nat} {cs : Array Value} (h0 : fl < 16) (hd : d < 65536) (hp : p < 65536) (ho : off < 256) (hl : l < 256) {W : World} (hW : W.heap.size = w.heap.size + 1) (hg : w.grownBy W none)
    (hc : cs = #[.int .u8 fl, .int .u8 0, .int .u8 (d % 256 : Nat), .int .u8 (d / 256 : Nat), .int .u8 (p % 256 : Nat), .int .u8 (p / 256 : Nat), .int .u8 off, .int .u8 l]) :
    PkPost (pkB fl d p off l) w (.returned (.tuple #[.slice (some ⟨w.heap.size + 1, 0, none⟩) 8 8, .int .i64 0])) (W.alloc (.cells cs 5)) := by
  subst hc
  refine ⟨some ⟨w.heap.size + 1, 0, none⟩, 8, by rw [pkB_len], ?_, hg.trans (World.grownBy_alloc _ _ _)⟩
  rw [pkB_len, pkB_cells fl d p off l h0 hd hp ho hl]
  exact ⟨rfl, .inr ⟨w.heap.size + 1, 8, _, rfl, Nat.le_refl _, hW ▸ heap_alloc_new W _, Nat.le_refl _, by decide, rfl, rfl⟩⟩
theorem rPk_no (k : Int) (ro sub : Bool) (d p off ln : Int) (w : World) (hp : packV ⟨k, ro, sub, d, p, off, ln⟩ = false) :
    Calls Try.prog 39 #[.agg #[.int .i64 k, .bool ro, .bool sub, .int .i64 d, .int .i64 p, .int .i64 off, .int .i64 ln]] w fun e w' => e = .returned (.tuple #[.slice none 0 0, .int .i64 1]) ∧ w.grownBy w' none := by
  have HP := hid hp
  clear hp

  cases c0 : decide (k < 0)
  case' true =>
    go_enter Try.func39, Try.ntmps39
    go_wp2
    go_ret2
    exact ⟨rfl, World.grownBy_alloc _ _ _⟩
  cases c1 : decide (2 < k)
  case' true =>
    go_enter Try.func39, Try.ntmps39
    go_wp2
    go_ret2
    exact ⟨rfl, World.grownBy_alloc _ _ _⟩
  cases c2 : decide (d < 0)
  case' true =>
    go_enter Try.func39, Try.ntmps39
    go_wp2
    go_ret2
    exact ⟨rfl, World.grownBy_alloc _ _ _⟩
  cases c3 : decide (65536 ≤ d)
  case' true =>
    go_enter Try.func39, Try.ntmps39
    go_wp2
    go_ret2
    exact ⟨rfl, World.grownBy_alloc _ _ _⟩
  cases c4 : decide (p < 0)
  case' true =>
    go_enter Try.func39, Try.ntmps39
    go_wp2
    go_ret2
    exact ⟨rfl, World.grownBy_alloc _ _ _⟩
  cases c5 : decide (65536 ≤ p)
  case' true =>
    go_enter Try.func39, Try.ntmps39
    go_wp2
    go_ret2
    exact ⟨rfl, World.grownBy_alloc _ _ _⟩
  cases c6 : decide (off < 0)
  case' true =>
    go_enter Try.func39, Try.ntmps39
    go_wp2
    go_ret2
    exact ⟨rfl, World.grownBy_alloc _ _ _⟩
  cases c7 : decide (255 < off)
  case' true =>
    go_enter Try.func39, Try.ntmps39
    go_wp2
    go_ret2
    exact ⟨rfl, World.grownBy_alloc _ _ _⟩
  cases c8 : decide (ln < 1)
  case' true =>
    go_enter Try.func39, Try.ntmps39
    go_wp2
    go_ret2
    exact ⟨rfl, World.grownBy_alloc _ _ _⟩
  cases c9 : decide (256 < ln)
  case' true =>
    go_enter Try.func39, Try.ntmps39
    go_wp2
    go_ret2
    exact ⟨rfl, World.grownBy_alloc _ _ _⟩
  have b6 : 0 ≤ off := by simpa using c6
  have b7 : off ≤ 255 := by simpa using c7
  have b8 : 1 ≤ ln := by simpa using c8
  have b9 : ln ≤ 256 := by simpa using c9
  cases c10 : decide (256 < off + ln)
  case' true =>
    go_enter Try.func39, Try.ntmps39
    go_wp2
    go_ret2
    exact ⟨rfl, World.grownBy_alloc _ _ _⟩
  exfalso
  have hp := HP.out
  simp [packV, wV, pgV] at hp c0 c1 c2 c3 c4 c5 c6 c7 c8 c9 c10
  omega
set_option maxRecDepth 100000 in
theorem rPk_rs (k d p off ln : Nat) (w : World) (hk : k ≤ 2) (hd : d < 65536) (hpp : p < 65536) (hof : off < 256) (hl0 : 1 ≤ ln) (hl1 : off + ln ≤ 256) :
    Calls Try.prog 39 #[.agg #[.int .i64 k, .bool true, .bool true, .int .i64 d, .int .i64 p, .int .i64 off, .int .i64 ln]] w (PkPost (pkB (k + 4 + 8) d p off (ln - 1)) w) := by
  have b0 : decide ((k : Int) < 0) = false := by simp
  have b1 : decide (2 < (k : Int)) = false := by simp; omega
  have b2 : decide ((d : Int) < 0) = false := by simp
  have b3 : decide (65536 ≤ (d : Int)) = false := by simp; omega
  have b4 : decide ((p : Int) < 0) = false := by simp
  have b5 : decide (65536 ≤ (p : Int)) = false := by simp; omega
  have b6 : decide ((off : Int) < 0) = false := by simp
  have b7 : decide (255 < (off : Int)) = false := by simp; omega
  have b8 : decide ((ln : Int) < 1) = false := by simp; omega
  have b9 : decide (256 < (ln : Int)) = false := by simp; omega
  have b10 : decide (256 < (off : Int) + (ln : Int)) = false := by simp; omega
  go_enter Try.func39, Try.ntmps39
  go_wp2
  go_ret2
  exact pk_post (by omega) hd hpp (by omega) (by omega) (by simp) (World.grownBy_alloc _ _ _) (by simp <;> omega)
set_option maxRecDepth 100000 in
theorem rPk_ra (k d p off ln : Nat) (w : World) (hk : k ≤ 2) (hd : d < 65536) (hpp : p < 65536) (hof : off < 256) (hl0 : 1 ≤ ln) (hl1 : off + ln ≤ 256) :
    Calls Try.prog 39 #[.agg #[.int .i64 k, .bool true, .bool false, .int .i64 d, .int .i64 p, .int .i64 off, .int .i64 ln]] w (PkPost (pkB (k + 4) d p 0 255) w) := by
  have b0 : decide ((k : Int) < 0) = false := by simp
  have b1 : decide (2 < (k : Int)) = false := by simp; omega
  have b2 : decide ((d : Int) < 0) = false := by simp
  have b3 : decide (65536 ≤ (d : Int)) = false := by simp; omega
  have b4 : decide ((p : Int) < 0) = false := by simp
  have b5 : decide (65536 ≤ (p : Int)) = false := by simp; omega
  have b6 : decide ((off : Int) < 0) = false := by simp
  have b7 : decide (255 < (off : Int)) = false := by simp; omega
  have b8 : decide ((ln : Int) < 1) = false := by simp; omega
  have b9 : decide (256 < (ln : Int)) = false := by simp; omega
  have b10 : decide (256 < (off : Int) + (ln : Int)) = false := by simp; omega
  go_enter Try.func39, Try.ntmps39
  go_wp2
  go_ret2
  exact pk_post (by omega) hd hpp (by omega) (by omega) (by simp) (World.grownBy_alloc _ _ _) (by simp <;> omega)
set_option maxRecDepth 100000 in
theorem rPk_ns (k d p off ln : Nat) (w : World) (hk : k ≤ 2) (hd : d < 65536) (hpp : p < 65536) (hof : off < 256) (hl0 : 1 ≤ ln) (hl1 : off + ln ≤ 256) :
    Calls Try.prog 39 #[.agg #[.int .i64 k, .bool false, .bool true, .int .i64 d, .int .i64 p, .int .i64 off, .int .i64 ln]] w (PkPost (pkB (k + 8) d p off (ln - 1)) w) := by
  have b0 : decide ((k : Int) < 0) = false := by simp
  have b1 : decide (2 < (k : Int)) = false := by simp; omega
  have b2 : decide ((d : Int) < 0) = false := by simp
  have b3 : decide (65536 ≤ (d : Int)) = false := by simp; omega
  have b4 : decide ((p : Int) < 0) = false := by simp
  have b5 : decide (65536 ≤ (p : Int)) = false := by simp; omega
  have b6 : decide ((off : Int) < 0) = false := by simp
  have b7 : decide (255 < (off : Int)) = false := by simp; omega
  have b8 : decide ((ln : Int) < 1) = false := by simp; omega
  have b9 : decide (256 < (ln : Int)) = false := by simp; omega
  have b10 : decide (256 < (off : Int) + (ln : Int)) = false := by simp; omega
  go_enter Try.func39, Try.ntmps39
  go_wp2
  go_ret2
  exact pk_post (by omega) hd hpp (by omega) (by omega) (by simp) (World.grownBy_alloc _ _ _) (by simp <;> omega)
set_option maxRecDepth 100000 in
theorem rPk_na (k d p off ln : Nat) (w : World) (hk : k ≤ 2) (hd : d < 65536) (hpp : p < 65536) (hof : off < 256) (hl0 : 1 ≤ ln) (hl1 : off + ln ≤ 256) :
    Calls Try.prog 39 #[.agg #[.int .i64 k, .bool false, .bool false, .int .i64 d, .int .i64 p, .int .i64 off, .int .i64 ln]] w (PkPost (pkB (k) d p 0 255) w) := by
  have b0 : decide ((k : Int) < 0) = false := by simp
  have b1 : decide (2 < (k : Int)) = false := by simp; omega
  have b2 : decide ((d : Int) < 0) = false := by simp
  have b3 : decide (65536 ≤ (d : Int)) = false := by simp; omega
  have b4 : decide ((p : Int) < 0) = false := by simp
  have b5 : decide (65536 ≤ (p : Int)) = false := by simp; omega
  have b6 : decide ((off : Int) < 0) = false := by simp
  have b7 : decide (255 < (off : Int)) = false := by simp; omega
  have b8 : decide ((ln : Int) < 1) = false := by simp; omega
  have b9 : decide (256 < (ln : Int)) = false := by simp; omega
  have b10 : decide (256 < (off : Int) + (ln : Int)) = false := by simp; omega
  go_enter Try.func39, Try.ntmps39
  go_wp2
  go_ret2
  exact pk_post (by omega) hd hpp (by omega) (by omega) (by simp) (World.grownBy_alloc _ _ _) (by simp <;> omega)
end Go.Proofs.Ytkdoaidcmmehoaa


/-
  Package grant: Pack of both sides, of any entry; what was packed is unpacked as itself.
-/
set_option linter.unusedSimpArgs false
set_option linter.unusedVariables false
namespace Go.Proofs.Ytkdoaidcmmehoaa
open Go.RowKit
set_option maxHeartbeats 4000000
def flG (k : Nat) (ro sub : Bool) : Nat := k + (if ro = true then 4 else 0) + (if sub = true then 8 else 0)
def pkL (g : GV) : List UInt8 := pkB (flG g.k.toNat g.ro g.sub) g.dom.toNat g.gpfn.toNat (if g.sub = true then g.off.toNat else 0) (if g.sub = true then g.len.toNat - 1 else 255)
theorem pkL_len (g : GV) : (pkL g).length = 8 := rfl
theorem pack_nats {g : GV} (h : packV g = true) : ∃ k d p off ln : Nat, g = ⟨k, g.ro, g.sub, d, p, off, ln⟩ ∧ k ≤ 2 ∧ d < 65536 ∧ p < 65536 ∧ off < 256 ∧ 1 ≤ ln ∧ off + ln ≤ 256 := by
  obtain ⟨k, ro, sub, d, p, off, ln⟩ := g
  simp [packV, wV, pgV] at h
  refine ⟨k.toNat, d.toNat, p.toNat, off.toNat, ln.toNat, ?_, by omega, by omega, by omega, by omega, by omega, by omega⟩
  simp only [GV.mk.injEq]
  refine ⟨by omega, trivial, trivial, by omega, by omega, by omega, by omega⟩
theorem gPk_yes (g : GV) (w : World) (h : packV g = true) : Calls Try.prog 38 #[g.val] w (PkPost (pkL g) w) := by
  have hpk := fun w' => gPacks g w' (by obtain ⟨k, d, p, off, ln, e, _, _, _, ho, _⟩ := pack_nats h; rw [e]; show (off : Int) ≤ _; omega)
  rw [h] at hpk
  obtain ⟨k, d, p, off, ln, e, hk, hd, hp, ho, hl, hol⟩ := pack_nats h
  obtain ⟨_, ro, sub, _, _, _, _⟩ := g
  rw [e] at hpk ⊢
  clear e h
  cases ro <;> cases sub
  · exact gPk_na k k d p off ln w hk (by omega) hd hp ho hl (by omega) rfl hpk
  · exact gPk_ns k (k + 8) d p off ln w hk (by omega) hd hp ho hl (by omega) (or8 k (by omega)) hpk
  · exact gPk_ra k (k + 4) d p off ln w hk (by omega) hd hp ho hl (by omega) (or4 k hk) hpk
  · exact gPk_rs k (k + 4) (k + 4 + 8) d p off ln w hk (by omega) hd hp ho hl (by omega) (or4 k hk) (or8 (k + 4) (by omega)) hpk
theorem rPk_yes (g : GV) (w : World) (h : packV g = true) : Calls Try.prog 39 #[g.val] w (PkPost (pkL g) w) := by
  obtain ⟨k, d, p, off, ln, e, hk, hd, hp, ho, hl, hol⟩ := pack_nats h
  obtain ⟨_, ro, sub, _, _, _, _⟩ := g
  rw [e]
  clear e h
  cases ro <;> cases sub
  · exact rPk_na k d p off ln w hk hd hp ho hl hol
  · exact rPk_ns k d p off ln w hk hd hp ho hl hol
  · exact rPk_ra k d p off ln w hk hd hp ho hl hol
  · exact rPk_rs k d p off ln w hk hd hp ho hl hol
def wantG (g : GV) : GV := if g.sub = true then g else ⟨g.k, g.ro, g.sub, g.dom, g.gpfn, 0, 256⟩
theorem b_of {n : Nat} (h : n < 256) : (UInt8.ofNat n).toNat = n := UInt8.toNat_ofNat_of_lt' h
theorem unp_pk (g : GV) (h : packV g = true) : unpG (pkL g) = (wantG g, 0) := by
  obtain ⟨k, d, p, off, ln, e, hk, hd, hp, ho, hl, hol⟩ := pack_nats h
  obtain ⟨_, ro, sub, _, _, _, _⟩ := g
  rw [e]
  clear e h
  have hfl : flG k ro sub < 16 := by unfold flG; split <;> split <;> omega
  have hx : ∀ x y : Nat, pkB (flG k ro sub) d p x y = [UInt8.ofNat (flG k ro sub % 256), UInt8.ofNat (flG k ro sub / 256), UInt8.ofNat (d % 256), UInt8.ofNat (d / 256), UInt8.ofNat (p % 256), UInt8.ofNat (p / 256), UInt8.ofNat x, UInt8.ofNat y] := fun x y => rfl
  unfold unpG
  rw [if_pos (pkL_len _)]
  unfold unG pkL
  simp only [Int.toNat_natCast]
  rw [hx]
  simp only [List.getD_cons_zero, List.getD_cons_succ, b_of (show flG k ro sub % 256 < 256 by omega), b_of (show flG k ro sub / 256 < 256 by omega), b_of (show d % 256 < 256 by omega), b_of (show d / 256 < 256 by omega), b_of (show p % 256 < 256 by omega), b_of (show p / 256 < 256 by omega)]
  have e1 : d % 256 + 256 * (d / 256) = d := by omega
  have e2 : p % 256 + 256 * (p / 256) = p := by omega
  rw [e1, e2]
  have hb : ¬ (16 ≤ flG k ro sub % 256 ∨ flG k ro sub / 256 ≠ 0 ∨ flG k ro sub % 256 % 4 = 3) := by
    have h4 : flG k ro sub % 4 = k := by unfold flG; split <;> split <;> omega
    omega
  rw [if_neg hb]
  cases sub with
  | true =>
    have h8 : flG k ro true % 256 / 8 = 1 := by unfold flG; simp; split <;> omega
    have h4 : flG k ro true % 256 % 4 = k := by unfold flG; simp; split <;> omega
    have h2 : decide (flG k ro true % 256 / 4 % 2 = 1) = ro := by unfold flG; cases ro <;> simp <;> omega
    have eo : (UInt8.ofNat off).toNat = off := b_of ho
    have el : (UInt8.ofNat (ln - 1)).toNat = ln - 1 := b_of (by omega)
    rw [if_pos h8]
    simp only [if_true, h4, h2, eo, el, wantG]
    rw [if_neg (by omega), show ln - 1 + 1 = ln by omega]
  | false =>
    have h8 : ¬ flG k ro false % 256 / 8 = 1 := by unfold flG; simp; split <;> omega
    have h4 : flG k ro false % 256 % 4 = k := by unfold flG; simp; split <;> omega
    have h2 : decide (flG k ro false % 256 / 4 % 2 = 1) = ro := by unfold flG; cases ro <;> simp <;> omega
    rw [if_neg h8]
    simp [h4, h2, wantG]
end Go.Proofs.Ytkdoaidcmmehoaa
