/-
  Package grant: Pack of both sides, of any entry; what was packed is unpacked as itself.
-/
import Derived.Test.YtebgjanecooehaaGrI
import Derived.Laws.IdiomStrings
set_option linter.unusedSimpArgs false
set_option linter.unusedVariables false
namespace Go.Proofs.Ytebgjanecooehaa
open Go.RowKit
set_option maxHeartbeats 4000000
def flG (k : Nat) (ro sub : Bool) : Nat := k + (if ro = true then 4 else 0) + (if sub = true then 8 else 0)
def pkL (g : GV) : List UInt8 := pkB (flG g.k.toNat g.ro g.sub) g.dom.toNat g.gpfn.toNat (if g.sub = true then g.off.toNat else 0) (if g.sub = true then g.len.toNat - 1 else 255)
theorem pkL_len (g : GV) : (pkL g).length = 8 := rfl
theorem pack_nats {g : GV} (h : packV g = true) : ∃ k d p off ln : Nat, g = ⟨k, g.ro, g.sub, d, p, off, ln⟩ ∧ k ≤ 2 ∧ d < 65536 ∧ p < 65536 ∧ off < 256 ∧ 1 ≤ ln ∧ off + ln ≤ 256 := by
  obtain ⟨k, ro, sub, d, p, off, ln⟩ := g
  simp [packV, wV, pgV] at h
  refine ⟨k.toNat, d.toNat, p.toNat, off.toNat, ln.toNat, ?_, by omega, by omega, by omega, by omega, by omega, by omega⟩
  simp only [GV.mk.injEq]
  refine ⟨by omega, trivial, trivial, by omega, by omega, by omega, by omega⟩
theorem gPk_yes (g : GV) (w : World) (h : packV g = true) : Calls Try.prog 38 #[g.val] w (PkPost (pkL g) w) := by
  have hpk := fun w' => gPacks g w' (by obtain ⟨k, d, p, off, ln, e, _, _, _, ho, _⟩ := pack_nats h; rw [e]; show (off : Int) ≤ _; omega)
  rw [h] at hpk
  obtain ⟨k, d, p, off, ln, e, hk, hd, hp, ho, hl, hol⟩ := pack_nats h
  obtain ⟨_, ro, sub, _, _, _, _⟩ := g
  rw [e] at hpk ⊢
  clear e h
  cases ro <;> cases sub
  · exact gPk_na k k d p off ln w hk (by omega) hd hp ho hl (by omega) rfl hpk
  · exact gPk_ns k (k + 8) d p off ln w hk (by omega) hd hp ho hl (by omega) (or8 k (by omega)) hpk
  · exact gPk_ra k (k + 4) d p off ln w hk (by omega) hd hp ho hl (by omega) (or4 k hk) hpk
  · exact gPk_rs k (k + 4) (k + 4 + 8) d p off ln w hk (by omega) hd hp ho hl (by omega) (or4 k hk) (or8 (k + 4) (by omega)) hpk
theorem rPk_yes (g : GV) (w : World) (h : packV g = true) : Calls Try.prog 39 #[g.val] w (PkPost (pkL g) w) := by
  obtain ⟨k, d, p, off, ln, e, hk, hd, hp, ho, hl, hol⟩ := pack_nats h
  obtain ⟨_, ro, sub, _, _, _, _⟩ := g
  rw [e]
  clear e h
  cases ro <;> cases sub
  · exact rPk_na k d p off ln w hk hd hp ho hl hol
  · exact rPk_ns k d p off ln w hk hd hp ho hl hol
  · exact rPk_ra k d p off ln w hk hd hp ho hl hol
  · exact rPk_rs k d p off ln w hk hd hp ho hl hol
def wantG (g : GV) : GV := if g.sub = true then g else ⟨g.k, g.ro, g.sub, g.dom, g.gpfn, 0, 256⟩
theorem b_of {n : Nat} (h : n < 256) : (UInt8.ofNat n).toNat = n := UInt8.toNat_ofNat_of_lt' h
theorem unp_pk (g : GV) (h : packV g = true) : unpG (pkL g) = (wantG g, 0) := by
  obtain ⟨k, d, p, off, ln, e, hk, hd, hp, ho, hl, hol⟩ := pack_nats h
  obtain ⟨_, ro, sub, _, _, _, _⟩ := g
  rw [e]
  clear e h
  have hfl : flG k ro sub < 16 := by unfold flG; split <;> split <;> omega
  have hx : ∀ x y : Nat, pkB (flG k ro sub) d p x y = [UInt8.ofNat (flG k ro sub % 256), UInt8.ofNat (flG k ro sub / 256), UInt8.ofNat (d % 256), UInt8.ofNat (d / 256), UInt8.ofNat (p % 256), UInt8.ofNat (p / 256), UInt8.ofNat x, UInt8.ofNat y] := fun x y => rfl
  unfold unpG
  rw [if_pos (pkL_len _)]
  unfold unG pkL
  simp only [Int.toNat_natCast]
  rw [hx]
  simp only [List.getD_cons_zero, List.getD_cons_succ, b_of (show flG k ro sub % 256 < 256 by omega), b_of (show flG k ro sub / 256 < 256 by omega), b_of (show d % 256 < 256 by omega), b_of (show d / 256 < 256 by omega), b_of (show p % 256 < 256 by omega), b_of (show p / 256 < 256 by omega)]
  have e1 : d % 256 + 256 * (d / 256) = d := by omega
  have e2 : p % 256 + 256 * (p / 256) = p := by omega
  rw [e1, e2]
  have hb : ¬ (16 ≤ flG k ro sub % 256 ∨ flG k ro sub / 256 ≠ 0 ∨ flG k ro sub % 256 % 4 = 3) := by
    have h4 : flG k ro sub % 4 = k := by unfold flG; split <;> split <;> omega
    omega
  rw [if_neg hb]
  cases sub with
  | true =>
    have h8 : flG k ro true % 256 / 8 = 1 := by unfold flG; simp; split <;> omega
    have h4 : flG k ro true % 256 % 4 = k := by unfold flG; simp; split <;> omega
    have h2 : decide (flG k ro true % 256 / 4 % 2 = 1) = ro := by unfold flG; cases ro <;> simp <;> omega
    have eo : (UInt8.ofNat off).toNat = off := b_of ho
    have el : (UInt8.ofNat (ln - 1)).toNat = ln - 1 := b_of (by omega)
    rw [if_pos h8]
    simp only [if_true, h4, h2, eo, el, wantG]
    rw [if_neg (by omega), show ln - 1 + 1 = ln by omega]
  | false =>
    have h8 : ¬ flG k ro false % 256 / 8 = 1 := by unfold flG; simp; split <;> omega
    have h4 : flG k ro false % 256 % 4 = k := by unfold flG; simp; split <;> omega
    have h2 : decide (flG k ro false % 256 / 4 % 2 = 1) = ro := by unfold flG; cases ro <;> simp <;> omega
    rw [if_neg h8]
    simp [h4, h2, wantG]
end Go.Proofs.Ytebgjanecooehaa
