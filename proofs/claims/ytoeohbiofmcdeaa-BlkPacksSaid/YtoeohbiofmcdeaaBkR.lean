/-
  Package blk: Unpack of both sides, of any bytes, as one outcome.
-/
import Derived.Test.YtoeohbiofmcdeaaBkQ
set_option linter.unusedSimpArgs false
set_option linter.unusedVariables false
namespace Go.Proofs.Ytoeohbiofmcdeaa.Bk
open Go.RowKit Gen
set_option maxHeartbeats 4000000

theorem rUnp (l : List UInt8) (p : Option Addr) (c : Nat) (w : World) (hn : l.length ≤ 140737488351232) (hc : l.length ≤ c) (h : BA w p l) : Calls Try.prog 14 #[.slice p l.length c] w (UnpQ (unpV l) w) := by
  by_cases h16 : l.length = 16
  · obtain ⟨b, o, rfl⟩ := h.ptr (by omega)
    have := rUnp_16 l b o c w h16 (by omega) h
    rw [← h16] at this
    exact this
  · exact rUnp_len l p c w h16 hn
theorem bUnp (l : List UInt8) (p : Option Addr) (c : Nat) (w : World) (hn : l.length ≤ 140737488351232) (hc : l.length ≤ c) (hc63 : c ≤ 9223372036854775807) (h : BA w p l) : Calls Try.prog 10 #[.slice p l.length c] w (UnpQ (unpV l) w) := by
  by_cases h16 : l.length = 16
  · obtain ⟨b, o, rfl⟩ := h.ptr (by omega)
    have hv : unpV l = if (l.getD 0 0).toNat = 3 then unpR l (l.getD 9 0).toNat (l.getD 8 0).toNat else unpR l (l.getD 0 0).toNat (-1) := by unfold unpV; rw [if_pos h16]
    rw [h16]
    have hcc : 16 ≤ c := by omega
    by_cases h3 : (l.getD 0 0).toNat = 3
    · rw [if_pos h3] at hv
      have hp : ¬ (((l.getD 8 0).toNat : Int) = -1) := by omega
      cases hm : mayV (l.getD 9 0).toNat (l.getD 1 0).toNat ((l.getD 8 0).toNat : Int) with
      | false =>
        have hv' : unpV l = (Rq.mk 0 0 0 [], (0 : Int), (0 : Int), (4 : Int)) := by rw [hv]; unfold unpR; simp only [hm]; rfl
        exact (bUnp_b1 l b o c w h16 hcc hc63 h h3 hm).mono fun e w' ⟨he, hg⟩ => by rw [he]; exact .no hv' hg
      | true =>
        have hv' : unpV l = (Rq.mk (l.getD 9 0).toNat (upN (l.getD 2 0).toNat (l.getD 3 0).toNat 0 0 2 : Nat) (upN (l.getD 4 0).toNat (l.getD 5 0).toNat (l.getD 6 0).toNat (l.getD 7 0).toNat 4 : Nat) [], ((l.getD 8 0).toNat : Int), ((l.getD 1 0).toNat : Int), (0 : Int)) := by
          rw [hv]; unfold unpR; simp only [hm, hp, if_false, if_true, numV_two, numV_four]
        exact (bUnp_b2 l b o c w h16 hcc hc63 h h3 hm).mono fun e w' ⟨he, hg⟩ => by rw [he]; exact .yes hv' (SA.nil _ _) hg
    · rw [if_neg h3] at hv
      cases hm : mayV (l.getD 0 0).toNat (l.getD 1 0).toNat (-1) with
      | false =>
        have hv' : unpV l = (Rq.mk 0 0 0 [], (0 : Int), (0 : Int), (4 : Int)) := by rw [hv]; unfold unpR; simp only [hm]; rfl
        exact (bUnp_a1 l b o c w h16 hcc hc63 h h3 hm).mono fun e w' ⟨he, hg⟩ => by rw [he]; exact .no hv' hg
      | true =>
        have hle : (l.getD 1 0).toNat ≤ 4 := may_le hm
        have her : (segsR ((l.drop 8).take (2 * (l.getD 1 0).toNat))).2 = 0 ∨ (segsR ((l.drop 8).take (2 * (l.getD 1 0).toNat))).2 = 4 := by
          unfold segsR
          rw [if_neg (by rw [List.length_take, List.length_drop, h16]; omega)]
          split <;> simp
        rcases her with her | her
        · have hv' : unpV l = (Rq.mk (l.getD 0 0).toNat (upN (l.getD 2 0).toNat (l.getD 3 0).toNat 0 0 2 : Nat) (upN (l.getD 4 0).toNat (l.getD 5 0).toNat (l.getD 6 0).toNat (l.getD 7 0).toNat 4 : Nat) (segsR ((l.drop 8).take (2 * (l.getD 1 0).toNat))).1, (-1 : Int), ((l.getD 1 0).toNat : Int), (0 : Int)) := by
            rw [hv]; unfold unpR; simp only [hm, if_true, her, numV_two, numV_four]
          exact (bUnp_a3 l b o c w h16 hcc hc63 h h3 hm her).mono fun e w' ⟨p, cc, he, hs, hg⟩ => by rw [he]; exact .yes hv' hs hg
        · have hv' : unpV l = (Rq.mk 0 0 0 [], (0 : Int), (0 : Int), (4 : Int)) := by
            rw [hv]; unfold unpR; simp only [hm, if_true, her]; rfl
          exact (bUnp_a2 l b o c w h16 hcc hc63 h h3 hm her).mono fun e w' ⟨he, hg⟩ => by rw [he]; exact .no hv' hg
  · have hv : unpV l = (⟨0, 0, 0, []⟩, 0, 0, 1) := by unfold unpV; rw [if_neg h16]
    exact (bUnp_len p l.length c w h16 hn).mono fun e w' ⟨he, hg⟩ => by rw [he]; exact .no hv hg
end Go.Proofs.Ytoeohbiofmcdeaa.Bk
