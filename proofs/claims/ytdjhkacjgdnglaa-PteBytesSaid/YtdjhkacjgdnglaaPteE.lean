/-
  Package pte: what a table holds; contracts over the machine.
-/
import Derived.Test.YtdjhkacjgdnglaaPteS
import Derived.Test.YtdjhkacjgdnglaaPteA
import Derived.Test.YtdjhkacjgdnglaaPhysK
import Derived.Test.YtdjhkacjgdnglaaRefM
import Derived.ScopeJumps
namespace Go.Proofs.Ytdjhkacjgdnglaa
open Go.RowKit
set_option maxHeartbeats 1000000

theorem isIndex_any (k : Int) (w : World) : Calls Try.prog 68 #[.int .i64 k] w fun e w' => e = .returned (.bool (idx k)) ∧ w = w' := by
  by_cases h : 0 ≤ k ∧ k < 64
  · rw [show idx k = true by simp [idx, h.1, h.2]]; exact isIndex_yes k w h.1 h.2
  · rw [show idx k = false by simp only [idx, Bool.and_eq_false_iff, decide_eq_false_iff_not]; omega]; exact isIndex_no k w (by omega)
theorem ptMade (b : Nat) (w : World) (M : Mach) (hM : PM w b M) (hn : 1 ≤ M.n) : Calls Try.prog 67 #[.pointer (some ⟨b, 0, none⟩)] w fun e w' => e = .returned (.bool true) ∧ w = w' := by
  have hsz := hid hM.size
  have h0 : (M.n != 0) = true := by simp; omega
  have HN := hid hn
  clear hM hn
  go_enter Try.func67, Try.ntmps67
  go_wp2_with (go_at_call 61; refine (Size_yes _ _ _ HN.out hsz.out).mono ?_; rintro e w2 ⟨rfl, rfl⟩)
  go_ret
  exact ⟨rfl, rfl⟩
theorem ptAt_bad (b : Nat) (t i : Int) (w : World) (M : Mach) (hM : PM w b M) (hn : 1 ≤ M.n) (hi : idx i = false) : Calls Try.prog 24 #[.pointer (some ⟨b, 0, none⟩), .int .i64 t, .int .i64 i] w fun e w' => e = .returned (.tuple #[.int .u32 0, .int .i64 1]) ∧ w.grownBy w' none := by
  have H := hid (hi ▸ isIndex_any i)
  have HM := hid hM
  have HN := hid hn
  clear hi hM hn
  go_enter Try.func24, Try.ntmps24
  go_wp2_with (first
    | (go_at_call 67; refine (ptMade _ _ _ HM.out HN.out).mono ?_; rintro e w2 ⟨rfl, rfl⟩)
    | (go_at_call 68; refine (H.out _).mono ?_; rintro e w2 ⟨rfl, rfl⟩))
  go_ret2
  exact ⟨rfl, World.grownBy.refl _ _⟩
theorem ptAt_no (b : Nat) (t : Int) (i : Nat) (w : World) (M : Mach) (T : Int) (hM : PM w b M) (hok : M.ok T) (hi : i < 64) (ht : M.is t = false) : Calls Try.prog 24 #[.pointer (some ⟨b, 0, none⟩), .int .i64 t, .int .i64 i] w fun e w' => e = .returned (.tuple #[.int .u32 0, .int .i64 1]) ∧ w.grownBy w' none := by
  have HR := hid (Read_no b t ((i : Int) * 4) 4 w M T hM hok (by omega) (.inl ht))
  have HM := hid hM
  have HN := hid hok.n1
  clear ht hM hok
  go_enter Try.func24, Try.ntmps24
  go_wp2_with (first
    | (go_at_call 67; refine (ptMade _ _ _ HM.out HN.out).mono ?_; rintro e w2 ⟨rfl, rfl⟩)
    | (go_at_call 68; refine (isIndex_yes _ _ (by omega) (by omega)).mono ?_; rintro e w2 ⟨rfl, rfl⟩)
    | (go_at_call 33; refine HR.out.mono ?_; rintro e w2 ⟨rfl, rfl⟩))
  go_ret2
  exact ⟨rfl, World.grownBy.refl _ _⟩
theorem ptAt_yes (b t i : Nat) (w : World) (M : Mach) (T : Int) (hM : PM w b M) (hok : M.ok T) (hi : i < 64) (ht : (t : Int) < M.n) : Calls Try.prog 24 #[.pointer (some ⟨b, 0, none⟩), .int .i64 t, .int .i64 i] w fun e w' => e = .returned (.tuple #[.int .u32 (word4 (M.fr t).bs (4 * i) : Nat), .int .i64 0]) ∧ w.grownBy w' none := by
  have HR := hid (fun w hM => Read_yes b t (i * 4) 4 w M T hM hok ht (by omega))
  have e4 : ((i * 4 : Nat) : Int) = (i : Int) * 4 := by omega
  rw [e4] at HR
  have HM := hid hM
  have HN := hid hok.n1
  clear ht hM hok e4
  obtain ⟨x0, h0⟩ : ∃ x, ((M.fr t).bs (i * 4 + 0)).toNat = x := ⟨_, rfl⟩
  obtain ⟨x1, h1⟩ : ∃ x, ((M.fr t).bs (i * 4 + 1)).toNat = x := ⟨_, rfl⟩
  obtain ⟨x2, h2⟩ : ∃ x, ((M.fr t).bs (i * 4 + 2)).toNat = x := ⟨_, rfl⟩
  obtain ⟨x3, h3⟩ : ∃ x, ((M.fr t).bs (i * 4 + 3)).toNat = x := ⟨_, rfl⟩
  have b0 : x0 < 256 := h0 ▸ ((M.fr t).bs (i * 4 + 0)).toNat_lt
  have b1 : x1 < 256 := h1 ▸ ((M.fr t).bs (i * 4 + 1)).toNat_lt
  have b2 : x2 < 256 := h2 ▸ ((M.fr t).bs (i * 4 + 2)).toNat_lt
  have b3 : x3 < 256 := h3 ▸ ((M.fr t).bs (i * 4 + 3)).toNat_lt
  have HW := hid (show ((word4 (M.fr t).bs (4 * i) : Nat) : Int) = (x0 : Int) + 256 * x1 + 65536 * x2 + 16777216 * x3 by
    have e0 : ((M.fr t).bs (i * 4)).toNat = x0 := h0
    unfold word4; rw [Nat.mul_comm 4 i, e0, h1, h2, h3]; omega)
  have H0 := hid h0; have H1 := hid h1; have H2 := hid h2; have H3 := hid h3
  clear h0 h1 h2 h3
  go_enter Try.func24, Try.ntmps24
  go_wp2_with (first
    | (go_at_call 67; refine (ptMade _ _ _ HM.out HN.out).mono ?_; rintro e w2 ⟨rfl, rfl⟩)
    | (go_at_call 68; refine (isIndex_yes _ _ (by omega) (by omega)).mono ?_; rintro e w2 ⟨rfl, rfl⟩)
    | (go_at_call 33; refine (HR.out _ HM.out).mono ?_; rintro e w2 ⟨v, rfl, hv⟩; obtain ⟨g, rfl, hg0, hc, hg⟩ := newBytes_pos hv (by rw [part_len]; omega); clear hv; rw [part_len] at hc ⊢; have HG := hid hg; clear hg; have c0 := hc 0 (by omega); have c1 := hc 1 (by omega); have c2 := hc 2 (by omega); have c3 := hc 3 (by omega); clear hc; rw [part_get _ _ _ _ (by omega)] at c0 c1 c2 c3; rw [H0.out] at c0; rw [H1.out] at c1; rw [H2.out] at c2; rw [H3.out] at c3))
  go_loop [10, 32] (fun n k => (k = .int .i64 0 ∧ n = .int .u32 0) ∨ (k = .int .i64 1 ∧ n = .int .u32 x0) ∨ (k = .int .i64 2 ∧ n = .int .u32 ((x0 : Int) + 256 * x1)) ∨ (k = .int .i64 3 ∧ n = .int .u32 ((x0 : Int) + 256 * x1 + 65536 * x2)) ∨ (k = .int .i64 4 ∧ n = .int .u32 ((x0 : Int) + 256 * x1 + 65536 * x2 + 16777216 * x3))) (fun _ k => 4 - (intOf k).toNat)
  case atStart => exact .inl ⟨rfl, rfl⟩
  case round =>
    rcases hrel with ⟨rfl, rfl⟩ | ⟨rfl, rfl⟩ | ⟨rfl, rfl⟩ | ⟨rfl, rfl⟩ | ⟨rfl, rfl⟩
    · go_wp2
      go_round
      case rel => exact .inr (.inl ⟨rfl, int_eq (or_zero x0 (by omega))⟩)
      case measure => simp [intOf]
    · go_wp2
      go_round
      case rel => exact .inr (.inr (.inl ⟨rfl, int_eq (or_two x0 x1 b0 b1)⟩))
      case measure => simp [intOf]
    · go_wp2
      go_round
      case rel => exact .inr (.inr (.inr (.inl ⟨rfl, int_eq (or_three x0 x1 x2 b0 b1 b2)⟩)))
      case measure => simp [intOf]
    · go_wp2
      go_round
      case rel => exact .inr (.inr (.inr (.inr ⟨rfl, int_eq (or_four x0 x1 x2 x3 b0 b1 b2 b3)⟩)))
      case measure => simp [intOf]
    · go_wp2
      go_ret2
      exact ⟨ret_u HW.out.symm, HG.out⟩
theorem ptAt (b : Nat) (t i : Int) (w : World) (M : Mach) (T : Int) (hM : PM w b M) (hok : M.ok T) : Calls Try.prog 24 #[.pointer (some ⟨b, 0, none⟩), .int .i64 t, .int .i64 i] w fun e w' => e = .returned (.tuple #[.int .u32 ((M.pat t i).1 : Nat), .int .i64 (M.pat t i).2]) ∧ w.grownBy w' none := by
  cases hi : idx i
  · rw [show M.pat t i = (0, 1) by unfold Mach.pat; rw [if_pos hi]]
    exact ptAt_bad b t i w M hM hok.n1 hi
  · have hi' : 0 ≤ i ∧ i < 64 := by simpa [idx] using hi
    obtain ⟨j, rfl⟩ : ∃ j : Nat, i = j := ⟨i.toNat, by omega⟩
    cases ht : M.is t
    · rw [show M.pat t j = (0, 1) by unfold Mach.pat; rw [if_neg (by simp [hi]), if_pos ht]]
      exact ptAt_no b t j w M T hM hok (by omega) ht
    · have ht' := Mach.is_iff.1 ht
      obtain ⟨k, rfl⟩ : ∃ j : Nat, t = j := ⟨t.toNat, by omega⟩
      rw [show M.pat k j = (word4 (M.fr k).bs (4 * j), 0) by unfold Mach.pat; rw [if_neg (by simp [hi]), if_neg (by simp [ht])]; rfl]
      exact ptAt_yes b k j w M T hM hok (by omega) ht'.2
theorem ent_kept {w w2 : World} {a b c : Value} {t : TypeId} (hg : (w.alloc (.cells #[a, b, c] t)).grownBy w2 none) :
    w2.cell? ⟨w.heap.size, 0, none⟩ = some a ∧ w2.cell? ⟨w.heap.size, 1, none⟩ = some b ∧ w2.cell? ⟨w.heap.size, 2, none⟩ = some c ∧
    w2.frozen? ⟨w.heap.size, 0, none⟩ = false ∧ w2.frozen? ⟨w.heap.size, 1, none⟩ = false ∧ w2.frozen? ⟨w.heap.size, 2, none⟩ = false ∧ w.heap.size < w2.heap.size := by
  have hb : w2.heap[w.heap.size]? = some (.cells #[a, b, c] t (0, 0)) := (hg.block w.heap.size (by simp) (by simp)).trans (heap_alloc_new w _)
  exact ⟨cell_of_row w2 _ 0 _ _ _ hb, cell_of_row w2 _ 1 _ _ _ hb, cell_of_row w2 _ 2 _ _ _ hb, frozen_of_row w2 _ 0 _ _ hb, frozen_of_row w2 _ 1 _ _ hb, frozen_of_row w2 _ 2 _ _ hb, (Array.getElem?_eq_some_iff.1 hb).1⟩
theorem grown_set {w W : World} (h : w.grownBy W none) {b o : Nat} (hB : w.heap.size ≤ b) (v : Value) : w.grownBy (W.setCell ⟨b, o, none⟩ v) none :=
  (Chg.of (S := fun k => w.heap.size ≤ k) (grownBy_setCell W b o none v) fun j e => .inl (by cases e; exact hB)).grown h fun _ h => h
/-- an entry that is present -/
theorem ptPresent (b : Nat) (t i : Int) (w : World) (M : Mach) (T : Int) (hM : PM w b M) (hok : M.ok T) : Calls Try.prog 70 #[.pointer (some ⟨b, 0, none⟩), .int .i64 t, .int .i64 i] w fun e w' => e = .returned (.tuple #[(M.pent t i).1.val, .int .i64 (M.pent t i).2]) ∧ w.grownBy w' none := by
  have HA := hid (fun w hM => ptAt b t i w M T hM hok)
  have HM := hid hM
  have hlt := M.pat_lt t i
  have herr := M.pat_err t i
  unfold Mach.pent
  generalize M.pat t i = r at *
  obtain ⟨n, c⟩ := r
  simp only at HA hlt herr ⊢
  clear hok hM
  have HL := hid hlt
  have HP := hid (fun w => has0 n w hlt)
  have HU := hid (fun w => unpack_any n w hlt)
  clear hlt
  unfold entV
  rcases herr with rfl | ⟨rfl, rfl⟩
  · simp only [ne_eq, not_true, if_false]
    by_cases h : n % 2 = 0
    · rw [if_pos h]
      rw [show decide (n % 2 = 1) = false by rw [decide_eq_false_iff_not]; omega] at HP
      have hn0 : (n : Int) % 2 = 0 := by omega
      clear h hn0
      go_enter Try.func70, Try.ntmps70
      go_wp2_with (first
        | (go_at_call 24; refine (HA.out _ (by exact HM.out.alloc _)).mono ?_; rintro e w2 ⟨rfl, hg⟩; have HG := hid hg; obtain ⟨k0, k1, k2, f0, f1, f2, hz⟩ := ent_kept hg; clear hg)
        | (go_at_call 75; refine (HP.out _).mono ?_; rintro e w3 ⟨rfl, rfl⟩))
      exact bodyPost_ret (v := .tuple #[.agg #[.bool false, .bool false, .int .i64 0], .int .i64 40]) (by simp [results, Try.results70, go_sem, k0, k1, k2, f0, f1, f2]) rfl ⟨rfl, grown_set (grown_set (grown_set ((World.grownBy_alloc _ _ _).trans HG.out) (Nat.le_refl _) _) (Nat.le_refl _) _) (Nat.le_refl _) _⟩
    · rw [if_neg h]
      rw [show decide (n % 2 = 1) = true by rw [decide_eq_true_iff]; omega] at HP
      clear h
      generalize unpackV n = r at *
      obtain ⟨⟨p, q, m⟩, c⟩ := r
      simp only [Ent.val] at HU
      show Calls _ _ _ _ fun e w' => e = .returned (.tuple #[.agg #[.bool p, .bool q, .int .i64 m], .int .i64 c]) ∧ w.grownBy w' none
      go_enter Try.func70, Try.ntmps70
      go_wp2_with (first
        | (go_at_call 24; refine (HA.out _ (by exact HM.out.alloc _)).mono ?_; rintro e w2 ⟨rfl, hg⟩; have HG := hid hg; obtain ⟨k0, k1, k2, f0, f1, f2, hz⟩ := ent_kept hg; clear hg)
        | (go_at_call 75; refine (HP.out _).mono ?_; rintro e w3 ⟨rfl, rfl⟩)
        | (go_at_call 35; refine (HU.out _).mono ?_; rintro e w4 ⟨rfl, hg⟩; have HG2 := hid hg; obtain ⟨l0, l1, l2, g0, g1, g2, hz4⟩ := ent_kept (HG.out.trans hg); clear hg k0 k1 k2 f0 f1 f2))
      exact bodyPost_ret (v := .tuple #[.agg #[.bool p, .bool q, .int .i64 m], .int .i64 c]) (by simp [results, Try.results70, go_sem, l0, l1, l2, g0, g1, g2]) rfl ⟨rfl, grown_set (grown_set (grown_set ((World.grownBy_alloc _ _ _).trans (HG.out.trans HG2.out)) (Nat.le_refl _) _) (Nat.le_refl _) _) (Nat.le_refl _) _⟩
  · go_enter Try.func70, Try.ntmps70
    go_wp2_with (first
        | (go_at_call 24; refine (HA.out _ (by exact HM.out.alloc _)).mono ?_; rintro e w2 ⟨rfl, hg⟩; have HG := hid hg; obtain ⟨k0, k1, k2, f0, f1, f2, hz⟩ := ent_kept hg; clear hg)
        | fail)
    exact bodyPost_ret (v := .tuple #[.agg #[.bool false, .bool false, .int .i64 0], .int .i64 1]) (by simp [results, Try.results70, go_sem, k0, k1, k2, f0, f1, f2]) rfl ⟨rfl, grown_set (grown_set (grown_set ((World.grownBy_alloc _ _ _).trans HG.out) (Nat.le_refl _) _) (Nat.le_refl _) _) (Nat.le_refl _) _⟩
end Go.Proofs.Ytdjhkacjgdnglaa
