/-
  Package pte: Walk, whole; package tenementref04: At, entry, Walk.
-/
import Derived.Test.YtdjhkacjgdnglaaPteF
import Derived.Test.YtdjhkacjgdnglaaPteB
import Derived.Test.YtdjhkacjgdnglaaRefG
namespace Go.Proofs.Ytdjhkacjgdnglaa
open Go.RowKit
set_option maxHeartbeats 2000000

theorem ptWalk (b : Nat) (r : Int) (va : Nat) (x : Bool) (w : World) (M : Mach) (T : Int) (hM : PM w b M) (hok : M.ok T) (hv : va < 4294967296) : Calls Try.prog 26 #[.pointer (some ⟨b, 0, none⟩), .int .i64 r, .int .u32 va, .bool x] w fun e w' => e = .returned (walk3 (M.walkV r va x)) ∧ w.grownBy w' none := by
  unfold Mach.walkV
  by_cases h : 1048576 ≤ va
  · rw [if_pos h]; exact ptWalk_far b r va x w M T hM hok hv h
  rw [if_neg h]
  obtain ⟨⟨p, q, m⟩, hX⟩ : ∃ y, (M.pent r ((va / 16384 : Nat) : Int)).1 = y := ⟨_, rfl⟩
  by_cases he : (M.pent r ((va / 16384 : Nat) : Int)).2 = 0
  · unfold Mach.walk1
    rw [if_neg (fun hh => hh he), hX]
    simp only
    obtain ⟨⟨p2, q2, m2⟩, hY⟩ : ∃ y, (M.pent m ((va / 256 % 64 : Nat) : Int)).1 = y := ⟨_, rfl⟩
    by_cases he2 : (M.pent m ((va / 256 % 64 : Nat) : Int)).2 = 0
    · unfold Mach.walk2
      rw [if_neg (fun hh => hh he2), hY]
      simp only
      cases hw : (x && !q2)
      · rw [if_neg (by simp)]
        cases hf : M.is m2
        · rw [if_pos rfl]; exact ptWalk_nof b r va x w M T hM hok hv h p q m hX he p2 q2 m2 hY he2 hw hf
        · rw [if_neg (by simp)]; exact ptWalk_yes b r va x w M T hM hok hv h p q m hX he p2 q2 m2 hY he2 hw hf
      · rw [if_pos rfl]
        have hx : x = true ∧ q2 = false := by cases x <;> cases q2 <;> simp at hw <;> simp
        exact ptWalk_ro b r va x w M T hM hok hv h p q m hX he p2 q2 m2 hY he2 hx.1 hx.2
    · unfold Mach.walk2
      rw [if_pos he2]
      exact ptWalk_e2 b r va x w M T hM hok hv h p q m hX he p2 q2 m2 hY _ rfl he2
  · unfold Mach.walk1
    rw [if_pos he]
    exact ptWalk_e1 b r va x w M T hM hok hv h _ rfl he

theorem rAt_no (b : Nat) (t i : Int) (w : World) (M : Mach) (L : Lay) (h : RM w b M L) (hi : M.is t = false ∨ idx i = false) : Calls Try.prog 25 #[.pointer (some ⟨b, 0, none⟩), .int .i64 t, .int .i64 i] w fun e w' => e = .returned (.tuple #[.int .u32 0, .int .i64 1]) ∧ w = w' := by
  have hn := h.hn
  have HR := hid h
  by_cases ht : t < 0 ∨ M.n ≤ t
  · clear hi hn h
    go_enter Try.func25, Try.ntmps25
    go_wp2_with (go_at_call 69; refine (Is_no _ _ _ _ _ HR.out ht).mono ?_; rintro e w2 ⟨rfl, rfl⟩)
    go_ret2
    exact ⟨rfl, rfl⟩
  · obtain ⟨k, rfl⟩ : ∃ k : Nat, t = k := ⟨t.toNat, by omega⟩
    have hk : k < L.n := by omega
    have hi' : idx i = false := by
      rcases hi with hi | hi
      · rw [Mach.is_yes (by omega) (by omega)] at hi; cases hi
      · exact hi
    rcases (show i < 0 ∨ (0 ≤ i ∧ 63 < i) by simp only [idx, Bool.and_eq_false_iff, decide_eq_false_iff_not] at hi'; omega) with h1 | ⟨h1, h2⟩
    all_goals
      clear hi' hi ht hn h
      go_enter Try.func25, Try.ntmps25
      go_wp2_with (go_at_call 69; refine (Is_yes _ _ _ _ _ HR.out hk).mono ?_; rintro e w2 ⟨rfl, rfl⟩)
      go_ret2
      exact ⟨rfl, rfl⟩
theorem rAt_yes (b t i : Nat) (w : World) (M : Mach) (L : Lay) (h : RM w b M L) (ht : t < L.n) (hi : i < 64) : Calls Try.prog 25 #[.pointer (some ⟨b, 0, none⟩), .int .i64 t, .int .i64 i] w fun e w' => e = .returned (.tuple #[.int .u32 (word4 (M.fr t).bs (4 * i) : Nat), .int .i64 0]) ∧ w = w' := by
  have HR := hid h
  have s1 := h.slB
  have s2 := h.sl ht
  have c0 := h.byte ht (k := 4 * i) (by omega)
  have c1 := h.byte ht (k := 4 * i + 1) (by omega)
  have c2 := h.byte ht (k := 4 * i + 2) (by omega)
  have c3 := h.byte ht (k := 4 * i + 3) (by omega)
  obtain ⟨x0, h0⟩ : ∃ x, ((M.fr t).bs (4 * i)).toNat = x := ⟨_, rfl⟩
  obtain ⟨x1, h1⟩ : ∃ x, ((M.fr t).bs (4 * i + 1)).toNat = x := ⟨_, rfl⟩
  obtain ⟨x2, h2⟩ : ∃ x, ((M.fr t).bs (4 * i + 2)).toNat = x := ⟨_, rfl⟩
  obtain ⟨x3, h3⟩ : ∃ x, ((M.fr t).bs (4 * i + 3)).toNat = x := ⟨_, rfl⟩
  have b0 : x0 < 256 := h0 ▸ ((M.fr t).bs (4 * i)).toNat_lt
  have b1 : x1 < 256 := h1 ▸ ((M.fr t).bs (4 * i + 1)).toNat_lt
  have b2 : x2 < 256 := h2 ▸ ((M.fr t).bs (4 * i + 2)).toNat_lt
  have b3 : x3 < 256 := h3 ▸ ((M.fr t).bs (4 * i + 3)).toNat_lt
  have HW := hid (show ((word4 (M.fr t).bs (4 * i) : Nat) : Int) = (x0 : Int) + 256 * x1 + 65536 * x2 + 16777216 * x3 by
    unfold word4; rw [h0, h1, h2, h3]; omega)
  rw [h0] at c0; rw [h1] at c1; rw [h2] at c2; rw [h3] at c3
  clear h0 h1 h2 h3 h
  go_enter Try.func25, Try.ntmps25
  go_wp2_with (go_at_call 69; refine (Is_yes _ _ _ _ _ HR.out ht).mono ?_; rintro e w2 ⟨rfl, rfl⟩)
  go_loop [8, 9] (fun n k => (k = .int .i64 3 ∧ n = .int .u32 0) ∨ (k = .int .i64 2 ∧ n = .int .u32 x3) ∨ (k = .int .i64 1 ∧ n = .int .u32 ((x3 : Int) * 256 + x2)) ∨ (k = .int .i64 0 ∧ n = .int .u32 (((x3 : Int) * 256 + x2) * 256 + x1)) ∨ (k = .int .i64 (-1) ∧ n = .int .u32 ((((x3 : Int) * 256 + x2) * 256 + x1) * 256 + x0))) (fun _ k => (intOf k + 1).toNat)
  case atStart => exact .inl ⟨rfl, rfl⟩
  case round =>
    rcases hrel with ⟨rfl, rfl⟩ | ⟨rfl, rfl⟩ | ⟨rfl, rfl⟩ | ⟨rfl, rfl⟩ | ⟨rfl, rfl⟩
    · go_wp2
      go_round
      case rel => exact .inr (.inl ⟨rfl, rfl⟩)
      case measure => simp [intOf]
    · go_wp2
      go_round
      case rel => exact .inr (.inr (.inl ⟨rfl, rfl⟩))
      case measure => simp [intOf]
    · go_wp2
      go_round
      case rel => exact .inr (.inr (.inr (.inl ⟨rfl, rfl⟩)))
      case measure => simp [intOf]
    · go_wp2
      go_round
      case rel => exact .inr (.inr (.inr (.inr ⟨rfl, rfl⟩)))
      case measure => simp [intOf]
    · go_wp2
      go_ret2
      exact ⟨ret_u (by rw [HW.out]; omega), rfl⟩
theorem rAt (b : Nat) (t i : Int) (w : World) (M : Mach) (L : Lay) (h : RM w b M L) : Calls Try.prog 25 #[.pointer (some ⟨b, 0, none⟩), .int .i64 t, .int .i64 i] w fun e w' => e = .returned (.tuple #[.int .u32 ((M.pat t i).1 : Nat), .int .i64 (M.pat t i).2]) ∧ w = w' := by
  have hn := h.hn
  cases hi : idx i
  · rw [show M.pat t i = (0, 1) by unfold Mach.pat; rw [if_pos hi]]
    exact rAt_no b t i w M L h (.inr hi)
  · have hi' : 0 ≤ i ∧ i < 64 := by simpa [idx] using hi
    obtain ⟨j, rfl⟩ : ∃ j : Nat, i = j := ⟨i.toNat, by omega⟩
    cases ht : M.is t
    · rw [show M.pat t j = (0, 1) by unfold Mach.pat; rw [if_neg (by simp [hi]), if_pos ht]]
      exact rAt_no b t j w M L h (.inl ht)
    · have ht' := Mach.is_iff.1 ht
      obtain ⟨k, rfl⟩ : ∃ j : Nat, t = j := ⟨t.toNat, by omega⟩
      rw [show M.pat k j = (word4 (M.fr k).bs (4 * j), 0) by unfold Mach.pat; rw [if_neg (by simp [hi]), if_neg (by simp [ht])]; rfl]
      exact rAt_yes b k j w M L h (by omega) (by omega)
theorem rEntry (b : Nat) (t i : Int) (w : World) (M : Mach) (L : Lay) (h : RM w b M L) : Calls Try.prog 71 #[.pointer (some ⟨b, 0, none⟩), .int .i64 t, .int .i64 i] w fun e w' => e = .returned (.tuple #[(M.pent t i).1.val, .int .i64 (M.pent t i).2]) ∧ w.grownBy w' none := by
  have HA := hid (fun w h => rAt b t i w M L h)
  have HR := hid h
  have hlt := M.pat_lt t i
  have herr := M.pat_err t i
  unfold Mach.pent
  generalize M.pat t i = r at *
  obtain ⟨n, c⟩ := r
  simp only at HA hlt herr ⊢
  clear h
  have HU := hid (fun w => rUnpack_any n w hlt)
  clear hlt
  unfold entV
  rcases herr with rfl | ⟨rfl, rfl⟩
  · simp only [ne_eq, not_true, if_false]
    have hu := unpackV_err n
    by_cases h : n % 2 = 0
    · rw [if_pos h]
      rw [show unpackV n = (ent0, 0) by unfold unpackV; rw [if_pos h]] at HU
      simp only [Ent.val, ent0] at HU
      clear h hu
      go_enter Try.func71, Try.ntmps71
      go_wp2_with (first
        | (go_at_call 25; refine (HA.out _ (HR.out.grown (World.grownBy_alloc _ _ _))).mono ?_; rintro e w2 ⟨rfl, rfl⟩)
        | (go_at_call 41; refine (HU.out _).mono ?_; rintro e w4 ⟨rfl, hg⟩; have HG := hid hg; obtain ⟨k0, k1, k2, f0, f1, f2, hz⟩ := ent_kept hg; clear hg))
      exact bodyPost_ret (v := .tuple #[.agg #[.bool false, .bool false, .int .i64 0], .int .i64 40]) (by simp [results, Try.results71, go_sem, k0, k1, k2, f0, f1, f2, hz, Nat.ne_of_lt hz]) rfl ⟨rfl, (grown_set (grown_set (grown_set ((World.grownBy_alloc _ _ _).trans HG.out) (Nat.le_refl _) _) (Nat.le_refl _) _) (Nat.le_refl _) _).trans (World.grownBy_alloc _ _ _)⟩
    · rw [if_neg h]
      by_cases h3 : 3 < n % 256
      · rw [show unpackV n = (ent0, 4) by unfold unpackV; rw [if_neg h, if_pos h3]] at HU ⊢
        simp only [Ent.val, ent0] at HU
        clear h h3 hu
        go_enter Try.func71, Try.ntmps71
        go_wp2_with (first
          | (go_at_call 25; refine (HA.out _ (HR.out.grown (World.grownBy_alloc _ _ _))).mono ?_; rintro e w2 ⟨rfl, rfl⟩)
          | (go_at_call 41; refine (HU.out _).mono ?_; rintro e w4 ⟨rfl, hg⟩; have HG := hid hg; obtain ⟨k0, k1, k2, f0, f1, f2, hz⟩ := ent_kept hg; clear hg))
        exact bodyPost_ret (v := .tuple #[.agg #[.bool false, .bool false, .int .i64 0], .int .i64 4]) (by simp [results, Try.results71, go_sem, k0, k1, k2, f0, f1, f2, hz, Nat.ne_of_lt hz]) rfl ⟨rfl, (grown_set (grown_set (grown_set ((World.grownBy_alloc _ _ _).trans HG.out) (Nat.le_refl _) _) (Nat.le_refl _) _) (Nat.le_refl _) _).trans (World.grownBy_alloc _ _ _)⟩
      · rw [show unpackV n = (⟨true, decide (n % 4 = 3), (n / 256 : Nat)⟩, 0) by unfold unpackV; rw [if_neg h, if_neg h3]] at HU ⊢
        generalize decide (n % 4 = 3) = q at *
        generalize ((n / 256 : Nat) : Int) = m at *
        simp only [Ent.val] at HU
        show Calls _ _ _ _ fun e w' => e = .returned (.tuple #[.agg #[.bool true, .bool q, .int .i64 m], .int .i64 0]) ∧ w.grownBy w' none
        clear h h3 hu
        go_enter Try.func71, Try.ntmps71
        go_wp2_with (first
          | (go_at_call 25; refine (HA.out _ (HR.out.grown (World.grownBy_alloc _ _ _))).mono ?_; rintro e w2 ⟨rfl, rfl⟩)
          | (go_at_call 41; refine (HU.out _).mono ?_; rintro e w4 ⟨rfl, hg⟩; have HG := hid hg; obtain ⟨k0, k1, k2, f0, f1, f2, hz⟩ := ent_kept hg; clear hg))
        exact bodyPost_ret (v := .tuple #[.agg #[.bool true, .bool q, .int .i64 m], .int .i64 0]) (by simp [results, Try.results71, go_sem, k0, k1, k2, f0, f1, f2, hz, Nat.ne_of_lt hz]) rfl ⟨rfl, (grown_set (grown_set (grown_set ((World.grownBy_alloc _ _ _).trans HG.out) (Nat.le_refl _) _) (Nat.le_refl _) _) (Nat.le_refl _) _).trans (World.grownBy_alloc _ _ _)⟩
  · go_enter Try.func71, Try.ntmps71
    go_wp2_with (go_at_call 25; refine (HA.out _ (HR.out.grown (World.grownBy_alloc _ _ _))).mono ?_; rintro e w2 ⟨rfl, rfl⟩)
    exact bodyPost_ret (v := .tuple #[.agg #[.bool false, .bool false, .int .i64 0], .int .i64 1]) (by simp [results, Try.results71, go_sem]) rfl ⟨rfl, World.grownBy_alloc _ _ _⟩
end Go.Proofs.Ytdjhkacjgdnglaa
