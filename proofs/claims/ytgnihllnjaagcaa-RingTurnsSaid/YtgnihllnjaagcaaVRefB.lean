/-
  Package tenementref02 over the reference's machine: rewrite.
-/
import Derived.Test.YtgnihllnjaagcaaVRef
import Derived.Deep.RegionWith
set_option linter.unusedSimpArgs false
set_option linter.unusedVariables false
namespace Go.Proofs.Ytgnihllnjaagcaa
open Go.RowKit
set_option maxHeartbeats 4000000

theorem rew_in {M : Mach} {p : PokeV} (h : M.is p.i = false ∨ inP p.off p.l.length = false) : M.rew p = M := by
  unfold Mach.rew Mach.write
  rcases h with e | e
  · simp [e]
  · split <;> simp [e]
theorem rew_no {M : Mach} {p : PokeV} (h : (M.fr p.i.toNat).may = false) : M.rew p = M := by
  unfold Mach.rew Mach.may
  simp [h]
theorem rew_yes {M : Mach} {p : PokeV} (h : M.is p.i = true) (hm : (M.fr p.i.toNat).may = true) : M.rew p = (M.write p.i p.off p.l).2 := by
  unfold Mach.rew Mach.may
  simp [h, hm]
theorem RV.grown {w w' : World} {U b : Nat} {pa : Option Addr} {len cap : Nat} {n : Int} (h : RV w U b pa len cap n) (hg : w.grownBy w' none) : RV w' U b pa len cap n := Row.grown h hg (by simp)
def pokeV (p : PokeV) (qa : Option Addr) (qc : Nat) : Value := .agg #[.int .i64 p.t, .int .i64 p.i, .int .i64 p.off, .slice qa p.l.length qc]
/-- what a rewrite leaves -/
def RLeft0 (b : Nat) (L : Lay) (w : World) (M' : Mach) (w' : World) : Prop := ∃ L', RM w' b M' L' ∧ L'.n = L.n ∧ Chg (L.foot b) w w' ∧ ∀ k, L'.foot b k → L.foot b k ∨ w.heap.size ≤ k
theorem RLeft0.same {b : Nat} {L : Lay} {w w' : World} {M : Mach} (h : RM w b M L) (hg : w.grownBy w' none) : RLeft0 b L w M w' := ⟨L, h.grown hg, rfl, Chg.of0 hg, fun _ h => .inl h⟩
set_option maxRecDepth 100000 in
theorem rvRew_in (U b : Nat) (pa : Option Addr) (len cap : Nat) (n : Int) (p : PokeV) (qa : Option Addr) (qc : Nat) (w : World) (M : Mach) (L : Lay) (h : RV w U b pa len cap n) (hM : RM w b M L) (hf : p.fits) (hi : M.is p.i = false ∨ inP p.off p.l.length = false) :
    Calls Try.prog 103 #[.pointer (some ⟨U, 0, none⟩), pokeV p qa qc] w fun e w' => e = .returned (.tuple #[]) ∧ w.grownBy w' none := by
  have H := hid h; have HM := hid hM
  have HG1 := hid (World.grownBy_alloc w (.cells #[.int .i64 p.t, .int .i64 p.i, .int .i64 p.off, .slice qa p.l.length qc] 143) none)
  have e0 := (H.out.grown HG1.out).c0
  have HIn := hid (fun W (hg : (w.alloc (.cells #[.int .i64 p.t, .int .i64 p.i, .int .i64 p.off, .slice qa p.l.length qc] 143)).grownBy W none) => In_no b p.i p.off p.l.length W M L (HM.out.grown (HG1.out.trans hg)) (by have := hf.2.2.2; omega) hi)
  clear h hM hi
  unfold pokeV
  go_enter Try.func103, Try.ntmps103
  go_upto_region 1 with (fail)
  go_quiet ((go_at_call 99; refine Calls.quiet_of_same (v := .bool false) ((HIn.out _ (grownBy_drewN _ _ _)).mono ?_); rintro e w' ⟨rfl, rfl⟩; exact ⟨rfl, rfl⟩))
  go_wp2
  (try simp only [Exit.inBlock, Exit.then])
  refine bodyPost_ret (results_none rfl _ _ _) rfl ?_
  exact ⟨rfl, HG1.out.trans (grownBy_drewN _ _ _)⟩
theorem may_no' {f : Fr} (h : f.may = false) : f.owner < 0 ∨ (0 ≤ f.owner ∧ f.ty = 2) ∨ (0 ≤ f.owner ∧ f.ty ≠ 2 ∧ f.ty = 3) := by
  unfold Fr.may at h
  by_cases h0 : 0 ≤ f.owner
  · by_cases h2 : f.ty = 2
    · exact .inr (.inl ⟨h0, h2⟩)
    · by_cases h3 : f.ty = 3
      · exact .inr (.inr ⟨h0, h2, h3⟩)
      · simp [h0, h2, h3] at h
  · exact .inl (by omega)
theorem may_yes' {f : Fr} (h : f.may = true) : 0 ≤ f.owner ∧ f.ty ≠ 2 ∧ f.ty ≠ 3 := by
  unfold Fr.may at h
  simp only [Bool.and_eq_true, decide_eq_true_eq, bne_iff_ne] at h
  exact ⟨h.1.1, h.1.2, h.2⟩
theorem Apart.grown {w W : World} {L : Lay} {b : Nat} {pa : Option Addr} {l : List UInt8} (h : Apart w L b pa l) (hg : w.grownBy W none) : Apart W L b pa l := fun k hk => by
  obtain ⟨sb, so, e, hn, hc⟩ := h k hk
  exact ⟨sb, so, e, hn, hg.cell hc (by simp)⟩
theorem In_yes' {b : Nat} {i off n : Int} {w : World} {M : Mach} {L : Lay} (h : RM w b M L) (hi : M.is i = true) (hp : inP off n = true) : Calls Try.prog 99 #[.pointer (some ⟨b, 0, none⟩), .int .i64 i, .int .i64 off, .int .i64 n] w fun e w' => e = .returned (.bool true) ∧ w = w' := by
  obtain ⟨i0, i1⟩ := Mach.is_iff.1 hi
  obtain ⟨p0, p1, p2⟩ := inP_iff.1 hp
  obtain ⟨j, rfl⟩ := Int.eq_ofNat_of_zero_le i0
  obtain ⟨o, rfl⟩ := Int.eq_ofNat_of_zero_le p0
  obtain ⟨m, rfl⟩ := Int.eq_ofNat_of_zero_le p1
  exact In_yes b j o m w M L h (by have := h.hn; omega) (by omega)
set_option maxRecDepth 100000 in
theorem rvRew_yes (U b : Nat) (pa : Option Addr) (len cap : Nat) (n : Int) (t off : Int) (j : Nat) (l : List UInt8) (qa : Option Addr) (qc : Nat) (w : World) (M : Mach) (L : Lay) (h : RV w U b pa len cap n) (hM : RM w b M L) (hj : j < L.n) (hp : inP off l.length = true) (hmax : l.length ≤ 140737488351232) (hq : Apart w L b qa l) :
    Calls Try.prog 103 #[.pointer (some ⟨U, 0, none⟩), pokeV ⟨t, j, off, l⟩ qa qc] w fun e w' => e = .returned (.tuple #[]) ∧ RLeft0 b L w (M.rew ⟨t, j, off, l⟩) w' := by
  have H := hid h; have HM := hid hM; have HA := hid hq
  have HG1 := hid (World.grownBy_alloc w (.cells #[.int .i64 t, .int .i64 j, .int .i64 off, .slice qa l.length qc] 143) none)
  have e0 := (H.out.grown HG1.out).c0
  have hhn := hM.hn
  have hi : M.is j = true := Mach.is_yes (by omega) (by omega)
  have HIn := hid (fun W (hg : (w.alloc (.cells #[.int .i64 t, .int .i64 j, .int .i64 off, .slice qa l.length qc] 143)).grownBy W none) => In_yes' (HM.out.grown (HG1.out.trans hg)) hi hp)
  have HI := hid hi
  have hj0 : (0 : Int) ≤ j := by omega
  have hj1 : (j : Int) < L.n := by omega
  clear h hM hq hi hp hhn
  unfold pokeV
  go_enter Try.func103, Try.ntmps103
  go_upto_region 1 with (fail)
  go_quiet ((go_at_call 99; refine Calls.quiet_of_same (v := .bool true) ((HIn.out _ (grownBy_drewN _ _ _)).mono ?_); rintro e w' ⟨rfl, rfl⟩; exact ⟨rfl, rfl⟩))
  have HG2 := hid (HG1.out.trans (grownBy_drewN _ nq none))
  obtain ⟨W2, hW2⟩ : ∃ W2, (w.alloc (.cells #[.int .i64 t, .int .i64 j, .int .i64 off, .slice qa l.length qc] 143)).drewN nq = W2 := ⟨_, rfl⟩
  have d1 : W2.cell? ⟨w.heap.size, 1, none⟩ = some (.int .i64 j) := by rw [← hW2]; simp [cell_of_row _ _ _ _ _ _ (heap_alloc_new w _)]
  have d2 : W2.cell? ⟨w.heap.size, 2, none⟩ = some (.int .i64 off) := by rw [← hW2]; simp [cell_of_row _ _ _ _ _ _ (heap_alloc_new w _)]
  have d3 : W2.cell? ⟨w.heap.size, 3, none⟩ = some (.slice qa l.length qc) := by rw [← hW2]; simp [cell_of_row _ _ _ _ _ _ (heap_alloc_new w _)]
  rw [hW2] at HG2
  rw [hW2]
  clear hW2 e0 HIn HG1
  have HM2 := hid (HM.out.grown HG2.out)
  have fs : ∀ W, W2.grownBy W none → W.cell? ⟨U, 0, none⟩ = some (.pointer (some ⟨b, 0, none⟩)) ∧ W.cell? ⟨b, 0, none⟩ = some (.slice (some ⟨L.fF, 0, none⟩) L.n L.cF) ∧ W.cell? ⟨L.fF, j * 4, none⟩ = some (.int .i64 (M.fr j).owner) ∧ W.cell? ⟨L.fF, j * 4 + 1, none⟩ = some (.int .i64 (M.fr j).ty) ∧ W.cell? ⟨L.fF, j * 4 + 2, none⟩ = some (.int .i64 (M.fr j).cnt) ∧ W.cell? ⟨L.fF, j * 4 + 3, none⟩ = some (.int .i64 (M.fr j).tot) ∧ W.cell? ⟨w.heap.size, 1, none⟩ = some (.int .i64 j) := fun W hg => by
    have HMW := HM2.out.grown hg
    exact ⟨((H.out.grown HG2.out).grown hg).c0, HMW.slF, HMW.hd (r := 0) hj (by omega), HMW.hd (r := 1) hj (by omega), HMW.cnt hj, HMW.tot hj, hg.cell d1 (by simp)⟩
  obtain ⟨c0, c1, f0, f1, f2, f3, _⟩ := fs W2 (World.grownBy.refl _ _)
  obtain ⟨a0, a1, g0, g1, g2, g3, a2⟩ := fs (W2.alloc (.cells #[.int .i64 0, .int .i64 0, .int .i64 0, .int .i64 0] 108)) (World.grownBy_alloc _ _ _)
  clear fs
  go_upto_region 2 with (fail)
  go_region
  go_upto_region 3 with (fail)
  obtain ⟨W3, hW3⟩ : ∃ W3, (W2.alloc (.cells #[.int .i64 (M.fr j).owner, .int .i64 (M.fr j).ty, .int .i64 (M.fr j).cnt, .int .i64 (M.fr j).tot] 108)).drew = W3 := ⟨_, rfl⟩
  have hg3 : W2.grownBy W3 none := hW3 ▸ (World.grownBy_alloc W2 _ none).trans (grownBy_drew _ none)
  have HG3 := hid (HG2.out.trans hg3)
  have q0 : W3.cell? ⟨W2.heap.size, 0, none⟩ = some (.int .i64 (M.fr j).owner) := by rw [← hW3]; simp [cell_of_row _ _ _ _ _ _ (heap_alloc_new W2 _)]
  have q1 : W3.cell? ⟨W2.heap.size, 1, none⟩ = some (.int .i64 (M.fr j).ty) := by rw [← hW3]; simp [cell_of_row _ _ _ _ _ _ (heap_alloc_new W2 _)]
  rw [hW3]
  replace d1 := hg3.cell d1 (by simp)
  replace d2 := hg3.cell d2 (by simp)
  replace d3 := hg3.cell d3 (by simp)
  have b0 := ((H.out.grown HG2.out).grown hg3).c0
  clear hW3 hg3 c0 c1 f0 f1 f2 f3 a0 a1 g0 g1 g2 g3 a2 HM2 HG2
  cases hmay : (M.fr j).may with
  | false =>
    have HR := hid (rew_no (M := M) (p := ⟨t, j, off, l⟩) hmay)
    have hmn := may_no' hmay
    clear hmay
    rcases hmn with m1 | ⟨m1, m2⟩ | ⟨m1, m2, m3⟩
    · go_wp2
      (try simp only [Exit.inBlock, Exit.then])
      refine bodyPost_ret (results_none rfl _ _ _) rfl ?_
      exact ⟨rfl, by rw [HR.out]; exact RLeft0.same HM.out HG3.out⟩
    · have m1' : ¬ (M.fr j).owner < 0 := by omega
      have m2b : ((M.fr j).ty == 2) = true := by simp [m2]
      clear m2
      go_wp2
      (try simp only [Exit.inBlock, Exit.then])
      refine bodyPost_ret (results_none rfl _ _ _) rfl ?_
      exact ⟨rfl, by rw [HR.out]; exact RLeft0.same HM.out HG3.out⟩
    · have m1' : ¬ (M.fr j).owner < 0 := by omega
      have m2b : ((M.fr j).ty == 2) = false := by simp [m2]
      have m3b : ((M.fr j).ty == 3) = true := by simp [m3]
      clear m2 m3
      go_wp2
      (try simp only [Exit.inBlock, Exit.then])
      refine bodyPost_ret (results_none rfl _ _ _) rfl ?_
      exact ⟨rfl, by rw [HR.out]; exact RLeft0.same HM.out HG3.out⟩
  | true =>
    have HR := hid (rew_yes (M := M) (p := ⟨t, j, off, l⟩) HI.out hmay)
    have HW := hid (fun W (hg : W3.grownBy W none) => (rWrite b j off qa qc l W M L (HM.out.grown (HG3.out.trans hg)) (by omega) (HA.out.grown (HG3.out.trans hg))).mono (R' := fun e w4 => e = .returned (.int .i64 (M.write j off l).1) ∧ RLeft0 b L w (M.rew ⟨t, j, off, l⟩) w4) (fun e w4 ⟨he, L4, h4, hn4, hc4, hf4⟩ => ⟨he, by
      rw [HR.out]
      exact ⟨L4, h4, hn4, (Chg.of0 (S := L.foot b) (HG3.out.trans hg)).trans hc4 (fun _ h => .inl h), fun k hk => (hf4 k hk).imp id (fun h => Nat.le_trans (HG3.out.trans hg).size h)⟩⟩))
    obtain ⟨m1, m2, m3⟩ := may_yes' hmay
    have m1' : ¬ (M.fr j).owner < 0 := by omega
    have m2b : ((M.fr j).ty == 2) = false := by simp [m2]
    have m3b : ((M.fr j).ty == 3) = false := by simp [m3]
    clear hmay m2 m3
    go_upto_region 4 with (fail)
    go_region_with (go_at_call 66; refine (HW.out _ (by first | exact World.grownBy.refl _ _ | exact grownBy_drew _ _)).mono ?_; rintro e w4 ⟨rfl, h4⟩; have H4 := hid h4; clear h4)
    all_goals go_wp2
    all_goals go_end0
    all_goals exact ⟨rfl, H4.out⟩
end Go.Proofs.Ytgnihllnjaagcaa
