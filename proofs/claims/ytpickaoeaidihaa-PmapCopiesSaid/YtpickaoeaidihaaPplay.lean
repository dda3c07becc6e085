/-
  Package tenementlaw03: awake, pairs, told, play.
-/
import Derived.Test.YtpickaoeaidihaaPrefB
import Derived.Deep.RegionHeld3
namespace Go.Proofs.Ytpickaoeaidihaa
open Go.RowKit Gen
set_option maxHeartbeats 400000

theorem grownBy_drewN (w : World) (n : Nat) (row : Option Nat) : w.grownBy (w.drewN n) row := ⟨rfl, rfl, rfl, Nat.le_refl _, fun _ _ _ => rfl⟩
theorem pawake (w : World) : Calls Try.prog 14 #[] w fun e w' => e = .returned (.bool true) ∧ w.grownBy w' none := by
  have HN := hid (pNew_yes 2 w (by omega) : Calls Try.prog 8 #[.int .i64 2] w fun e w' => ∃ v, e = .returned (.tuple #[v, .int .i64 0]) ∧ NewP w (.empty 2) 0 v w')
  go_enter Try.func14, Try.ntmps14
  go_wp2_with (first
    | (go_at_call 8; refine HN.out.mono ?_; rintro e w1 ⟨v, rfl, b, f, p, rfl, h1, g1, hf1⟩; have H1 := hid h1; have G1 := hid g1; clear h1 g1 hf1)
    | (go_at_call 20; refine (pSize_yes b f p _ 0 _ H1.out).mono ?_; rintro e w2 ⟨rfl, rfl⟩))
  go_ret
  exact ⟨rfl, G1.out⟩
theorem pairs_same (p p' : Option Addr) (c c' : Nat) (l : List (Int × Int)) (n : Nat) (base base' : Nat) (w : World) (h : w.ownsRow base 43 2 (.slice p n c) n (pcells l)) (h' : w.ownsRow base' 43 2 (.slice p' n c') n (pcells l)) (hl : l.length = n) (hn : n ≤ 48) :
    Calls Try.prog 29 #[.slice p n c, .slice p' n c'] w fun e w' => e = .returned (.bool true) ∧ ∃ m, w' = w.drewN m := by
  subst hl
  have HA := hid h; have HB := hid h'
  clear h h'
  have hee : ((l.length : Int) != (l.length : Int)) = false := by simp
  go_enter Try.func29, Try.ntmps29
  go_wp2
  go_loopw [5] (fun i wr => ∃ k m : Nat, i = .int .i64 k ∧ k ≤ l.length ∧ wr = w.drewN m) (fun i _ => l.length - (intOf i).toNat)
  case atStart => exact ⟨0, 0, rfl, by omega, rfl⟩
  case round =>
    obtain ⟨k, m, rfl, hk, rfl⟩ := hrel
    have hk0 : (0 : Int) ≤ k := by omega
    by_cases hlt : k < l.length
    · have hlt' : (k : Int) < l.length := by omega
      obtain ⟨g, c1, e1, _, hc1, hd1⟩ := pairs_cells HA.out hlt
      obtain ⟨g', c2, e2, _, hc2, hd2⟩ := pairs_cells HB.out hlt
      cases e1; cases e2
      generalize l[k].1 = x at hc1 hc2
      generalize l[k].2 = y at hd1 hd2
      have hxx : ((x : Int) != (x : Int)) = false := by simp
      have hyy : ((y : Int) != (y : Int)) = false := by simp
      have hxe : ((x : Int) == (x : Int)) = true := by simp
      have hye : ((y : Int) == (y : Int)) = true := by simp
      go_wp2
      go_quiet (fail)
      all_goals go_wp2
      all_goals go_roundw
      all_goals first | exact ⟨k + 1, m + nq, by go_num, by omega, rfl⟩ | (simp [intOf]; omega)
    · have hge : (l.length : Int) ≤ k := by omega
      obtain rfl : k = l.length := by omega
      go_wp2
      go_ret
      exact ⟨rfl, _, rfl⟩

/-- a map of p2m and one of the reference that are the same -/
structure PPair (w : World) (b f p c : Nat) (L : RL) (M : Mp) (T : Nat) : Prop where
  m : PMap w b f p M T
  r : RMap w c L M
  sep : ∀ k, pfoot b f p k → ¬ rfoot c L k
def both (b f p c : Nat) (L : RL) (k : Nat) : Prop := pfoot b f p k ∨ rfoot c L k
theorem PPair.grown {w w' : World} {b f p c : Nat} {L : RL} {M : Mp} {T : Nat} (h : PPair w b f p c L M T) (hg : w.grownBy w' none) : PPair w' b f p c L M T := ⟨h.m.grown hg, h.r.grown hg, h.sep⟩
theorem PPair.chg {S : Nat → Prop} {w w' : World} {b f p c : Nat} {L : RL} {M : Mp} {T : Nat} (h : PPair w b f p c L M T) (hc : Chg S w w') (hS : ∀ k, both b f p c L k → ¬ S k) : PPair w' b f p c L M T := ⟨h.m.chg hc fun k hk => hS k (.inl hk), h.r.chg hc fun k hk => hS k (.inr hk), h.sep⟩
theorem PPair.lt {w : World} {b f p c : Nat} {L : RL} {M : Mp} {T : Nat} (h : PPair w b f p c L M T) {k : Nat} (hk : both b f p c L k) : k < w.heap.size := hk.elim h.m.lt h.r.lt_foot
theorem PPair.mono {w : World} {b f p c : Nat} {L : RL} {M : Mp} {T T' : Nat} (h : PPair w b f p c L M T) (hT : T ≤ T') : PPair w b f p c L M T' := ⟨h.m.mono hT, h.r, h.sep⟩

set_option maxRecDepth 100000 in
theorem ptold (b f p c : Nat) (L : RL) (M : Mp) (T : Nat) (w : World) (h : PPair w b f p c L M T) (hok : M.ok) :
    Calls Try.prog 13 #[.pointer (some ⟨b, 0, none⟩), .pointer (some ⟨c, 0, none⟩)] w fun e w' => e = .returned (.bool true) ∧ w.grownBy w' none := by
  have hn48 : M.n ≤ 48 := hok.n48
  have HD := hid (h.grown (grownBy_drew w none))
  have HH := hid h
  have HOk := hid hok
  have HLl := hid (Nat.le_trans (M.listP_len M.n) hn48)
  have c0 := (h.grown (grownBy_drew w none)).r.c0
  have hb1 : ((M.n : Int) == (M.n : Int)) = true := by simp
  have hb2 : (M.holeE.1 == M.holeE.1) = true := by simp
  have hb3 : (M.holeE.2 == M.holeE.2) = true := by simp
  clear h hok
  go_enter Try.func13, Try.ntmps13
  go_wp2_with (first
    | (go_at_call 19; refine (pHole_yes b f p M T _ HH.out.m hn48).mono ?_; rintro e w1 ⟨rfl, rfl⟩)
    | (go_at_call 28; refine (rHole c L M _ HH.out.r HOk.out).mono ?_; rintro e w1 ⟨rfl, rfl⟩))
  go_region_held3 (fun w' => w'.cell? ⟨c, 0, none⟩ = some (.slice L.pa M.n L.cap)) (first | assumption | go_keep)
    (first
      | (go_at_call 20; refine (pSize_yes b f p M T _ HD.out.m).mono ?_; rintro e w1 ⟨rfl, rfl⟩)
      | (go_at_call 16; refine (pList_yes b f p M T _ HD.out.m hn48).mono ?_; rintro e w1 ⟨v, rfl, hl⟩; obtain ⟨pv, cv, hv⟩ := ownsRow_slice hl.1; have k1 := (HD.out.grown hl.2).r.c0; have HO1 := hid hl.1; have HP1 := hid (HD.out.grown hl.2); have HG1 := hid ((grownBy_drew w none).trans hl.2); clear hl; subst hv)
      | (go_at_call 30; refine (rList c L M _ HP1.out.r HOk.out).mono ?_; rintro e w2 ⟨v, rfl, hl⟩; obtain ⟨pu, cu, hv⟩ := ownsRow_slice hl.1; have k2 := (HP1.out.grown hl.2).r.c0; have HO2 := hid hl.1; have HO1' := hid (HO1.out.kept hl.2 (none_row' _)); have HG2 := hid (HG1.out.trans hl.2); clear hl; subst hv)
      | (go_at_call 29; refine (pairs_same _ _ _ _ _ _ _ _ _ HO1'.out HO2.out rfl HLl.out).mono ?_; rintro e w3 ⟨rfl, m, rfl⟩; have k3 := (grownBy_drewN w2 m none).cell k2 (by simp); have HG3 := hid (HG2.out.trans (grownBy_drewN w2 m none))))
  all_goals go_wp2
  all_goals go_ret
  all_goals exact ⟨rfl, HG3.out⟩
end Go.Proofs.Ytpickaoeaidihaa
