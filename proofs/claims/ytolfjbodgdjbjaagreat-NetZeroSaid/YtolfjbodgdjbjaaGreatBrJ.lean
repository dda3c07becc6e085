/-
  Package bridge: direct of a switch.
-/
import Derived.Test.YtolfjbodgdjbjaaGreatBrI
import Derived.WalkMore
set_option linter.unusedSimpArgs false
set_option linter.unusedVariables false
namespace Go.Proofs.YtolfjbodgdjbjaaGreat.Br
open Go.RowKit Gen Bk
set_option maxHeartbeats 1000000

section
variable {C : Nat → Prop} {lab lab' : Nat → Nat} {w w' : World} {b g m : Nat} {lq : Nat → Lq} {S : Sw} {k : Nat} {s : Sd} {T : Nat}
theorem Sw.dirK_end (S : Sw) (fr k : Nat) (f : List UInt8) (hk : k ≤ S.n) (h : ∀ i, k ≤ i → i < S.n → tgt S.A (f.getD 0 0).toNat fr i = false) : S.dirK fr k f = S.dirW fr f := by
  unfold Sw.dirW Sw.dirK
  congr 1
  funext i
  by_cases e : i < k
  · simp [e, show i < S.n by omega]
  · by_cases e2 : i < S.n
    · rw [h i (by omega) e2]; simp
    · simp [e, e2]
theorem bdirect (h : PS lab w b g m lq S) (ok : S.ok T) (fr : Nat) (fp : Option Addr) (f : List UInt8) (fc : Nat) (hb : BU lab w fp f) (hf : 2 ≤ f.length) (hd : ∀ i, i < S.n → (S.P i).dir ≤ 2305843009213693952 ∧ (S.P i).full ≤ 2305843009213693952) :
    Calls Tryz.prog 70 #[.pointer (some ⟨b, 0, none⟩), .int .i64 (fr : Int), .slice fp f.length fc] w fun e w' => e = .returned (.tuple #[]) ∧ Aft lab w b g m (S.dirW fr f) w' := by
  obtain ⟨fb, fo, rfl⟩ := hb.1.ptr (by omega)
  have c0 := hb.1.at (k := 0) (by omega)
  obtain ⟨x, hx⟩ : ∃ x, f.getD 0 0 = x := ⟨_, rfl⟩
  have hx256 := UInt8.toNat_lt x
  have c1 := h.c1
  have b0 := h.c0
  have hl := fun (W : World) (hg : w.grownBy W none) => (h.map.grown hg (by simp)).look (w := W) Tryz.underlying5 Tryz.underlying65 Tryz.underlying3 (zero_int W) hx256
  have hl1 := hl w.drew (grownBy_drew w none)
  have hl0 := hl w (grownBy_refl w none)
  have H := hid h
  have HB := hid hb
  have OK := hid ok
  have HD := hid hd
  have hlen : (0 : Int) < f.length := by omega
  have HX := hid hx
  rw [hx, Nat.add_zero] at c0
  obtain ⟨n, hn⟩ : ∃ n, f.length = n := ⟨_, rfl⟩
  have HFn := hid hn
  rw [hn] at hlen ⊢
  have HDir := hid (fun (W : World) (lab1 : Nat → Nat) (lq1 : Nat → Lq) (S1 : Sw) (j : Nat) (s1 : Sd) (h1 : PS lab1 W b g m lq1 (S1.set j s1)) (hj : j < S1.n) (h8 : S1.n ≤ 8) (hb1 : BU lab1 W (some ⟨fb, fo, none⟩) f) (e1 : s1.dir ≤ 2305843009213693952) (e2 : s1.full ≤ 2305843009213693952) => bdirect1 h1 h8 hj (some ⟨fb, fo, none⟩) f fc hb1 e1 e2)
  rw [hn] at HDir
  clear h hb ok hd hl hx hf hn
  obtain ⟨A, hA⟩ : ∃ A, S.A x.toNat = A := ⟨_, rfl⟩
  have HA := hid hA
  rw [hA] at hl1 hl0
  clear hA
  cases A with
  | none =>
    simp only [Option.getD_none, Option.isSome_none] at hl1 hl0
    go_enter Tryz.func70, Tryz.ntmps70
    go_step3
    go_wp2
    go_region
    go_wp2
    go_step3
    go_wp2
    have Hd := hid (H.out.grown OK.out.n8 (grownBy_drew w none))
    have HBd := hid (HB.out.st (C := CP) (lab := lab) (lab' := lab) (St.grown (grownBy_drew w none)) (by unfold CP; omega))
    have HSt := hid (St.grown (C := CP) (lab := lab) (grownBy_drew w none))
    clear hl1 hl0 c0 c1 b0 H HB
    go_loopw [25] (fun i wr => ∃ (j : Nat) (lab1 : Nat → Nat) (lq1 : Nat → Lq), i = .int .i64 j ∧ j ≤ S.n ∧ PS lab1 wr b g m lq1 (S.dirK fr j f) ∧ BU lab1 wr (some ⟨fb, fo, none⟩) f ∧ St CP lab w lab1 wr) (fun i _ => S.n - (intOf i).toNat)
    case atStart => exact ⟨0, lab, lq, rfl, by omega, by rw [Sw.dirK_zero]; exact Hd.out, HBd.out, HSt.out⟩
    case round =>
      clear Hd HBd HSt
      obtain ⟨j, lab1, lq1, rfl, hj, hp, hb1, hst⟩ := hrel
      have P := hid hp
      have B1 := hid hb1
      have ST := hid hst
      have b0 : wr.cell? ⟨b, 0, none⟩ = some (.slice (some ⟨g, 0, none⟩) S.n S.n) := hp.c0
      clear hp hb1 hst
      have hj0 : (0 : Int) ≤ j := by omega
      have h8 := OK.out.n8
      by_cases hlt : j < S.n
      · have hlt' : (j : Int) < S.n := by omega
        by_cases hfr : j = fr
        · have hfr' : ((j : Int) == fr) = true := by simp [hfr]
          have ht : tgt S.A (f.getD 0 0).toNat fr j = false := by unfold tgt; simp [hfr]
          go_wp2_with fail
          go_roundw
          case rel => exact ⟨j + 1, lab1, lq1, by go_num, by omega, by rw [Sw.dirK_skip _ _ _ _ ht]; exact P.out, B1.out, ST.out⟩
          case measure => simp [intOf]; omega
        · have hfr' : ((j : Int) == fr) = false := by simp; omega
          have ht : tgt S.A (f.getD 0 0).toNat fr j = true := by unfold tgt; rw [HX.out, HA.out]; simp [hfr]
          obtain ⟨d1, d2⟩ := HD.out j hlt
          have HC := hid (HDir.out wr lab1 lq1 (S.dirK fr j f) j (S.P j) (by have := P.out.self j; rw [Sw.dirK_at] at this; exact this) hlt h8 B1.out d1 d2)
          rw [← Sw.dirK_take _ _ _ _ ht] at HC
          clear d1 d2
          go_wp2_with (go_at_call 82; refine HC.out.mono ?_; rintro e w1 ⟨rfl, lab2, lq2, p2, st2⟩; have P2 := hid p2; have B2 := hid (B1.out.st st2 (by unfold CP; omega)); have S2 := hid (ST.out.tr st2); clear p2 st2)
          go_roundw
          case rel => exact ⟨j + 1, lab2, lq2, by go_num, by omega, P2.out, B2.out, S2.out⟩
          case measure => simp [intOf]; omega
      · obtain rfl : j = S.n := by omega
        have hge : ¬ ((S.n : Int) < S.n) := by omega
        go_wp2
        try rw [Exit.noGoto_normal]
        go_end0
        exact ⟨rfl, lab1, lq1, P.out, ST.out⟩
  | some at_ =>
    simp only [Option.getD_some, Option.isSome_some] at hl1 hl0
    go_enter Tryz.func70, Tryz.ntmps70
    go_step3
    go_wp2
    go_region
    go_wp2
    go_step3
    go_wp2
    have Hd := hid (H.out.grown OK.out.n8 (grownBy_drew w none))
    have HBd := hid (HB.out.st (C := CP) (lab := lab) (lab' := lab) (St.grown (grownBy_drew w none)) (by unfold CP; omega))
    have HSt := hid (St.grown (C := CP) (lab := lab) (grownBy_drew w none))
    clear hl1 hl0 c0 c1 b0 H HB
    go_loopw [25] (fun i wr => ∃ (j : Nat) (lab1 : Nat → Nat) (lq1 : Nat → Lq), i = .int .i64 j ∧ j ≤ S.n ∧ PS lab1 wr b g m lq1 (S.dirK fr j f) ∧ BU lab1 wr (some ⟨fb, fo, none⟩) f ∧ St CP lab w lab1 wr) (fun i _ => S.n - (intOf i).toNat)
    case atStart => exact ⟨0, lab, lq, rfl, by omega, by rw [Sw.dirK_zero]; exact Hd.out, HBd.out, HSt.out⟩
    case round =>
      clear Hd HBd HSt
      obtain ⟨j, lab1, lq1, rfl, hj, hp, hb1, hst⟩ := hrel
      have P := hid hp
      have B1 := hid hb1
      have ST := hid hst
      have b0 : wr.cell? ⟨b, 0, none⟩ = some (.slice (some ⟨g, 0, none⟩) S.n S.n) := hp.c0
      clear hp hb1 hst
      have hj0 : (0 : Int) ≤ j := by omega
      have h8 := OK.out.n8
      by_cases hlt : j < S.n
      · have hlt' : (j : Int) < S.n := by omega
        by_cases hfr : j = fr
        · have hfr' : ((j : Int) == fr) = true := by simp [hfr]
          have ht : tgt S.A (f.getD 0 0).toNat fr j = false := by unfold tgt; simp [hfr]
          go_wp2_with fail
          go_roundw
          case rel => exact ⟨j + 1, lab1, lq1, by go_num, by omega, by rw [Sw.dirK_skip _ _ _ _ ht]; exact P.out, B1.out, ST.out⟩
          case measure => simp [intOf]; omega
        · have hfr' : ((j : Int) == fr) = false := by simp; omega
          by_cases hat : j = at_
          · subst hat
            have hat' : ((j : Int) == j) = true := by simp
            have ht : tgt S.A (f.getD 0 0).toNat fr j = true := by unfold tgt; rw [HX.out, HA.out]; simp [hfr]
            obtain ⟨d1, d2⟩ := HD.out j hlt
            have HC := hid (HDir.out wr lab1 lq1 (S.dirK fr j f) j (S.P j) (by have := P.out.self j; rw [Sw.dirK_at] at this; exact this) hlt h8 B1.out d1 d2)
            rw [← Sw.dirK_take _ _ _ _ ht] at HC
            clear d1 d2
            go_wp2_with (go_at_call 82; refine HC.out.mono ?_; rintro e w1 ⟨rfl, lab2, lq2, p2, st2⟩; have P2 := hid p2; have B2 := hid (B1.out.st st2 (by unfold CP; omega)); have S2 := hid (ST.out.tr st2); clear p2 st2)
            rw [Exit.noGoto_normal]
            go_end0
            refine ⟨rfl, lab2, lq2, ?_, S2.out⟩
            rw [← Sw.dirK_end S fr (j + 1) f (by omega) (fun i h1 h2 => by unfold tgt; rw [HX.out, HA.out]; simp; omega)]
            exact P2.out
          · have hat' : ((j : Int) == at_) = false := by simp; omega
            have ht : tgt S.A (f.getD 0 0).toNat fr j = false := by unfold tgt; rw [HX.out, HA.out]; simp [hat]
            go_wp2_with fail
            go_roundw
            case rel => exact ⟨j + 1, lab1, lq1, by go_num, by omega, by rw [Sw.dirK_skip _ _ _ _ ht]; exact P.out, B1.out, ST.out⟩
            case measure => simp [intOf]; omega
      · obtain rfl : j = S.n := by omega
        have hge : ¬ ((S.n : Int) < S.n) := by omega
        go_wp2
        try rw [Exit.noGoto_normal]
        go_end0
        exact ⟨rfl, lab1, lq1, P.out, ST.out⟩
end
end Go.Proofs.YtolfjbodgdjbjaaGreat.Br
