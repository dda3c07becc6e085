/-
  Package tenementref05: Unpin whole, Drop.
-/
import Derived.Test.YtemeihamkdpmoaaK26
import Derived.Test.YtemeihamkdpmoaaK24
import Derived.Test.YtemeihamkdpmoaaK23
import Derived.Test.YtemeihamkdpmoaaK18
import Derived.Deep.AppendLies
import Derived.Deep.RegionLaw
set_option linter.unusedSimpArgs false
set_option linter.unusedVariables false
namespace Go.Proofs.Ytemeihamkdpmoaa
open Go.RowKit
set_option maxHeartbeats 2000000

theorem yunref {b Y : Nat} {M : Mach} {T : Int} {F : Cnt} {lv : Int} {j : Nat} (hl : lv = 1 ∨ lv = 2) (hF : Inv2 M (F.add j (lv.toNat + 1))) (hj : (j : Int) < M.n) (hok : M.ok T) (hT : T + 30000 < 4611686018427387904) :
    YCall 110 #[.pointer (some ⟨Y, 0, none⟩), .int .i64 j, .int .i64 lv] b Y M (.returned (.tuple #[])) (unrefT lv M j) := by
  unfold unrefT
  rcases hl with rfl | rfl
  · rw [if_pos rfl]; exact yun1 hok hT j hj
  · rw [if_neg (by decide)]; exact yun2 hok hT j hj (hF.g j hj (by rw [show ((2 : Int).toNat + 1) = 3 from rfl, Cnt.add_at]; omega))
theorem outF_pin {sp : Nat → Sp} {E : Cnt} {d k : Nat} (hd : d < 8) (hkl : k < (sp d).pins.length) : ∃ F : Cnt, outF sp E = F.add (sp d).pins[k].1.toNat ((sp d).pins[k].2.toNat + 1) := by
  generalize hp : (sp d).pins[k] = p
  refine ⟨outF (upS sp d { sp d with pins := (sp d).pins.eraseIdx k }) E, ?_⟩
  have e1 := outF_change (sp := sp) (E := E) (s' := { sp d with pins := (sp d).pins.eraseIdx k }) hd [(p.1.toNat, p.2.toNat + 1)] [] (fun x => by
    unfold spK pinK
    simp only [List.count_append, List.count_nil]
    have hperm : (sp d).pins.Perm (p :: (sp d).pins.eraseIdx k) := by
      have e : (sp d).pins = (sp d).pins.take k ++ (sp d).pins.drop k := (List.take_append_drop _ _).symm
      rw [List.drop_eq_getElem_cons hkl, hp] at e
      have e2 : (sp d).pins.eraseIdx k = (sp d).pins.take k ++ (sp d).pins.drop (k + 1) := List.eraseIdx_eq_take_drop_succ _ _
      rw [e2]
      exact (List.Perm.of_eq e).trans List.perm_middle
    have := (hperm.map fun p => (p.1.toNat, p.2.toNat + 1)).count_eq x
    simp only [List.map_cons] at this
    rw [this, List.count_cons, List.count_cons, List.count_nil]
    omega)
  rw [Cnt.plus_nil, Cnt.plus_one] at e1
  exact e1.symm
theorem yUnpin (b Y : Nat) (o i : Int) (w : World) (L : Lay) (M : Mach) (T : Int) (sp : Nat → Sp) (E : Cnt) (A : YL) (h : YS w b Y L M sp A) (hA : All M sp E) (hok : M.ok T) (hT : T + 50000 < 4611686018427387904) :
    Calls Try.prog 85 #[.pointer (some ⟨Y, 0, none⟩), .int .i64 o, .int .i64 i] w fun e w' => e = .returned (.int .i64 (unpinV M sp o i).1) ∧ YLf w w' b Y L A (unpinV M sp o i).2.1 (unpinV M sp o i).2.2 := by
  unfold unpinV
  cases hd : domOk o with
  | false => rw [if_pos rfl]; exact yUnpin_dom b Y o i w L M sp A h (domOk_no hd)
  | true =>
    rw [if_neg (by simp)]
    obtain ⟨d, rfl, hd8⟩ := domOk_nat hd
    have hlen := hA.len hd8
    simp only [Int.toNat_natCast]
    by_cases hk : pinIx (sp d).pins i < (sp d).pins.length
    · have hat := pinIx_at hk
      rw [List.getElem?_eq_getElem hk]
      obtain ⟨F, hF⟩ := outF_pin (E := E) hd8 hk
      obtain ⟨⟨q0, q1⟩, hlv⟩ := (hA.sp d hd8).pins _ (List.getElem_mem hk)
      have hinv := hA.inv
      rw [hF] at hinv
      generalize hp : (sp d).pins[pinIx (sp d).pins i] = p at *
      obtain ⟨a, lv⟩ := p
      simp only at hat hinv q0 q1 hlv ⊢
      subst hat
      obtain ⟨j, rfl⟩ := Int.eq_ofNat_of_zero_le q0
      simp only [Int.toNat_natCast] at hinv ⊢
      exact yUnpin_yes b Y d _ j lv w L M _ sp A h hd8 (by omega) rfl hk hp (yunref hlv hinv q1 hok (by omega))
    · rw [List.getElem?_eq_none (by omega)]
      exact yUnpin_none b Y d i w L M sp A h hd8 (by omega) (by omega)

/-- how many pins the memory tells -/
def pinsN (w : World) (Y d : Nat) : Nat :=
  match w.cell? ⟨Y, 1, none⟩ with
  | some (.slice (some a) _ _) => match w.cell? ⟨a.block, d, none⟩ with
    | some (.slice _ n _) => n
    | _ => 0
  | _ => 0
theorem YS.pinsN {w : World} {b Y : Nat} {L : Lay} {M : Mach} {sp : Nat → Sp} {A : YL} (h : YS w b Y L M sp A) {d : Nat} (hd : d < 8) : Go.Proofs.Ytemeihamkdpmoaa.pinsN w Y d = (sp d).pins.length := by
  obtain ⟨p, c, e⟩ := (h.pin d hd).slice
  unfold Go.Proofs.Ytemeihamkdpmoaa.pinsN
  rw [h.y1]
  simp only
  rw [h.pins hd, e]
theorem unpin_first {M : Mach} {sp : Nat → Sp} {d k : Nat} (hd : d < 8) (hk : k < (sp d).pins.length) : unpinV (dropM M ((sp d).pins.take k)) (upS sp d { sp d with pins := (sp d).pins.drop k }) d (sp d).pins[k].1 = (0, dropM M ((sp d).pins.take (k + 1)), upS sp d { sp d with pins := (sp d).pins.drop (k + 1) }) := by
  have hdr : (sp d).pins.drop k = (sp d).pins[k] :: (sp d).pins.drop (k + 1) := List.drop_eq_getElem_cons hk
  have hs := dropM_succ M (sp d).pins k hk
  have e2 : upS (upS sp d { sp d with pins := (sp d).pins.drop k }) d { sp d with pins := (sp d).pins.drop (k + 1) } = upS sp d { sp d with pins := (sp d).pins.drop (k + 1) } := by
    funext e
    by_cases ed : e = d
    · subst ed; rw [upS_same, upS_same]
    · rw [upS_other _ _ _ _ ed, upS_other _ _ _ _ ed, upS_other _ _ _ _ ed]
  unfold unpinV
  rw [if_neg (by rw [domOk_cast hd]; simp)]
  simp only [Int.toNat_natCast, upS_same]
  rw [hs]
  generalize (sp d).pins[k] = p at *
  rw [hdr]
  have hix : pinIx (p :: (sp d).pins.drop (k + 1)) p.1 = 0 := by simp [pinIx, List.findIdx_cons]
  rw [hix]
  simp only [List.getElem?_cons_zero, List.eraseIdx_cons_zero]
  rw [← hdr, e2]
set_option maxRecDepth 100000 in
theorem yDrop_yes (b Y d : Nat) (w : World) (L : Lay) (M : Mach) (T : Int) (sp : Nat → Sp) (E : Cnt) (A : YL) (h : YS w b Y L M sp A) (hA : All M sp E) (hok : ∀ A sp', All A sp' E → A.ok T) (hT : T + 50000 < 4611686018427387904) (hd : d < 8) :
    Calls Try.prog 88 #[.pointer (some ⟨Y, 0, none⟩), .int .i64 d] w fun e w' => e = .returned (.int .i64 (dropV M sp d).1) ∧ YLf w w' b Y L A (dropV M sp d).2.1 (dropV M sp d).2.2 := by
  have HS := hid h
  have hd0 : (0 : Int) ≤ d := by omega
  have hd8 : (d : Int) < 8 := by omega
  have HA := hid (fun k hk => hA.dropped hd k hk)
  have HOk := hid hok
  have HL := hid (hA.len hd)
  obtain ⟨n, hn⟩ : ∃ n, (sp d).pins.length = n := ⟨_, rfl⟩
  have H0 := hid (show YLf w w b Y L A (dropM M ((sp d).pins.take 0)) (upS sp d { sp d with pins := (sp d).pins.drop 0 }) from by
    have : upS sp d { sp d with pins := (sp d).pins.drop 0 } = sp := by
      funext e
      by_cases ed : e = d
      · subst ed; rw [upS_same]; rfl
      · rw [upS_other _ _ _ _ ed]
    rw [this]
    exact YLf.same h (World.grownBy.refl _ _))
  have hdv : dropV M sp d = baseV (dropM M (sp d).pins) (upS sp d { sp d with pins := [] }) d (-1) := by unfold dropV; rw [if_neg (by rw [domOk_cast hd]; simp)]; simp only [Int.toNat_natCast]
  rw [hdv]
  clear h hA hok hdv
  go_enter Try.func88, Try.ntmps88
  go_wp2_with (go_at_call 104; refine (rDomain_yes _ _ hd0 hd8).mono ?_; rintro e w1 ⟨rfl, rfl⟩)
  go_loopw [] (fun wr => ∃ j : Nat, j ≤ n ∧ YLf w wr b Y L A (dropM M ((sp d).pins.take j)) (upS sp d { sp d with pins := (sp d).pins.drop j })) (fun wr => pinsN wr Y d)
  case atStart => exact ⟨0, by omega, H0.out⟩
  case round =>
    obtain ⟨j, hj, L1, A1, hs1, hc1, hf1⟩ := hrel
    have HS1 := hid hs1; have HC1 := hid hc1; have HF1 := hid hf1
    have y1 := hs1.y1; have p0 := hs1.pins hd
    have hpin := hs1.pin d hd
    have HPN := hid (hs1.pinsN hd)
    clear hs1 hc1 hf1
    rw [upS_same] at hpin
    simp only at hpin
    have hlen : ((sp d).pins.drop j).length = n - j := by rw [List.length_drop, hn]
    obtain ⟨p, c, e⟩ := hpin.slice
    rw [hlen] at e
    rw [e] at p0 hpin
    by_cases hjn : j < n
    · have hjl : j < (sp d).pins.length := by omega
      have hnj : 0 < n - j := by omega
      have hnji : (0 : Int) < ((n - j : Nat) : Int) := by omega
      have HU := hid (fun W (hs : YS W b Y L1 _ _ A1) => yUnpin b Y d (sp d).pins[j].1 W L1 _ T _ E A1 hs (HA.out j (by omega)) (HOk.out _ _ (HA.out j (by omega))) hT)
      rw [unpin_first hd hjl] at HU
      obtain ⟨g, e', c0, -⟩ := hpin.at (j := 0) (by rw [hlen]; omega)
      subst e'
      rw [show 0 * 2 = 0 from rfl, List.getElem_drop, show ((sp d).pins[j + 0]'(by omega)) = (sp d).pins[j] from rfl] at c0
      generalize (sp d).pins[j].1 = a at c0 HU
      clear hpin e hlen hn
      go_wp2_with (go_at_call 85; refine (HU.out _ HS1.out).mono ?_; rintro e w2 ⟨rfl, h2⟩; have H2 := hid (YLf.trans HC1.out HF1.out h2); have HM := hid (show pinsN w2 Y d < pinsN wr Y d from by (obtain ⟨L2, A2, hs2, -, -⟩ := h2; rw [hs2.pinsN hd, HPN.out, upS_same, upS_same]; simp only [List.length_drop]; omega)); clear h2)
      go_roundw
      case rel => exact ⟨j + 1, by omega, H2.out⟩
      case measure => exact HM.out
    · obtain rfl : j = n := by omega
      have hz : j - j = 0 := by omega
      rw [hz] at p0
      have HB := hid (fun W (hs : YS W b Y L1 (dropM M (sp d).pins) (upS sp d { sp d with pins := [] }) A1) => yBase b Y d (-1) W L1 _ T _ E A1 hs (by have := HA.out (sp d).pins.length (Nat.le_refl _); rwa [List.take_length, List.drop_length] at this) (HOk.out _ (upS sp d { sp d with pins := [] }) (by have := HA.out (sp d).pins.length (Nat.le_refl _); rwa [List.take_length, List.drop_length] at this)) hT)
      have HS2 := hid (show YS wr b Y L1 (dropM M (sp d).pins) (upS sp d { sp d with pins := [] }) A1 from by
        have := HS1.out
        rw [List.take_of_length_le (by omega), List.drop_of_length_le (by omega)] at this
        exact this)
      clear hpin e hlen hn hz HS1
      go_wp2_with (go_at_call 86; refine (HB.out _ HS2.out).mono ?_; rintro e w2 ⟨rfl, h2⟩; have H2 := hid (YLf.trans HC1.out HF1.out h2); clear h2)
      go_ret
      exact ⟨rfl, H2.out⟩
theorem yDrop_dom (b Y : Nat) (o : Int) (w : World) (L : Lay) (M : Mach) (sp : Nat → Sp) (A : YL) (h : YS w b Y L M sp A) (hdn : o < 0 ∨ 8 ≤ o) :
    Calls Try.prog 88 #[.pointer (some ⟨Y, 0, none⟩), .int .i64 o] w fun e w' => e = .returned (.int .i64 1) ∧ YLf w w' b Y L A M sp := by
  have HS := hid h
  clear h
  go_enter Try.func88, Try.ntmps88
  go_wp2_with (go_at_call 104; refine (rDomain_no _ _ hdn).mono ?_; rintro e w1 ⟨rfl, rfl⟩)
  go_ret
  exact ⟨rfl, YLf.same HS.out (World.grownBy.refl _ _)⟩
theorem yDrop (b Y : Nat) (o : Int) (w : World) (L : Lay) (M : Mach) (T : Int) (sp : Nat → Sp) (E : Cnt) (A : YL) (h : YS w b Y L M sp A) (hA : All M sp E) (hok : ∀ A sp', All A sp' E → A.ok T) (hT : T + 50000 < 4611686018427387904) :
    Calls Try.prog 88 #[.pointer (some ⟨Y, 0, none⟩), .int .i64 o] w fun e w' => e = .returned (.int .i64 (dropV M sp o).1) ∧ YLf w w' b Y L A (dropV M sp o).2.1 (dropV M sp o).2.2 := by
  cases hd : domOk o with
  | false =>
    have e : dropV M sp o = (1, M, sp) := by unfold dropV; rw [if_pos hd]
    rw [e]
    exact yDrop_dom b Y o w L M sp A h (domOk_no hd)
  | true =>
    obtain ⟨d, rfl, hd8⟩ := domOk_nat hd
    exact yDrop_yes b Y d w L M T sp E A h hA hok hT hd8
end Go.Proofs.Ytemeihamkdpmoaa

/-
  Package tenementref05: update of a frame that is no table of the domain.
-/
set_option linter.unusedSimpArgs false
set_option linter.unusedVariables false
namespace Go.Proofs.Ytemeihamkdpmoaa
open Go.RowKit
set_option maxHeartbeats 4000000

set_option maxRecDepth 100000 in
theorem yupdate_frame (b Y d t i n : Nat) (c : Int) (w : World) (S : Nat → Prop) (M : Mach) (h : YM w w b Y S M) (hd : d < 8) (ht : (t : Int) < M.n) (hx : i < 64)
    (hc : ((M.fr t).owner ≠ d ∧ c = 12) ∨ ((M.fr t).owner = d ∧ (M.fr t).ty ≠ 2 ∧ (M.fr t).ty ≠ 3 ∧ c = 5)) :
    Calls Try.prog 111 #[.pointer (some ⟨Y, 0, none⟩), .int .i64 d, .agg #[.int .i64 t, .int .i64 i, .int .u32 n]] w fun e w' => e = .returned (.int .i64 c) ∧ YM w w' b Y S M := by
  obtain ⟨W0, hW, hg0, b0, b1, b2⟩ := box3 w (.int .i64 t) (.int .i64 i) (.int .u32 n) 107
  have hh := h.more hg0
  have H0 := hid hh
  have y0 := H0.out.y
  obtain ⟨L0, hL0, hf0⟩ := hh.r
  have HL0 := hid hL0
  have hi : M.is t = true := Mach.is_yes (by omega) ht
  have hd0 : (0 : Int) ≤ d := by omega
  have hd8 : (d : Int) < 8 := by omega
  have h0 : (0 : Int) ≤ i := by omega
  have h64 : (i : Int) < 64 := by omega
  have hLn := hL0.hn
  have htl : t < L0.n := by omega
  have htl' : (t : Int) < L0.n := by omega
  have z0 := hL0.slF; have z1 := hL0.owner htl; have z2 := hL0.ty htl; have z3 := hL0.cnt htl; have z4 := hL0.tot htl
  generalize (M.fr t).owner = ow at *
  generalize (M.fr t).ty = ty at *
  generalize (M.fr t).cnt = cn at *
  generalize (M.fr t).tot = to at *
  have d1 : decide ((i : Int) < 0) = false := by simp; try omega
  have d2 : decide (64 ≤ (i : Int)) = false := by simp; try omega
  clear h hh hL0 hf0 hLn ht
  rcases hc with ⟨ho, rfl⟩ | ⟨ho, h2, h3, rfl⟩
  · have hob : (ow != (d : Int)) = true := by simp [ho]
    go_enter Try.func111, Try.ntmps111
    go_wp2
    go_region_held3 (fun w' => w'.cell? ⟨Y, 0, none⟩ = some (.pointer (some ⟨b, 0, none⟩)) ∧ w'.cell? ⟨w.heap.size, 0, none⟩ = some (.int .i64 t) ∧ w'.cell? ⟨w.heap.size, 1, none⟩ = some (.int .i64 i)) (first | exact ⟨by assumption, by assumption, by assumption⟩ | go_keep)
      (first
      | (go_at_call 104; refine (rDomain_yes _ _ hd0 hd8).mono ?_; rintro e w1 ⟨rfl, rfl⟩)
      | (go_at_call 77; refine (yIs _ _ _ M L0 (HL0.out.grown (grownBy_drew W0 none))).mono ?_; rintro e w1 ⟨rfl, rfl⟩; rw [hi]))
    go_wp2
    have ga := World.grownBy_alloc W0 (.cells #[.int .i64 0, .int .i64 0, .int .i64 0, .int .i64 0] 93) none
    have u0 := ga.cell y0 (by simp); have u1 := ga.cell b0 (by simp); have u2 := ga.cell z0 (by simp); have u3 := ga.cell z1 (by simp); have u4 := ga.cell z2 (by simp); have u5 := ga.cell z3 (by simp); have u6 := ga.cell z4 (by simp)
    have r4 := row4z W0
    have v0 := r4.cell (k := 0) (by omega); have v1 := r4.cell (k := 1) (by omega); have v2 := r4.cell (k := 2) (by omega); have v3 := r4.cell (k := 3) (by omega); have vz := r4.frozen
    have R4 := hid r4
    have GA := hid ga
    clear r4 ga
    go_region
    all_goals
      go_wp2
      go_ret
      exact ⟨rfl, H0.out.more ((World.grownBy_alloc _ _ none).trans ((grownBy_drew _ none).trans (grownBy_drew _ none)))⟩
  · subst ho
    have h2b : (ty != 2) = true := by simp [h2]
    have h3b : (ty != 3) = true := by simp [h3]
    go_enter Try.func111, Try.ntmps111
    go_wp2
    go_region_held3 (fun w' => w'.cell? ⟨Y, 0, none⟩ = some (.pointer (some ⟨b, 0, none⟩)) ∧ w'.cell? ⟨w.heap.size, 0, none⟩ = some (.int .i64 t) ∧ w'.cell? ⟨w.heap.size, 1, none⟩ = some (.int .i64 i)) (first | exact ⟨by assumption, by assumption, by assumption⟩ | go_keep)
      (first
      | (go_at_call 104; refine (rDomain_yes _ _ hd0 hd8).mono ?_; rintro e w1 ⟨rfl, rfl⟩)
      | (go_at_call 77; refine (yIs _ _ _ M L0 (HL0.out.grown (grownBy_drew W0 none))).mono ?_; rintro e w1 ⟨rfl, rfl⟩; rw [hi]))
    go_wp2
    have ga := World.grownBy_alloc W0 (.cells #[.int .i64 0, .int .i64 0, .int .i64 0, .int .i64 0] 93) none
    have u0 := ga.cell y0 (by simp); have u1 := ga.cell b0 (by simp); have u2 := ga.cell z0 (by simp); have u3 := ga.cell z1 (by simp); have u4 := ga.cell z2 (by simp); have u5 := ga.cell z3 (by simp); have u6 := ga.cell z4 (by simp)
    have r4 := row4z W0
    have v0 := r4.cell (k := 0) (by omega); have v1 := r4.cell (k := 1) (by omega); have v2 := r4.cell (k := 2) (by omega); have v3 := r4.cell (k := 3) (by omega); have vz := r4.frozen
    have R4 := hid r4
    have GA := hid ga
    clear r4 ga
    go_region
    all_goals
      go_wp2
      go_ret
      exact ⟨rfl, H0.out.more ((World.grownBy_alloc _ _ none).trans ((grownBy_drew _ none).trans (grownBy_drew _ none)))⟩
end Go.Proofs.Ytemeihamkdpmoaa

/-
  Package tenementref05: update, refused ahead of the frame.
-/
set_option linter.unusedSimpArgs false
set_option linter.unusedVariables false
namespace Go.Proofs.Ytemeihamkdpmoaa
open Go.RowKit
set_option maxHeartbeats 4000000

set_option maxRecDepth 100000 in
theorem yupdate_dom (b Y : Nat) (o t i : Int) (n : Nat) (w : World) (S : Nat → Prop) (M : Mach) (h : YM w w b Y S M) (hdn : o < 0 ∨ 8 ≤ o) :
    Calls Try.prog 111 #[.pointer (some ⟨Y, 0, none⟩), .int .i64 o, .agg #[.int .i64 t, .int .i64 i, .int .u32 n]] w fun e w' => e = .returned (.int .i64 1) ∧ YM w w' b Y S M := by
  obtain ⟨W0, hW, hg0, b0, b1, b2⟩ := box3 w (.int .i64 t) (.int .i64 i) (.int .u32 n) 107
  have H0 := hid (h.more hg0)
  have y0 := H0.out.y
  clear h
  go_enter Try.func111, Try.ntmps111
  go_wp2
  go_quiet (first | (go_at_call 104; refine Calls.quiet_of_same (v := .bool false) ((rDomain_no _ _ hdn).mono ?_); rintro e w' ⟨rfl, rfl⟩; exact ⟨rfl, rfl⟩))
  all_goals
    go_wp2
    go_ret
    exact ⟨rfl, H0.out.more (grownBy_drewN W0 _ none)⟩
set_option maxRecDepth 100000 in
theorem yupdate_is (b Y d : Nat) (t i : Int) (n : Nat) (w : World) (S : Nat → Prop) (M : Mach) (h : YM w w b Y S M) (hd : d < 8) (hb : M.is t = false ∨ idx i = false) :
    Calls Try.prog 111 #[.pointer (some ⟨Y, 0, none⟩), .int .i64 d, .agg #[.int .i64 t, .int .i64 i, .int .u32 n]] w fun e w' => e = .returned (.int .i64 1) ∧ YM w w' b Y S M := by
  obtain ⟨W0, hW, hg0, b0, b1, b2⟩ := box3 w (.int .i64 t) (.int .i64 i) (.int .u32 n) 107
  have hh := h.more hg0
  have H0 := hid hh
  have y0 := H0.out.y
  obtain ⟨L0, hL0, hf0⟩ := hh.r
  have HL0 := hid hL0
  have hd0 : (0 : Int) ≤ d := by omega
  have hd8 : (d : Int) < 8 := by omega
  clear h hh hL0 hf0
  cases hi : M.is t with
  | false =>
    clear hb
    go_enter Try.func111, Try.ntmps111
    go_wp2
    go_quiet (first | (go_at_call 104; refine Calls.quiet_of_same (v := .bool true) ((rDomain_yes _ _ hd0 hd8).mono ?_); rintro e w' ⟨rfl, rfl⟩; exact ⟨rfl, rfl⟩) | (go_at_call 77; refine Calls.quiet_of_same (v := .bool false) ((yIs _ _ _ M L0 (HL0.out.grown (grownBy_drewN _ _ _))).mono ?_); rw [hi]; rintro e w' ⟨rfl, rfl⟩; exact ⟨rfl, rfl⟩))
    all_goals
      go_wp2
      go_ret
      exact ⟨rfl, H0.out.more (grownBy_drewN W0 _ none)⟩
  | true =>
    have hx : i < 0 ∨ 64 ≤ i := by
      rcases hb with e | e
      · rw [hi] at e; cases e
      · simp only [idx, Bool.and_eq_false_iff, decide_eq_false_iff_not] at e; omega
    clear hb
    by_cases hn : i < 0
    · have hnb : decide (i < 0) = true := by simp [hn]
      go_enter Try.func111, Try.ntmps111
      go_wp2
      go_quiet (first | (go_at_call 104; refine Calls.quiet_of_same (v := .bool true) ((rDomain_yes _ _ hd0 hd8).mono ?_); rintro e w' ⟨rfl, rfl⟩; exact ⟨rfl, rfl⟩) | (go_at_call 77; refine Calls.quiet_of_same (v := .bool true) ((yIs _ _ _ M L0 (HL0.out.grown (grownBy_drewN _ _ _))).mono ?_); rw [hi]; rintro e w' ⟨rfl, rfl⟩; exact ⟨rfl, rfl⟩))
      all_goals
        go_wp2
        go_ret
        exact ⟨rfl, H0.out.more (grownBy_drewN W0 _ none)⟩
    · have h64 : decide (64 ≤ i) = true := by simp; omega
      have hnb : decide (i < 0) = false := by simp; omega
      clear hn hx
      go_enter Try.func111, Try.ntmps111
      go_wp2
      go_quiet (first | (go_at_call 104; refine Calls.quiet_of_same (v := .bool true) ((rDomain_yes _ _ hd0 hd8).mono ?_); rintro e w' ⟨rfl, rfl⟩; exact ⟨rfl, rfl⟩) | (go_at_call 77; refine Calls.quiet_of_same (v := .bool true) ((yIs _ _ _ M L0 (HL0.out.grown (grownBy_drewN _ _ _))).mono ?_); rw [hi]; rintro e w' ⟨rfl, rfl⟩; exact ⟨rfl, rfl⟩))
      all_goals
        go_wp2
        go_ret
        exact ⟨rfl, H0.out.more (grownBy_drewN W0 _ none)⟩
end Go.Proofs.Ytemeihamkdpmoaa

/-
  Package mmu: Update, Drop.
-/
set_option linter.unusedSimpArgs false
set_option linter.unusedVariables false
namespace Go.Proofs.Ytemeihamkdpmoaa
open Go.RowKit
set_option maxHeartbeats 4000000

/-- a slice of changes, out of block b -/
def UpdsAt (w : World) (b : Nat) (v : Value) (l : List Upd) : Prop :=
  ∃ p c, v = .slice p l.length c ∧ ∀ j (hj : j < l.length), ∃ g o, p = some ⟨g, o, none⟩ ∧ g ≠ b ∧ w.cell? ⟨g, o + j * 3, none⟩ = some (.int .i64 l[j].1) ∧ w.cell? ⟨g, o + j * 3 + 1, none⟩ = some (.int .i64 l[j].2.1) ∧ w.cell? ⟨g, o + j * 3 + 2, none⟩ = some (.int .u32 l[j].2.2)
theorem UpdsAt.grown {w w' : World} {b : Nat} {v : Value} {l : List Upd} (h : UpdsAt w b v l) (hg : w.grownBy w' (some b)) : UpdsAt w' b v l := by
  obtain ⟨p, c, rfl, h⟩ := h
  refine ⟨p, c, rfl, fun j hj => ?_⟩
  obtain ⟨g, o, rfl, hb, h0, h1, h2⟩ := h j hj
  have hne : (some g : Option Nat) ≠ some b := by simpa using hb
  exact ⟨g, o, rfl, hb, hg.cell h0 hne, hg.cell h1 hne, hg.cell h2 hne⟩
set_option maxRecDepth 100000 in
theorem xUpdate (X B : Nat) (o : Int) (v : Value) (l : List Upd) (w : World) (M : Mach) (sp : Nat → Sp) (E : Cnt) (T : Int) (h : XM w w B X M) (hA : All M sp E) (hT : ∀ A, All A sp E → A.ok T) (hT2 : T + 10000 < 4611686018427387904) (hu : UpdsAt w B v l) (hl : okU l) (hlen : l.length ≤ 140737488355328) :
    Calls Try.prog 44 #[.pointer (some ⟨X, 0, none⟩), .int .i64 o, v] w fun e w' => e = .returned (.tuple #[.int .i64 (updsV o M l).1, .int .i64 (updsV o M l).2.1]) ∧ XM w w' B X (updsV o M l).2.2 := by
  obtain ⟨p, c, rfl, hu⟩ := hu
  have HU := hid (show UpdsAt w B (.slice p l.length c) l from ⟨p, c, rfl, hu⟩)
  have H0 := hid h
  have hc := h.x
  have HA := hid (fun k hk => hA.updsM o hl k hk)
  have HT := hid hT
  have HL := hid hl
  clear h hu hA hT hl
  obtain ⟨n, hn⟩ : ∃ n, l.length = n := ⟨_, rfl⟩
  rw [hn] at hlen
  rw [hn]
  go_enter Try.func44, Try.ntmps44
  go_wp2_with (go_at_call 89; refine (xmade_yes _ B _ hc).mono ?_; rintro e w1 ⟨rfl, rfl⟩)
  clear hc
  go_loopw [16] (fun x wr => ∃ j : Nat, x = .int .i64 j ∧ j ≤ n ∧ XM w wr B X (updsM o M l j) ∧ ∀ q (hq : q < j) (hq' : q < l.length), (updV (updsM o M l q) o l[q].1 l[q].2.1 l[q].2.2).1 = 0) (fun x _ => n - (intOf x).toNat)
  case atStart => exact ⟨0, rfl, by omega, H0.out, fun q hq => by omega⟩
  case round =>
    obtain ⟨j, rfl, hj, hx, hz⟩ := hrel
    have HX := hid hx; have HZ := hid hz
    have hj0 : (0 : Int) ≤ j := by omega
    have hUj := HU.out.grown hx.g
    clear hx hz
    by_cases hjn : j < n
    · have hjn' : (j : Int) < n := by omega
      have hjl : j < l.length := by omega
      obtain ⟨p', c', e', hcells⟩ := hUj
      cases e'
      obtain ⟨g, off, rfl, -, y0, y1, y2⟩ := hcells j hjl
      clear hcells
      have hAj := HA.out j (by omega)
      have HCall := hid (fun W (hW : XM W W B X (updsM o M l j)) => xupdate X B o l[j].1 l[j].2.1 l[j].2.2 W (updsM o M l j) T _ hW (HT.out _ hAj) hT2 hAj.inv (HL.out _ (List.getElem_mem hjl)))
      have HSucc := hid (updsM_succ o M l j hjl)
      have HStop := hid (updsV_stop o l M j hjl (fun q hq => HZ.out q hq (by omega)))
      have HZ2 := hid (show (updV (updsM o M l j) o l[j].1 l[j].2.1 l[j].2.2).1 = 0 → ∀ q (hq : q < j + 1) (hq' : q < l.length), (updV (updsM o M l q) o l[q].1 l[q].2.1 l[q].2.2).1 = 0 from fun e q hq hq' => by
        by_cases eq : q = j
        · subst eq; exact e
        · exact HZ.out q (by omega) hq')
      clear hAj
      have HNo := hid (updV_no (M := updsM o M l j) (o := o) (t := l[j].1) (i := l[j].2.1) (n := l[j].2.2))
      obtain ⟨r, hr⟩ : ∃ r, updV (updsM o M l j) o l[j].1 l[j].2.1 l[j].2.2 = r := ⟨_, rfl⟩
      rw [hr] at HCall HSucc HStop HZ2 HNo
      obtain ⟨cc, M'⟩ := r
      generalize l[j] = u at y0 y1 y2 HCall
      obtain ⟨ut, ui, un⟩ := u
      simp only at HCall HSucc HStop HZ2 HNo y0 y1 y2
      clear hr
      by_cases hcc : cc = 0
      · subst hcc
        go_wp2_with (go_at_call 97; refine (HCall.out _ (HX.out.more (World.grownBy_alloc wr _ none)).here).mono ?_; rintro e w2 ⟨rfl, h2⟩; have H2 := hid ((HX.out.more (World.grownBy_alloc wr _ none)).step h2); clear h2)
        go_roundw
        case rel => exact ⟨j + 1, by go_num, by omega, by rw [HSucc.out]; exact H2.out, HZ2.out trivial⟩
        case measure => simp [intOf]; omega
      · have hcb : (cc != 0) = true := by simp [hcc]
        have HS2 := hid (HStop.out hcc); have HN2 := hid (HNo.out hcc)
        go_wp2_with (go_at_call 97; refine (HCall.out _ (HX.out.more (World.grownBy_alloc wr _ none)).here).mono ?_; rintro e w2 ⟨rfl, h2⟩; have H2 := hid ((HX.out.more (World.grownBy_alloc wr _ none)).step h2); clear h2)
        go_returns
        exact ⟨by rw [HS2.out]; rfl, by rw [HS2.out]; simp only; rw [← HN2.out]; exact H2.out⟩
    · obtain rfl : j = n := by omega
      have hge : (j : Int) ≤ j := by omega
      have HEnd := hid (updsV_end o l M (fun q hq => HZ.out q (by omega) hq))
      clear hUj
      go_wp2
      go_returns
      exact ⟨by rw [HEnd.out, hn]; rfl, by rw [HEnd.out, hn]; exact HX.out⟩
theorem xDrop (X B : Nat) (o : Int) (w : World) (M : Mach) (sp : Nat → Sp) (E : Cnt) (T : Int) (pv : Nat → Value) (h : PS w B X M sp pv) (hA : All M sp E) (hT : ∀ A sp', All A sp' E → A.ok T) (hT2 : T + 20000 < 4611686018427387904) :
    Calls Try.prog 45 #[.pointer (some ⟨X, 0, none⟩), .int .i64 o] w fun e w' => e = .returned (.int .i64 (dropV M sp o).1) ∧ XL w w' B X pv (dropV M sp o).2.1 (dropV M sp o).2.2 := by
  unfold dropV
  cases hd : domOk o with
  | false => rw [if_pos rfl]; exact xDrop_dom X B o w M sp pv h hd
  | true =>
    rw [if_neg (by simp)]
    obtain ⟨d, rfl, hd8⟩ := domOk_nat hd
    simp only [Int.toNat_natCast]
    have hlen : (sp d).pins.length ≤ 256 := hA.len hd8
    refine xDrop_yes X B d w (fun j => dropM M ((sp d).pins.take j)) _ sp _ pv _ h hd8 (by omega) (fun j hj W hW => ?_) fun W pv' hP => ?_
    · have hAj := hA.dropped hd8 j (by omega)
      have hAj1 := hA.dropped hd8 (j + 1) (by omega)
      have hdr : (sp d).pins.drop j = (sp d).pins[j] :: (sp d).pins.drop (j + 1) := List.drop_eq_getElem_cons hj
      have hsp := (hAj.sp d hd8).pins (sp d).pins[j] (by rw [upS_same]; simp only; rw [hdr]; exact .head _)
      obtain ⟨⟨p0, p1⟩, hlv⟩ := hsp
      have e1 := outF_change (sp := upS sp d { sp d with pins := (sp d).pins.drop j }) (E := E) (d := d) (s' := { sp d with pins := (sp d).pins.drop (j + 1) }) hd8 [((sp d).pins[j].1.toNat, (sp d).pins[j].2.toNat + 1)] [] (fun x => by
        rw [upS_same]
        simp only [spK, pinK]
        rw [hdr]
        simp only [List.count_append, List.map_cons, List.count_cons, List.count_nil]
        omega)
      rw [Cnt.plus_nil, Cnt.plus_one] at e1
      have hinv := hAj.inv
      rw [← e1] at hinv
      have hok := hT _ _ hAj
      have hs := dropM_succ M (sp d).pins j hj
      try simp only
      rw [hs]
      generalize (sp d).pins[j] = q at *
      obtain ⟨a, lv⟩ := q
      simp only at p0 p1 hlv hinv ⊢
      obtain ⟨k, rfl⟩ := Int.eq_ofNat_of_zero_le p0
      simp only [Int.toNat_natCast] at hinv ⊢
      exact xunpin hlv hW fun W' hW' => xunref hlv hinv p1 hW' hok (by omega)
    · have hP' := hP
      simp only [List.take_length] at hP'
      have hAd := hA.dropS hd8
      refine xBase X B d (-1) W _ T _ _ pv' hP' (hT _ _ hAd) hT2 hAd.inv fun e he hr => ?_
      have hq := (hAd.sp e he).root hr
      refine ⟨Mach.is_iff.2 hq, ?_⟩
      obtain ⟨s, hs⟩ : ∃ s, upS sp d { sp d with pins := [] } = s := ⟨_, rfl⟩
      rw [hs] at hr ⊢
      refine ⟨outF (upS s e { s e with root := -1 }) E, ?_⟩
      have := outF_change (sp := s) (E := E) (d := e) (s' := { s e with root := -1 }) he (rootK (s e).root) [] (fun x => by
        simp only [spK, List.count_append, rootK]
        simp)
      rw [Cnt.plus_nil] at this
      rw [← this, show rootK (s e).root = [((s e).root.toNat, 3)] from if_neg hr, Cnt.plus_one]
end Go.Proofs.Ytemeihamkdpmoaa

/-
  Package tenementref05: Update, over one change's contract.
-/
set_option linter.unusedSimpArgs false
set_option linter.unusedVariables false
namespace Go.Proofs.Ytemeihamkdpmoaa
open Go.RowKit
set_option maxHeartbeats 4000000

/-- a slice of changes, out of the blocks S -/
def UpdsIn (w : World) (S : Nat → Prop) (v : Value) (l : List Upd) : Prop :=
  ∃ p c, v = .slice p l.length c ∧ ∀ j (hj : j < l.length), ∃ g o, p = some ⟨g, o, none⟩ ∧ ¬ S g ∧ w.cell? ⟨g, o + j * 3, none⟩ = some (.int .i64 l[j].1) ∧ w.cell? ⟨g, o + j * 3 + 1, none⟩ = some (.int .i64 l[j].2.1) ∧ w.cell? ⟨g, o + j * 3 + 2, none⟩ = some (.int .u32 l[j].2.2)
theorem UpdsIn.chg {w w' : World} {S : Nat → Prop} {v : Value} {l : List Upd} (h : UpdsIn w S v l) (hc : Chg S w w') : UpdsIn w' S v l := by
  obtain ⟨p, c, rfl, h⟩ := h
  refine ⟨p, c, rfl, fun j hj => ?_⟩
  obtain ⟨g, o, rfl, hb, h0, h1, h2⟩ := h j hj
  exact ⟨g, o, rfl, hb, hc.cell h0 hb, hc.cell h1 hb, hc.cell h2 hb⟩
theorem YM.hereU {w0 w : World} {b Y : Nat} {S : Nat → Prop} {M : Mach} (h : YM w0 w b Y S M) : YM w w b Y (fun k => S k ∨ w0.heap.size ≤ k) M := by
  obtain ⟨L, hL, hf⟩ := h.r
  exact ⟨⟨L, hL, fun k hk => .inl (hf k hk)⟩, h.y, Chg.refl _ _, fun e => e.elim h.yS fun e => by have := h.yl; omega, Nat.lt_of_lt_of_le h.yl h.c.size⟩
theorem YM.after {w0 w w' : World} {b Y : Nat} {S : Nat → Prop} {M M' : Mach} (h : YM w0 w b Y S M) (k : YM w w' b Y (fun k => S k ∨ w0.heap.size ≤ k) M') : YM w0 w' b Y S M' := by
  obtain ⟨L, hL, hf⟩ := k.r
  refine ⟨⟨L, hL, fun q hq => ?_⟩, k.y, h.c.trans k.c fun _ e => e, h.yS, h.yl⟩
  rcases hf q hq with e | e
  · exact e
  · exact .inr (Nat.le_trans h.c.size e)
set_option maxRecDepth 100000 in
theorem yUpdate_of (b Y : Nat) (o : Int) (v : Value) (l : List Upd) (w : World) (S : Nat → Prop) (M : Mach) (h : YM w w b Y S M) (hu : UpdsIn w S v l) (hlen : l.length ≤ 140737488355328)
    (hup : ∀ j (hj : j < l.length), YCall 111 #[.pointer (some ⟨Y, 0, none⟩), .int .i64 o, .agg #[.int .i64 l[j].1, .int .i64 l[j].2.1, .int .u32 l[j].2.2]] b Y (updsM o M l j) (.returned (.int .i64 (updV (updsM o M l j) o l[j].1 l[j].2.1 l[j].2.2).1)) (updV (updsM o M l j) o l[j].1 l[j].2.1 l[j].2.2).2) :
    Calls Try.prog 87 #[.pointer (some ⟨Y, 0, none⟩), .int .i64 o, v] w fun e w' => e = .returned (.tuple #[.int .i64 (updsV o M l).1, .int .i64 (updsV o M l).2.1]) ∧ YM w w' b Y S (updsV o M l).2.2 := by
  obtain ⟨p, c, rfl, hu⟩ := hu
  have HU := hid (show UpdsIn w S (.slice p l.length c) l from ⟨p, c, rfl, hu⟩)
  have H0 := hid h
  have HUP := hid hup
  clear h hu hup
  obtain ⟨n, hn⟩ : ∃ n, l.length = n := ⟨_, rfl⟩
  rw [hn] at hlen
  rw [hn]
  go_enter Try.func87, Try.ntmps87
  go_wp2
  go_loopw [8] (fun x wr => ∃ j : Nat, x = .int .i64 j ∧ j ≤ n ∧ YM w wr b Y S (updsM o M l j) ∧ ∀ q (hq : q < j) (hq' : q < l.length), (updV (updsM o M l q) o l[q].1 l[q].2.1 l[q].2.2).1 = 0) (fun x _ => n - (intOf x).toNat)
  case atStart => exact ⟨0, rfl, by omega, H0.out, fun q hq => by omega⟩
  case round =>
    obtain ⟨j, rfl, hj, hx, hz⟩ := hrel
    have HX := hid hx; have HZ := hid hz
    have hj0 : (0 : Int) ≤ j := by omega
    have hUj := HU.out.chg hx.c
    clear hx hz
    by_cases hjn : j < n
    · have hjn' : (j : Int) < n := by omega
      have hjl : j < l.length := by omega
      obtain ⟨p', c', e', hcells⟩ := hUj
      cases e'
      obtain ⟨g, off, rfl, -, y0, y1, y2⟩ := hcells j hjl
      clear hcells
      have HCall := hid (HUP.out j hjl)
      have HSucc := hid (updsM_succ o M l j hjl)
      have HStop := hid (updsV_stop o l M j hjl (fun q hq => HZ.out q hq (by omega)))
      have HZ2 := hid (show (updV (updsM o M l j) o l[j].1 l[j].2.1 l[j].2.2).1 = 0 → ∀ q (hq : q < j + 1) (hq' : q < l.length), (updV (updsM o M l q) o l[q].1 l[q].2.1 l[q].2.2).1 = 0 from fun e q hq hq' => by
        by_cases eq : q = j
        · subst eq; exact e
        · exact HZ.out q (by omega) hq')
      have HNo := hid (updV_no (M := updsM o M l j) (o := o) (t := l[j].1) (i := l[j].2.1) (n := l[j].2.2))
      obtain ⟨r, hr⟩ : ∃ r, updV (updsM o M l j) o l[j].1 l[j].2.1 l[j].2.2 = r := ⟨_, rfl⟩
      rw [hr] at HCall HSucc HStop HZ2 HNo
      obtain ⟨cc, M'⟩ := r
      generalize l[j] = u at y0 y1 y2 HCall
      obtain ⟨ut, ui, un⟩ := u
      simp only at HCall HSucc HStop HZ2 HNo y0 y1 y2
      clear hr
      by_cases hcc : cc = 0
      · subst hcc
        go_wp2_with (go_at_call 111; refine (HCall.out _ _ HX.out.hereU).mono ?_; rintro e w2 ⟨rfl, h2⟩; have H2 := hid (HX.out.after h2); clear h2)
        go_roundw
        case rel => exact ⟨j + 1, by go_num, by omega, by rw [HSucc.out]; exact H2.out, HZ2.out trivial⟩
        case measure => simp [intOf]; omega
      · have hcb : (cc != 0) = true := by simp [hcc]
        have HS2 := hid (HStop.out hcc); have HN2 := hid (HNo.out hcc)
        go_wp2_with (go_at_call 111; refine (HCall.out _ _ HX.out.hereU).mono ?_; rintro e w2 ⟨rfl, h2⟩; have H2 := hid (HX.out.after h2); clear h2)
        go_returns
        exact ⟨by rw [HS2.out]; rfl, by rw [HS2.out]; simp only; rw [← HN2.out]; exact H2.out⟩
    · obtain rfl : j = n := by omega
      have hge : (j : Int) ≤ j := by omega
      have HEnd := hid (updsV_end o l M (fun q hq => HZ.out q (by omega) hq))
      clear hUj
      go_wp2
      go_returns
      exact ⟨by rw [HEnd.out, hn]; rfl, by rw [HEnd.out, hn]; exact HX.out⟩
end Go.Proofs.Ytemeihamkdpmoaa

/-
  Contracts of package tenementref01: Write.
-/
set_option linter.unusedSimpArgs false
set_option linter.unusedVariables false
namespace Go.Proofs.Ytemeihamkdpmoaa
open Go.RowKit
set_option maxHeartbeats 400000

theorem laid_at (f : Fr) (off : Nat) (l : List UInt8) (k : Nat) (hk : k < l.length) : (f.laid off (l.take (k + 1))).bs (off + k) = l.getD k 0 := by
  have h1 : (l.take (k + 1)).length = k + 1 := by simp; omega
  unfold Fr.laid
  simp only [h1]
  rw [if_pos (by omega), show off + k - off = k by omega]
  simp [List.getD, List.getElem?_take]
theorem laid_else (f : Fr) (off : Nat) (l : List UInt8) (k q : Nat) (hk : k < l.length) (hq : q ≠ off + k) : (f.laid off (l.take (k + 1))).bs q = (f.laid off (l.take k)).bs q := by
  have h1 : (l.take (k + 1)).length = k + 1 := by simp; omega
  have h2 : (l.take k).length = k := by simp; omega
  unfold Fr.laid
  simp only [h1, h2]
  by_cases h : off ≤ q ∧ q < off + k
  · rw [if_pos (by omega), if_pos h]
    have e1 : q - off < k + 1 := by omega
    have e2 : q - off < k := by omega
    simp [List.getD, List.getElem?_take, e1, e2]
  · rw [if_neg (by omega), if_neg h]
theorem laid_hd (f : Fr) (off : Nat) (l : List UInt8) (q : Nat) (hq : q < 4) : (f.laid off l).cell q = f.cell q := by
  match q, hq with
  | 0, _ => rfl
  | 1, _ => rfl
  | 2, _ => rfl
  | 3, _ => rfl
/-- bytes that lie apart from the ref machine -/
def Apart (w : World) (L : Lay) (b : Nat) (pa : Option Addr) (l : List UInt8) : Prop :=
  ∀ k, k < l.length → ∃ sb so, pa = some ⟨sb, so, none⟩ ∧ ¬ L.foot b sb ∧ w.cell? ⟨sb, so + k, none⟩ = some (.int .u8 (l.getD k 0).toNat)
theorem write_step {w : World} {b j off k : Nat} {M : Mach} {L : Lay} {l : List UInt8} (h : RM w b (M.upd j ((M.fr j).laid off (l.take k))) L) (hj : j < L.n) (hk : k < l.length) :
    RM (w.setCell ⟨L.g j, off + k, none⟩ (.int .u8 (l.getD k 0).toNat)) b (M.upd j ((M.fr j).laid off (l.take (k + 1)))) L := by
  have := h.setByte hj (k := off + k) (x := l.getD k 0) (f := (M.fr j).laid off (l.take (k + 1))) (laid_at _ _ _ _ hk) (fun q _ hq => by rw [Mach.upd_same]; exact laid_else _ _ _ _ _ hk hq) (fun q hq => by rw [Mach.upd_same, laid_hd _ _ _ _ hq, laid_hd _ _ _ _ hq])
  rwa [Mach.upd_upd] at this
theorem chgG {L : Lay} {b j : Nat} (hj : j < L.n) (w : World) (k : Nat) (v : Value) : Chg (L.foot b) w (w.setCell ⟨L.g j, k, none⟩ v) := Chg.of (grownBy_setCell w (L.g j) k none v) fun i e => .inl (.inr (.inr (.inr ⟨j, hj, (Option.some.inj e).symm⟩)))

theorem rWrite (b : Nat) (i off : Int) (pa : Option Addr) (cap : Nat) (l : List UInt8) (w : World) (M : Mach) (L : Lay) (h : RM w b M L) (hmax : l.length ≤ 9223372036854775807) (hl : Apart w L b pa l) :
    Calls Try.prog 70 #[.pointer (some ⟨b, 0, none⟩), .int .i64 i, .int .i64 off, .slice pa l.length cap] w (RLeft b L w (M.write i off l).1 (M.write i off l).2) := by
  have HM := hid h
  have HA := hid hl
  have hmax' : (l.length : Int) ≤ 9223372036854775807 := by omega
  clear hl
  by_cases hbad : M.is i = false ∨ inP off l.length = false
  · have H := hid (show M.write i off l = (1, M) by
      rcases hbad with e | e
      · simp [Mach.write, e]
      · simp [Mach.write, e])
    go_enter Try.func70, Try.ntmps70
    go_wp2_with (go_at_call 107; refine (In_no _ _ _ _ _ _ _ HM.out hmax' hbad).mono ?_; rintro e w' ⟨rfl, rfl⟩)
    go_ret
    rw [H.out]
    exact RLeft.same HM.out
  have his : M.is i = true := by cases e : M.is i with | true => rfl | false => exact absurd (.inl e) hbad
  have hin : inP off l.length = true := by cases e : inP off l.length with | true => rfl | false => exact absurd (.inr e) hbad
  obtain ⟨i0, i1⟩ := Mach.is_iff.1 his
  obtain ⟨p0, p1, p2⟩ := inP_iff.1 hin
  obtain ⟨j, rfl⟩ := Int.eq_ofNat_of_zero_le i0
  obtain ⟨q, rfl⟩ := Int.eq_ofNat_of_zero_le p0
  have hj : j < L.n := by have := h.hn; omega
  have hp : q + l.length ≤ 256 := by omega
  have hj' : (j : Int) < L.n := by omega
  have c0 := h.slF
  have hown := h.owner hj
  clear hbad h
  by_cases hfree : (M.fr j).owner = -1
  · have H := hid (show M.write j q l = (11, M) by simp [Mach.write, his, hin, hfree])
    rw [hfree] at hown
    clear his hin hfree i1 p1 p2
    go_enter Try.func70, Try.ntmps70
    go_wp2_with (go_at_call 107; refine (In_yes _ _ _ _ _ _ _ HM.out hj hp).mono ?_; rintro e w' ⟨rfl, rfl⟩)
    go_ret
    rw [H.out]
    exact RLeft.same HM.out
  · have hfb : ((M.fr j).owner == -1) = false := by simp [hfree]
    have H := hid (show M.write j q l = (0, M.upd j ((M.fr j).laid q l)) by simp [Mach.write, his, hin, hfree])
    clear his hin hfree i1 p1 p2
    go_enter Try.func70, Try.ntmps70
    go_wp2_with (go_at_call 107; refine (In_yes _ _ _ _ _ _ _ HM.out hj hp).mono ?_; rintro e w' ⟨rfl, rfl⟩)
    clear c0 hown
    go_loopw [9] (fun i wr => ∃ k : Nat, i = .int .i64 k ∧ k ≤ l.length ∧ RM wr b (M.upd j ((M.fr j).laid q (l.take k))) L ∧ Chg (L.foot b) w wr) (fun i _ => l.length - (intOf i).toNat)
    case atStart => exact ⟨0, rfl, by omega, by rw [List.take_zero, laid_nil]; exact HM.out, Chg.refl _ _⟩
    case round =>
      obtain ⟨k, rfl, hk, hM, hc⟩ := hrel
      by_cases hlt : k < l.length
      · have hlt' : (k : Int) < l.length := by omega
        have hk0 : (0 : Int) ≤ k := by omega
        obtain ⟨sb, so, rfl, hsb, hcell⟩ := HA.out k hlt
        have cs := hc.cell hcell hsb
        have HS := hid hM; have HC := hid hc
        have c0 := hM.slB; have c1 := hM.sl hj; have c2 := hM.byte hj (k := q + k) (by omega); have f2 := (hM.row j hj).frozen (q + k)
        have hX := write_step hM hj hlt
        generalize l.getD k 0 = x at cs hX
        have HX := hid hX
        have hqk : (q : Int) + k < 256 := by omega
        have hqk0 : (0 : Int) ≤ (q : Int) + k := by omega
        clear hcell hM hc hX
        go_wp2
        go_region
        all_goals go_wp2
        all_goals go_roundw
        case rel => exact ⟨k + 1, by go_num, by omega, HX.out.grown (grownBy_drew _ none), (HC.out.trans (chgG hj _ _ _) (fun _ h => .inl h)).trans (Chg.of0 (S := L.foot b) (grownBy_drew _ none)) (fun _ h => .inl h)⟩
        case measure => simp [intOf]; omega
      · have hge : (l.length : Int) ≤ k := by omega
        obtain rfl : k = l.length := by omega
        have HS := hid hM; have HC := hid hc
        clear hM hc
        go_wp2
        go_ret
        rw [H.out]
        exact ⟨rfl, L, by have := HS.out; rwa [List.take_length] at this, rfl, HC.out, fun _ h => .inl h⟩
end Go.Proofs.Ytemeihamkdpmoaa

/-
  Contracts of package tenementref01: New.
-/
set_option linter.unusedSimpArgs false
set_option linter.unusedVariables false
namespace Go.Proofs.Ytemeihamkdpmoaa
open Go.RowKit
set_option maxHeartbeats 400000

theorem info_frame : (Try.prog.info? 93).map (fun i => (i.zero, i.size, i.bytes)) = some (some (.agg #[.int .i64 0, .int .i64 0, .int .i64 0, .int .i64 0]), 4, 32) := by kernel_rfl
theorem info_bytes : (Try.prog.info? 31).map (fun i => (i.zero, i.size, i.bytes)) = some (some (.slice none 0 0), 1, 24) := by kernel_rfl
/-- k frames' numbers, all free -/
def frs (k : Nat) : List Value := (List.range (k * 4)).map fun q => blankFr.cell (q % 4)
theorem frs_succ (k : Nat) : frs (k + 1) = frs k ++ [.int .i64 (-1), .int .i64 0, .int .i64 0, .int .i64 0] := by
  unfold frs
  rw [show (k + 1) * 4 = k * 4 + 1 + 1 + 1 + 1 by omega]
  simp only [List.range_succ, List.map_append, List.map_cons, List.map_nil, List.append_assoc, List.cons_append, List.nil_append]
  rw [show (k * 4) % 4 = 0 by omega, show (k * 4 + 1) % 4 = 1 by omega, show (k * 4 + 1 + 1) % 4 = 2 by omega, show (k * 4 + 1 + 1 + 1) % 4 = 3 by omega]
  rfl
theorem frs_len (k : Nat) : (frs k).length = k * 4 := by simp [frs]
/-- k slices of bytes -/
def sls (g cg : Nat → Nat) (k : Nat) : List Value := (List.range k).map fun i => .slice (some ⟨g i, 0, none⟩) 256 (cg i)
theorem sls_succ (g cg : Nat → Nat) (k G c : Nat) : sls (fun j => if j = k then G else g j) (fun j => if j = k then c else cg j) (k + 1) = sls g cg k ++ [.slice (some ⟨G, 0, none⟩) 256 c] := by
  unfold sls
  rw [List.range_succ, List.map_append]
  congr 1
  · refine List.map_congr_left fun i hi => ?_
    have : i ≠ k := by have := List.mem_range.1 hi; omega
    simp [this]
  · simp
theorem sls_len (g cg : Nat → Nat) (k : Nat) : (sls g cg k).length = k := by simp [sls]
def top2 (vF vB : Value) : Nat → Value
  | 0 => vF
  | _ => vB
/-- a slice that owns a row is one head of a block -/
theorem ownsRow_row {W : World} {base : Nat} {e : TypeId} {size n : Nat} {v : Value} {xs : List Value} (h : W.ownsRow base e size v (n + 1) xs) :
    ∃ g c, v = .slice (some ⟨g, 0, none⟩) (n + 1) c ∧ base ≤ g ∧ Row W g e ((n + 1) * size) (fun k => xs.getD k undef) := by
  rcases h.2 with ⟨_, h0⟩ | ⟨g, cap, cur, rfl, hb, hg, hn, hcap, hsz, htake⟩
  · omega
  · refine ⟨g, cap, rfl, hb, cur, hg, ?_, fun k hk => ?_⟩
    · rw [hsz]; exact Nat.mul_le_mul_right _ hn
    · have hl := h.1
      have h1 : (cur.toList.take ((n + 1) * size))[k]? = xs[k]? := by rw [htake]
      rw [List.getElem?_take, if_pos hk] at h1
      have hx : k < xs.length := by omega
      rw [List.getElem?_eq_getElem hx] at h1
      simpa [List.getD, List.getElem?_eq_getElem hx] using h1

theorem none_row' (v : Value) : v.ownBlock = none ∨ v.ownBlock ≠ none := by cases v.ownBlock <;> simp
theorem own_ne_row {W : World} {base : Nat} {e : TypeId} {size n : Nat} {v : Value} {xs : List Value} (h : W.ownsRow base e size v n xs) {x : Nat} {t : TypeId} {N : Nat} {X : Nat → Value} (hr : Row W x t N X) (ht : t ≠ e) : some x ≠ v.ownBlock := by
  intro e'
  rcases h.2 with ⟨rfl, _⟩ | ⟨g, cap, cur, rfl, _, hg, _⟩
  · simp [Value.ownBlock] at e'
  · obtain rfl : x = g := by simpa [Value.ownBlock] using e'
    obtain ⟨c, hc, _⟩ := hr
    rw [hc] at hg; cases hg; exact ht rfl
theorem own_ne_own {W : World} {base base' : Nat} {e e' : TypeId} {size size' n n' : Nat} {v v' : Value} {xs xs' : List Value} (h : W.ownsRow base e size v n xs) (h' : W.ownsRow base' e' size' v' n' xs') (ht : e ≠ e') : v.ownBlock = none ∨ v.ownBlock ≠ v'.ownBlock := by
  rcases h.2 with ⟨rfl, _⟩ | ⟨g, cap, cur, rfl, _, hg, _⟩
  · exact .inl rfl
  · refine .inr fun e0 => ?_
    rcases h'.2 with ⟨rfl, _⟩ | ⟨g', cap', cur', rfl, _, hg', _⟩
    · simp [Value.ownBlock] at e0
    · obtain rfl : g = g' := by simpa [Value.ownBlock] using e0
      rw [hg] at hg'; cases hg'; exact ht rfl
/-- New (and Copy) under way: kF frames, kB rows of bytes; f i are the bytes -/
structure NewSt (w W : World) (b kF kB : Nat) (fc : Nat → List Value) (f : Nat → Fr) (g cg : Nat → Nat) (vF vB : Value) : Prop where
  top : Row W b 122 2 (top2 vF vB)
  fr : W.ownsRow (b + 1) 93 4 vF kF (fc kF)
  bs : W.ownsRow (b + 1) 31 1 vB kB (sls g cg kB)
  row : ∀ i, i < kB → Row W (g i) 5 256 (byt (f i)) ∧ b < g i
  cap : ∀ i, i < kB → 256 ≤ cg i
  inj : ∀ i j, i < kB → j < kB → g i = g j → i = j
  hb : w.heap.size ≤ b
  grown : w.grownBy W none
theorem NewSt.ext {w W X : World} {b kF kB : Nat} {fc : Nat → List Value} {f : Nat → Fr} {g cg : Nat → Nat} {vF vB : Value} (h : NewSt w W b kF kB fc f g cg vF vB) (hX : W.grownBy X none) : NewSt w X b kF kB fc f g cg vF vB :=
  ⟨h.top.grown hX (by simp), h.fr.kept hX (none_row' _), h.bs.kept hX (none_row' _), fun i hi => ⟨(h.row i hi).1.grown hX (by simp), (h.row i hi).2⟩, h.cap, h.inj, h.hb, h.grown.trans hX⟩
theorem NewSt.stepF {w X w1 : World} {b kF kB m : Nat} {fc : Nat → List Value} {f : Nat → Fr} {g cg : Nat → Nat} {vF vB v' : Value} (h : NewSt w X b kF kB fc f g cg vF vB) (hgrow : X.grownBy w1 vF.ownBlock)
    (hown : w1.ownsRow (b + 1) 93 4 v' m (fc m)) : NewSt w (w1.setCell ⟨b, 0, none⟩ v') b m kB fc f g cg v' vB := by
  have h1 := h.top.grown hgrow (own_ne_row h.fr h.top (by decide))
  have hB := h.bs.kept hgrow (own_ne_own h.bs h.fr (by decide))
  have hs := grownBy_setCell w1 b 0 none v'
  refine ⟨h1.set rfl fun j hj h0 => ?_, hown.kept hs (own_ne hown (by omega)), hB.kept hs (own_ne hB (by omega)), fun i hi => ⟨?_, (h.row i hi).2⟩, h.cap, h.inj, h.hb, (h.grown.andThen hgrow fun j e => .inl ?_).andThen hs fun j e => .inl ?_⟩
  · match j, h0 with
    | 0, h0 => exact absurd rfl h0
    | j + 1, _ => rfl
  · have := (h.row i hi).2
    exact ((h.row i hi).1.grown hgrow (own_ne_row h.fr (h.row i hi).1 (by decide))).grown hs (by simp; omega)
  · have := (h.fr.lt j e).1; have := h.hb; omega
  · cases e; exact h.hb
theorem NewSt.stepB {w X w1 : World} {b kF k Z c : Nat} {fc : Nat → List Value} {f : Nat → Fr} {g cg : Nat → Nat} {vF vB v' : Value} (h : NewSt w X b kF k fc f g cg vF vB) (hZ : Row X Z 5 256 (byt (f k))) (hbZ : b < Z) (hZg : ∀ i, i < k → g i ≠ Z) (hc : 256 ≤ c)
    (hgrow : X.grownBy w1 vB.ownBlock) (hown : w1.ownsRow (b + 1) 31 1 v' (k + 1) (sls g cg k ++ [.slice (some ⟨Z, 0, none⟩) 256 c])) :
    NewSt w (w1.setCell ⟨b, 1, none⟩ v') b kF (k + 1) fc f (fun j => if j = k then Z else g j) (fun j => if j = k then c else cg j) vF v' := by
  have h1 := h.top.grown hgrow (own_ne_row h.bs h.top (by decide))
  have hF := h.fr.kept hgrow (own_ne_own h.fr h.bs (by decide))
  have hs := grownBy_setCell w1 b 1 none v'
  have hrow : ∀ x f', Row X x 5 256 (byt f') → b < x → Row (w1.setCell ⟨b, 1, none⟩ v') x 5 256 (byt f') := fun x f' hx hbx => (hx.grown hgrow (own_ne_row h.bs hx (by decide))).grown hs (by simp; omega)
  refine ⟨h1.set rfl fun j hj h0 => ?_, hF.kept hs (own_ne hF (by omega)), by rw [sls_succ]; exact hown.kept hs (own_ne hown (by omega)), fun i hi => ?_, fun i hi => ?_, fun i j hi hj e => ?_, h.hb, (h.grown.andThen hgrow fun j e => .inl ?_).andThen hs fun j e => .inl ?_⟩
  · match j, hj, h0 with
    | 0, _, _ => rfl
    | 1, _, h0 => exact absurd rfl h0
  · split
    · rename_i e; subst e; exact ⟨hrow _ _ hZ hbZ, hbZ⟩
    · exact ⟨hrow _ _ (h.row i (by omega)).1 (h.row i (by omega)).2, (h.row i (by omega)).2⟩
  · split
    · exact hc
    · exact h.cap i (by omega)
  · split at e
    · split at e
      · omega
      · exact absurd e.symm (hZg j (by omega))
    · split at e
      · exact absurd e (hZg i (by omega))
      · exact h.inj i j (by omega) (by omega) e
  · have := (h.bs.lt j e).1; have := h.hb; omega
  · cases e; exact h.hb
/-- done: a machine -/
def NewRef (w : World) (M : Mach) (v : Value) (w' : World) : Prop := ∃ b L, v = .pointer (some ⟨b, 0, none⟩) ∧ RM w' b M L ∧ w.grownBy w' none ∧ ∀ k, L.foot b k → w.heap.size ≤ k
theorem NewSt.done {w W : World} {b n : Nat} {fc : Nat → List Value} {M : Mach} {g cg : Nat → Nat} {vF vB : Value} (h : NewSt w W b (n + 1) (n + 1) fc M.fr g cg vF vB) (hn : M.n = ((n + 1 : Nat) : Int)) (hfc : ∀ k, k < (n + 1) * 4 → (fc (n + 1)).getD k undef = hd M k) :
    NewRef w M (.pointer (some ⟨b, 0, none⟩)) W := by
  obtain ⟨fF, cF, rfl, hbF, hF⟩ := ownsRow_row h.fr
  obtain ⟨fB, cB, rfl, hbB, hB⟩ := ownsRow_row h.bs
  refine ⟨b, ⟨n + 1, fF, cF, fB, cB, g, cg⟩, rfl, ⟨hn, h.top.congr fun k hk => ?_, hF.congr fun k hk => (hfc k hk).symm, ?_, fun i hi => (h.row i hi).1, h.cap, h.inj⟩, h.grown, fun k hk => ?_⟩
  · match k, hk with
    | 0, _ => rfl
    | 1, _ => rfl
  · rw [Nat.mul_one] at hB
    exact hB.congr fun k hk => by simp [bslice, sls, List.getD, hk]
  · have := h.hb
    rcases hk with rfl | rfl | rfl | ⟨i, hi, rfl⟩
    · exact h.hb
    · omega
    · omega
    · have := (h.row i hi).2; show w.heap.size ≤ g i; omega

end Go.Proofs.Ytemeihamkdpmoaa
