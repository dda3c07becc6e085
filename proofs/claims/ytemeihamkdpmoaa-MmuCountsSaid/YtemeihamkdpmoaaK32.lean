/-
  Package tenementlaw05: entries (the references of a table's entries, counted).
-/
import Derived.Test.YtemeihamkdpmoaaK31
import Derived.Deep.RegionHeld3
import Derived.Deep.RegionWith
set_option linter.unusedSimpArgs false
set_option linter.unusedVariables false
namespace Go.Proofs.Ytemeihamkdpmoaa
open Go.RowKit
set_option maxHeartbeats 2000000

/-- counts laid out four by four -/
def cnt4 (N : Cnt) (q : Nat) : Value := .int .i64 (N (q / 4) (q % 4) : Nat)
/-- an entry's reference as it is counted: what leads beyond the frames is not -/
def rg (lv n : Nat) : Option (Nat × Nat) := if (unpackV n).2 = 0 ∧ (unpackV n).1.p = true ∧ (unpackV n).1.mfn < 10 then some ((unpackV n).1.mfn.toNat, if lv = 2 then 2 else kindOf (unpackV n).1.w) else none
def Mach.regs (M : Mach) (lv t k : Nat) : List (Nat × Nat) := (List.range k).flatMap fun j => (rg lv (M.word t j)).toList
theorem Mach.regs_succ (M : Mach) (lv t k : Nat) : M.regs lv t (k + 1) = M.regs lv t k ++ (rg lv (M.word t k)).toList := by
  simp [Mach.regs, List.range_succ]
theorem rg_good {M : Mach} {o : Int} {lv n : Nat} (hn : M.n = 10) (h : good M o n) : rg lv n = rf lv n := by
  unfold rg rf
  by_cases hp : (unpackV n).1.p = true
  · have h1 := (h.2 hp).1
    have h0 := unpackV_mfn n
    rw [if_pos hp, if_pos ⟨h.1, hp, by omega⟩]
  · rw [if_neg hp, if_neg (fun e => hp e.2.1)]
theorem regs_good {M : Mach} {o : Int} {lv t : Nat} (hn : M.n = 10) : ∀ k, (∀ j, j < k → good M o (M.word t j)) → M.regs lv t k = M.refs lv t k
  | 0, _ => rfl
  | k + 1, h => by rw [Mach.regs_succ, Mach.refs_succ, regs_good hn k fun j hj => h j (by omega), rg_good hn (h k (by omega))]
theorem regs_len (M : Mach) (lv t : Nat) : ∀ k (x : Nat × Nat), (M.regs lv t k).count x ≤ k
  | 0, _ => by simp [Mach.regs]
  | k + 1, x => by
    have ih := regs_len M lv t k x
    have h1 : (rg lv (M.word t k)).toList.count x ≤ 1 := by
      refine Nat.le_trans (List.count_le_length) ?_
      cases rg lv (M.word t k) <;> simp
    rw [Mach.regs_succ, List.count_append]; omega
theorem cnt4_add {N : Cnt} {W : World} {NB : Nat} {i k : Nat} (hi : i < 10) (hk : k < 4) (h : Row W NB 96 40 (cnt4 N)) : Row (W.setCell ⟨NB, i * 4 + k, none⟩ (.int .i64 ((N i k : Nat) + 1))) NB 96 40 (cnt4 (N.add i k)) := by
  refine h.set (k := i * 4 + k) ?_ fun j hj hne => ?_
  · unfold cnt4
    rw [show (i * 4 + k) / 4 = i by omega, show (i * 4 + k) % 4 = k by omega, Cnt.add_at]; rfl
  · unfold cnt4
    rw [Cnt.add_ne _ _ _ _ _ (by omega)]
theorem cnt4_cell {N : Cnt} {W : World} {NB i k : Nat} (hi : i < 10) (hk : k < 4) (h : Row W NB 96 40 (cnt4 N)) : W.cell? ⟨NB, i * 4 + k, none⟩ = some (.int .i64 (N i k : Nat)) := by
  rw [h.cell (k := i * 4 + k) (by omega)]
  unfold cnt4
  rw [show (i * 4 + k) / 4 = i by omega, show (i * 4 + k) % 4 = k by omega]
theorem grownAny {w w' : World} (h : w.grownBy w' none) (row : Option Nat) : w.grownBy w' row := ⟨h.os, h.tape, h.output, h.size, fun k hk _ => h.block k hk (by simp)⟩
def entC (p q : Bool) (m : Int) : Nat → Value
  | 0 => .bool p
  | 1 => .bool q
  | _ => .int .i64 m
theorem entRow (w : World) (p q : Bool) (m : Int) : Row (w.alloc (.cells #[.bool p, .bool q, .int .i64 m] 57)) w.heap.size 57 3 (entC p q m) :=
  ⟨_, heap_alloc_new w _, by simp, fun k hk => by
    match k, hk with
    | 0, _ => rfl
    | 1, _ => rfl
    | 2, _ => rfl⟩
theorem rowEnt0 (w : World) : ∃ W, w.alloc (.cells #[.bool false, .bool false, .int .i64 0] 57) = W ∧ w.grownBy W none ∧ Row W w.heap.size 57 3 (entC false false 0) :=
  ⟨_, rfl, World.grownBy_alloc _ _ _, entRow w false false 0⟩
theorem Row.ent3 {w : World} {E : Nat} {p q : Bool} {m : Int} (h : Row w E 57 3 (entC p q m)) (p' q' : Bool) (m' : Int) : Row (((w.setCell ⟨E, 0, none⟩ (.bool p')).setCell ⟨E, 1, none⟩ (.bool q')).setCell ⟨E, 2, none⟩ (.int .i64 m')) E 57 3 (entC p' q' m') := by
  have h1 := h.set (k := 0) (v := .bool p') (X' := entC p' q m) rfl (fun j _ e => by
    match j, e with
    | 0, e => exact absurd rfl e
    | 1, _ => rfl
    | k + 2, _ => rfl)
  have h2 := h1.set (k := 1) (v := .bool q') (X' := entC p' q' m) rfl (fun j _ e => by
    match j, e with
    | 0, _ => rfl
    | 1, e => exact absurd rfl e
    | k + 2, _ => rfl)
  exact h2.set (k := 2) (v := .int .i64 m') (X' := entC p' q' m') rfl (fun j hj e => by
    match j, hj, e with
    | 0, _, _ => rfl
    | 1, _, _ => rfl
    | 2, _, e => exact absurd rfl e)
theorem ent3_grown (w : World) (E : Nat) (p q : Bool) (m : Int) : w.grownBy (((w.setCell ⟨E, 0, none⟩ (.bool p)).setCell ⟨E, 1, none⟩ (.bool q)).setCell ⟨E, 2, none⟩ (.int .i64 m)) (some E) :=
  ((grownBy_setCell w E 0 none _).trans (grownBy_setCell _ E 1 none _)).trans (grownBy_setCell _ E 2 none _)
set_option maxRecDepth 100000 in
set_option maxHeartbeats 8000000 in
theorem lEntries (B NB t lv : Nat) (w : World) (M : Mach) (T : Int) (N : Cnt) (hM : PM w B M) (hok : M.ok T) (hn : M.n = 10) (ht : t < 10) (hr : Row w NB 96 40 (cnt4 N)) (hb : ∀ i k, N i k ≤ 140737488490000) (hlv : lv = 1 ∨ lv = 2) :
    Calls Try.prog 101 #[.pointer (some ⟨B, 0, none⟩), .slice (some ⟨NB, 0, none⟩) 10 10, .int .i64 t, .int .i64 lv] w fun e w' => e = .returned (.tuple #[]) ∧ Row w' NB 96 40 (cnt4 (N.plus (M.regs lv t 64))) ∧ w.grownBy w' (some NB) := by
  have HM := hid hM; have HR := hid hr; have HOk := hid hok; have HB := hid hb
  have HRd := hid (Read_yes B t 0 256 w M T hM hok (by omega) (by omega))
  clear hM hok hr hb
  go_enter Try.func101, Try.ntmps101
  go_wp2_with (go_at_call 52; refine HRd.out.mono ?_; rintro e w1 ⟨v, rfl, hnb⟩; have HNB := hid hnb; clear hnb)
  have hlen := sizedPart (M.fr t)
  obtain ⟨V, rfl, hVf, hVc, hVg⟩ := newBytes_pos HNB.out (by rw [hlen]; omega)
  rw [hlen] at hVc ⊢
  have HVc := hid (show ∀ k, k < 256 → w1.cell? ⟨V, k, none⟩ = some (.int .u8 ((M.fr t).bs k).toNat) from fun k hk => by rw [hVc k hk, part_get _ _ _ _ hk, Nat.zero_add])
  have HVg := hid hVg
  have HVN := hid (show NB < V from by have := HR.out.lt; omega)
  clear hlen hVf hVc hVg
  go_loopw [10] (fun i wr => ∃ k : Nat, i = .int .i64 (4 * (k : Int)) ∧ k ≤ 64 ∧ Row wr NB 96 40 (cnt4 (N.plus (M.regs lv t k))) ∧ w1.grownBy wr (some NB)) (fun i _ => 256 - (intOf i).toNat)
  case atStart => exact ⟨0, rfl, by omega, by simpa [Mach.regs, Cnt.plus_nil] using HR.out.grown HVg.out (by simp), World.grownBy.refl _ _⟩
  case round =>
    obtain ⟨k, rfl, hk, hrow, hg⟩ := hrel
    have HRw := hid hrow; have HG := hid hg
    clear hrow hg
    have hk0 : (0 : Int) ≤ k := by omega
    by_cases hlt : k < 64
    · have hlt' : 4 * (k : Int) + 3 < 256 := by omega
      obtain ⟨x0, h0⟩ : ∃ x, ((M.fr t).bs (4 * k)).toNat = x := ⟨_, rfl⟩
      obtain ⟨x1, h1⟩ : ∃ x, ((M.fr t).bs (4 * k + 1)).toNat = x := ⟨_, rfl⟩
      obtain ⟨x2, h2⟩ : ∃ x, ((M.fr t).bs (4 * k + 2)).toNat = x := ⟨_, rfl⟩
      obtain ⟨x3, h3⟩ : ∃ x, ((M.fr t).bs (4 * k + 3)).toNat = x := ⟨_, rfl⟩
      have b0 : x0 < 256 := h0 ▸ ((M.fr t).bs (4 * k)).toNat_lt
      have b1 : x1 < 256 := h1 ▸ ((M.fr t).bs (4 * k + 1)).toNat_lt
      have b2 : x2 < 256 := h2 ▸ ((M.fr t).bs (4 * k + 2)).toNat_lt
      have b3 : x3 < 256 := h3 ▸ ((M.fr t).bs (4 * k + 3)).toNat_lt
      have neV : (some V : Option Nat) ≠ some NB := fun e => by have := HVN.out; cases e; omega
      have c0 := HG.out.cell (HVc.out (4 * k) (by omega)) neV
      have c1 := HG.out.cell (HVc.out (4 * k + 1) (by omega)) neV
      have c2 := HG.out.cell (HVc.out (4 * k + 2) (by omega)) neV
      have c3 := HG.out.cell (HVc.out (4 * k + 3) (by omega)) neV
      rw [h0] at c0; rw [h1] at c1; rw [h2] at c2; rw [h3] at c3
      have HWd := hid (show M.word t k = x0 + 256 * x1 + 65536 * x2 + 16777216 * x3 by unfold Mach.word word4; rw [h0, h1, h2, h3])
      obtain ⟨p, q, m, c, hU⟩ : ∃ p q m c, unpackV (x0 + 256 * x1 + 65536 * x2 + 16777216 * x3) = (⟨p, q, m⟩, c) := ⟨_, _, _, _, rfl⟩
      have m0 : 0 ≤ m := by have := unpackV_mfn (x0 + 256 * x1 + 65536 * x2 + 16777216 * x3); rw [hU] at this; exact this
      have HU := hid (fun wd => rUnpack_out _ p q m c wd (show x0 + 256 * x1 + 65536 * x2 + 16777216 * x3 < 4294967296 by omega) hU)
      have HArg := hid (show IntKind.u32.wrap (IntKind.u32.wrap (IntKind.u32.wrap (IntKind.u32.wrap (x0 : Int) + IntKind.u32.wrap (256 * IntKind.u32.wrap (x1 : Int))) + IntKind.u32.wrap (65536 * IntKind.u32.wrap (x2 : Int))) + IntKind.u32.wrap (16777216 * IntKind.u32.wrap (x3 : Int))) = ((x0 + 256 * x1 + 65536 * x2 + 16777216 * x3 : Nat) : Int) by simp only [IntKind.wrap_u32]; omega)
      have HRg := hid (show rg lv (M.word t k) = if c = 0 ∧ p = true ∧ m < 10 then some (m.toNat, if lv = 2 then 2 else kindOf q) else none by rw [HWd.out]; unfold rg; rw [hU])
      clear h0 h1 h2 h3 neV hU
      obtain ⟨j, hj⟩ : ∃ j : Nat, j = 4 * k := ⟨_, rfl⟩
      have hj' : 4 * (k : Int) = j := by omega
      rw [← hj] at c0 c1 c2 c3
      rw [hj'] at hlt' ⊢
      have hj0 : (0 : Int) ≤ j := by omega
      have hj256 : (j : Int) < 256 := by omega
      have e1 : (0 : Int) ≤ (j : Int) + 1 := by omega
      have e1' : (j : Int) + 1 < 256 := by omega
      have e1t : ((j : Int) + 1).toNat = j + 1 := by omega
      have e1w : IntKind.i64.wrap ((j : Int) + 1) = (j : Int) + 1 := IntWalk.i64_in _ (by omega)
      have e2 : (0 : Int) ≤ (j : Int) + 2 := by omega
      have e2' : (j : Int) + 2 < 256 := by omega
      have e2t : ((j : Int) + 2).toNat = j + 2 := by omega
      have e2w : IntKind.i64.wrap ((j : Int) + 2) = (j : Int) + 2 := IntWalk.i64_in _ (by omega)
      have e3 : (0 : Int) ≤ (j : Int) + 3 := by omega
      have e3t : ((j : Int) + 3).toNat = j + 3 := by omega
      have e3w : IntKind.i64.wrap ((j : Int) + 3) = (j : Int) + 3 := IntWalk.i64_in _ (by omega)
      have HJ := hid hj
      have HZ := hid (fun (w2 : World) (g : wr.grownBy w2 none) => (⟨g.cell c0 (by simp), g.cell c1 (by simp), g.cell c2 (by simp), g.cell c3 (by simp)⟩ : w2.cell? ⟨V, j, none⟩ = some (.int .u8 x0) ∧ w2.cell? ⟨V, j + 1, none⟩ = some (.int .u8 x1) ∧ w2.cell? ⟨V, j + 2, none⟩ = some (.int .u8 x2) ∧ w2.cell? ⟨V, j + 3, none⟩ = some (.int .u8 x3)))
      clear hj hj'
      obtain ⟨WA, hWA, hA0, hAr⟩ := rowEnt0 wr
      have HA0 := hid hA0; have HAr := hid hAr
      obtain ⟨s0, s1, s2, s3⟩ := HZ.out WA.drew (hA0.trans (grownBy_drew _ none))
      have ne1 : wr.heap.size ≠ V := World.new_ne wr ⟨V, j, none⟩ c0
      clear hA0 hAr
      go_wp2
      go_region_held3 (fun w' => w'.cell? ⟨V, j, none⟩ = some (.int .u8 x0) ∧ w'.cell? ⟨V, j + 1, none⟩ = some (.int .u8 x1) ∧ w'.cell? ⟨V, j + 2, none⟩ = some (.int .u8 x2) ∧ w'.cell? ⟨V, j + 3, none⟩ = some (.int .u8 x3)) (first | exact ⟨by assumption, by assumption, by assumption, by assumption⟩ | go_keep)
        (first
          | (go_at_call 35; rw [HArg.out]; with_reducible refine (HU.out WA.drew).mono ?_; rintro e w2 ⟨rfl, g2⟩; have G2 := hid (HA0.out.trans ((grownBy_drew _ none).trans g2)); have g3 := (grownBy_drew WA none).trans g2; have HYr := hid (HAr.out.grown g3 (by simp)); have y0 := HYr.out.cell (k := 0) (by omega); have y1 := HYr.out.cell (k := 1) (by omega); have y2 := HYr.out.cell (k := 2) (by omega); have yf := HYr.out.frozen; simp only [entC] at y0 y1 y2; obtain ⟨z0, z1, z2, z3⟩ := HZ.out _ G2.out; clear g2 g3)
          | (go_at_call 35; rw [HArg.out]; with_reducible refine (HU.out wr.drew).mono ?_; rintro e w2 ⟨rfl, g2⟩; have G2 := hid ((grownBy_drew wr none).trans g2); obtain ⟨z0, z1, z2, z3⟩ := HZ.out _ G2.out; have ne2 : w2.heap.size ≠ V := World.new_ne w2 ⟨V, j, none⟩ z0; obtain ⟨v0, v1, v2, v3⟩ := HZ.out (w2.alloc (.cells #[.bool false, .bool false, .int .i64 0] 57)) (G2.out.trans (World.grownBy_alloc _ _ none)); obtain ⟨r0, r1, r2, r3⟩ := HZ.out (w2.alloc (.cells #[.bool p, .bool q, .int .i64 m] 57)) (G2.out.trans (World.grownBy_alloc _ _ none)); clear g2))
      · obtain ⟨W4, hW4⟩ : ∃ W4, w2.alloc (.cells #[.bool p, .bool q, .int .i64 m] 57) = W4 := ⟨_, rfl⟩
        have hE4 := entRow w2 p q m
        have G4 := hid (G2.out.trans (World.grownBy_alloc w2 (.cells #[.bool p, .bool q, .int .i64 m] 57) none))
        rw [hW4] at hE4 G4
        rw [hW4]
        clear hW4 z0 z1 z2 z3 r0 r1 r2 r3 v0 v1 v2 v3 c0 c1 c2 c3 s0 s1 s2 s3 ne1 ne2
        have HR4 := hid (HRw.out.grown G4.out (by simp))
        have c2 := hE4.cell (k := 2) (by omega); have c1 := hE4.cell (k := 1) (by omega); have c0 := hE4.cell (k := 0) (by omega)
        simp only [entC] at c0 c1 c2
        have HE4 := hid hE4
        have hw4 : IntKind.i64.wrap ((j : Int) + 4) = (j : Int) + 4 := IntWalk.i64_in _ (by omega)
        have HNx := hid (show (j : Int) + 4 = 4 * ((k + 1 : Nat) : Int) by have := HJ.out; omega)
        have HGn := hid (show w1.grownBy W4 (some NB) from HG.out.trans (grownAny G4.out _))
        have HSk := hid (fun (e : rg lv (M.word t k) = none) => show Row W4 NB 96 40 (cnt4 (N.plus (M.regs lv t (k + 1)))) by rw [Mach.regs_succ, e]; simpa using HR4.out)
        clear hE4
        by_cases hc : c = 0
        · subst hc
          cases p with
          | false =>
            have HQ := hid (HSk.out (by rw [HRg.out]; simp))
            go_wp2
            go_roundw
            case rel => exact ⟨k + 1, by rw [← HNx.out], by omega, HQ.out, HGn.out⟩
            case measure => simp [intOf]; omega
          | true =>
            by_cases hm : m < 10
            · obtain ⟨mm, rfl⟩ : ∃ mm : Nat, m = mm := ⟨m.toNat, by omega⟩
              have hmm : mm < 10 := by omega
              have hR := HRg.out
              simp only [hm, and_self, if_true, Int.toNat_natCast] at hR
              clear HRg
              have HRg := hid hR
              clear hR HSk
              have hmm0 : (0 : Int) ≤ mm := by omega
              have hmm10 : (mm : Int) < 10 := by omega
              rcases hlv with hlv | hlv
              · have hlb : ((lv : Int) == 2) = false := by simp [hlv]
                have HLv := hid hlv
                clear hlv
                cases q with
                | false =>
                  have HQ := hid (show Row (W4.setCell ⟨NB, mm * 4, none⟩ (.int .i64 (((N.plus (M.regs lv t k)) mm 0 : Nat) + 1))) NB 96 40 (cnt4 (N.plus (M.regs lv t (k + 1)))) by
                    rw [Mach.regs_succ, HRg.out, Cnt.plus_app]
                    have := cnt4_add (i := mm) (k := 0) hmm (by omega) HR4.out
                    simpa [Cnt.plus_one, kindOf, HLv.out] using this)
                  have z0 := cnt4_cell (k := 0) hmm (by omega) HR4.out; rw [Nat.add_zero] at z0
                  have zf := HR4.out.frozen
                  have HC := hid (show (N.plus (M.regs lv t k)) mm 0 ≤ 140737488500000 by have := HB.out mm 0; have := regs_len M lv t k (mm, 0); simp only [Cnt.plus]; omega)
                  have hC0 := HC.out
                  generalize (N.plus (M.regs lv t k)) mm 0 = cc at *
                  go_wp2
                  go_region
                  all_goals go_wp2
                  all_goals go_roundw
                  all_goals first
                    | exact ⟨k + 1, by rw [← HNx.out], by omega, by first | exact HQ.out | exact HQ.out.grown (grownBy_drew _ none) (by simp), (HGn.out.trans (by first | exact grownBy_setCell _ _ _ none _ | exact (grownBy_drew _ _).trans (grownBy_setCell _ _ _ none _) | exact (grownBy_setCell _ _ _ none _).trans (grownBy_drew _ _)))⟩
                    | (simp [intOf, hw4]; omega)
                | true =>
                  have HQ := hid (show Row (W4.setCell ⟨NB, mm * 4 + 1, none⟩ (.int .i64 (((N.plus (M.regs lv t k)) mm 1 : Nat) + 1))) NB 96 40 (cnt4 (N.plus (M.regs lv t (k + 1)))) by
                    rw [Mach.regs_succ, HRg.out, Cnt.plus_app]
                    have := cnt4_add (i := mm) (k := 1) hmm (by omega) HR4.out
                    simpa [Cnt.plus_one, kindOf, HLv.out] using this)
                  have z0 := cnt4_cell (k := 1) hmm (by omega) HR4.out
                  have zf := HR4.out.frozen
                  have HC := hid (show (N.plus (M.regs lv t k)) mm 1 ≤ 140737488500000 by have := HB.out mm 1; have := regs_len M lv t k (mm, 1); simp only [Cnt.plus]; omega)
                  have hC0 := HC.out
                  generalize (N.plus (M.regs lv t k)) mm 1 = cc at *
                  go_wp2
                  go_region
                  all_goals go_wp2
                  all_goals go_roundw
                  all_goals first
                    | exact ⟨k + 1, by rw [← HNx.out], by omega, by first | exact HQ.out | exact HQ.out.grown (grownBy_drew _ none) (by simp), (HGn.out.trans (by first | exact grownBy_setCell _ _ _ none _ | exact (grownBy_drew _ _).trans (grownBy_setCell _ _ _ none _) | exact (grownBy_setCell _ _ _ none _).trans (grownBy_drew _ _)))⟩
                    | (simp [intOf, hw4]; omega)
              · have hlb : ((lv : Int) == 2) = true := by simp [hlv]
                have HLv := hid hlv
                clear hlv
                cases q with
                | false =>
                  have HQ := hid (show Row (W4.setCell ⟨NB, mm * 4 + 2, none⟩ (.int .i64 (((N.plus (M.regs lv t k)) mm 2 : Nat) + 1))) NB 96 40 (cnt4 (N.plus (M.regs lv t (k + 1)))) by
                    rw [Mach.regs_succ, HRg.out, Cnt.plus_app]
                    have := cnt4_add (i := mm) (k := 2) hmm (by omega) HR4.out
                    simpa [Cnt.plus_one, kindOf, HLv.out] using this)
                  have z0 := cnt4_cell (k := 2) hmm (by omega) HR4.out
                  have zf := HR4.out.frozen
                  have HC := hid (show (N.plus (M.regs lv t k)) mm 2 ≤ 140737488500000 by have := HB.out mm 2; have := regs_len M lv t k (mm, 2); simp only [Cnt.plus]; omega)
                  have hC0 := HC.out
                  generalize (N.plus (M.regs lv t k)) mm 2 = cc at *
                  go_wp2
                  go_region
                  all_goals go_wp2
                  all_goals go_roundw
                  all_goals first
                    | exact ⟨k + 1, by rw [← HNx.out], by omega, by first | exact HQ.out | exact HQ.out.grown (grownBy_drew _ none) (by simp), (HGn.out.trans (by first | exact grownBy_setCell _ _ _ none _ | exact (grownBy_drew _ _).trans (grownBy_setCell _ _ _ none _) | exact (grownBy_setCell _ _ _ none _).trans (grownBy_drew _ _)))⟩
                    | (simp [intOf, hw4]; omega)
                | true =>
                  have HQ := hid (show Row (W4.setCell ⟨NB, mm * 4 + 2, none⟩ (.int .i64 (((N.plus (M.regs lv t k)) mm 2 : Nat) + 1))) NB 96 40 (cnt4 (N.plus (M.regs lv t (k + 1)))) by
                    rw [Mach.regs_succ, HRg.out, Cnt.plus_app]
                    have := cnt4_add (i := mm) (k := 2) hmm (by omega) HR4.out
                    simpa [Cnt.plus_one, kindOf, HLv.out] using this)
                  have z0 := cnt4_cell (k := 2) hmm (by omega) HR4.out
                  have zf := HR4.out.frozen
                  have HC := hid (show (N.plus (M.regs lv t k)) mm 2 ≤ 140737488500000 by have := HB.out mm 2; have := regs_len M lv t k (mm, 2); simp only [Cnt.plus]; omega)
                  have hC0 := HC.out
                  generalize (N.plus (M.regs lv t k)) mm 2 = cc at *
                  go_wp2
                  go_region
                  all_goals go_wp2
                  all_goals go_roundw
                  all_goals first
                    | exact ⟨k + 1, by rw [← HNx.out], by omega, by first | exact HQ.out | exact HQ.out.grown (grownBy_drew _ none) (by simp), (HGn.out.trans (by first | exact grownBy_setCell _ _ _ none _ | exact (grownBy_drew _ _).trans (grownBy_setCell _ _ _ none _) | exact (grownBy_setCell _ _ _ none _).trans (grownBy_drew _ _)))⟩
                    | (simp [intOf, hw4]; omega)
            · have hm' : 10 ≤ m := by omega
              have HQ := hid (HSk.out (by rw [HRg.out]; simp [hm]))
              go_wp2
              go_roundw
              case rel => exact ⟨k + 1, by rw [← HNx.out], by omega, HQ.out, HGn.out⟩
              case measure => simp [intOf]; omega
        · have hcb : (c != 0) = true := by simp [hc]
          have HQ := hid (HSk.out (by rw [HRg.out]; simp [hc]))
          clear hc
          go_wp2
          go_roundw
          case rel => exact ⟨k + 1, by rw [← HNx.out], by omega, HQ.out, HGn.out⟩
          case measure => simp [intOf]; omega
      · obtain ⟨W4, hW4⟩ : ∃ W4, ((w2.setCell ⟨wr.heap.size, 0, none⟩ (.bool p)).setCell ⟨wr.heap.size, 1, none⟩ (.bool q)).setCell ⟨wr.heap.size, 2, none⟩ (.int .i64 m) = W4 := ⟨_, rfl⟩
        have hE4 := HYr.out.ent3 p q m
        have G4 := hid (G2.out.andThen (ent3_grown w2 wr.heap.size p q m) fun j e => .inl (by cases e; exact Nat.le_refl _))
        rw [hW4] at hE4 G4
        rw [hW4]
        clear hW4 z0 z1 z2 z3 c0 c1 c2 c3 s0 s1 s2 s3 ne1 y0 y1 y2 yf HYr
        have HR4 := hid (HRw.out.grown G4.out (by simp))
        have c2 := hE4.cell (k := 2) (by omega); have c1 := hE4.cell (k := 1) (by omega); have c0 := hE4.cell (k := 0) (by omega)
        simp only [entC] at c0 c1 c2
        have HE4 := hid hE4
        have hw4 : IntKind.i64.wrap ((j : Int) + 4) = (j : Int) + 4 := IntWalk.i64_in _ (by omega)
        have HNx := hid (show (j : Int) + 4 = 4 * ((k + 1 : Nat) : Int) by have := HJ.out; omega)
        have HGn := hid (show w1.grownBy W4 (some NB) from HG.out.trans (grownAny G4.out _))
        have HSk := hid (fun (e : rg lv (M.word t k) = none) => show Row W4 NB 96 40 (cnt4 (N.plus (M.regs lv t (k + 1)))) by rw [Mach.regs_succ, e]; simpa using HR4.out)
        clear hE4
        by_cases hc : c = 0
        · subst hc
          cases p with
          | false =>
            have HQ := hid (HSk.out (by rw [HRg.out]; simp))
            go_wp2
            go_roundw
            case rel => exact ⟨k + 1, by rw [← HNx.out], by omega, HQ.out, HGn.out⟩
            case measure => simp [intOf]; omega
          | true =>
            by_cases hm : m < 10
            · obtain ⟨mm, rfl⟩ : ∃ mm : Nat, m = mm := ⟨m.toNat, by omega⟩
              have hmm : mm < 10 := by omega
              have hR := HRg.out
              simp only [hm, and_self, if_true, Int.toNat_natCast] at hR
              clear HRg
              have HRg := hid hR
              clear hR HSk
              have hmm0 : (0 : Int) ≤ mm := by omega
              have hmm10 : (mm : Int) < 10 := by omega
              rcases hlv with hlv | hlv
              · have hlb : ((lv : Int) == 2) = false := by simp [hlv]
                have HLv := hid hlv
                clear hlv
                cases q with
                | false =>
                  have HQ := hid (show Row (W4.setCell ⟨NB, mm * 4, none⟩ (.int .i64 (((N.plus (M.regs lv t k)) mm 0 : Nat) + 1))) NB 96 40 (cnt4 (N.plus (M.regs lv t (k + 1)))) by
                    rw [Mach.regs_succ, HRg.out, Cnt.plus_app]
                    have := cnt4_add (i := mm) (k := 0) hmm (by omega) HR4.out
                    simpa [Cnt.plus_one, kindOf, HLv.out] using this)
                  have z0 := cnt4_cell (k := 0) hmm (by omega) HR4.out; rw [Nat.add_zero] at z0
                  have zf := HR4.out.frozen
                  have HC := hid (show (N.plus (M.regs lv t k)) mm 0 ≤ 140737488500000 by have := HB.out mm 0; have := regs_len M lv t k (mm, 0); simp only [Cnt.plus]; omega)
                  have hC0 := HC.out
                  generalize (N.plus (M.regs lv t k)) mm 0 = cc at *
                  go_wp2
                  go_region
                  all_goals go_wp2
                  all_goals go_roundw
                  all_goals first
                    | exact ⟨k + 1, by rw [← HNx.out], by omega, by first | exact HQ.out | exact HQ.out.grown (grownBy_drew _ none) (by simp), (HGn.out.trans (by first | exact grownBy_setCell _ _ _ none _ | exact (grownBy_drew _ _).trans (grownBy_setCell _ _ _ none _) | exact (grownBy_setCell _ _ _ none _).trans (grownBy_drew _ _)))⟩
                    | (simp [intOf, hw4]; omega)
                | true =>
                  have HQ := hid (show Row (W4.setCell ⟨NB, mm * 4 + 1, none⟩ (.int .i64 (((N.plus (M.regs lv t k)) mm 1 : Nat) + 1))) NB 96 40 (cnt4 (N.plus (M.regs lv t (k + 1)))) by
                    rw [Mach.regs_succ, HRg.out, Cnt.plus_app]
                    have := cnt4_add (i := mm) (k := 1) hmm (by omega) HR4.out
                    simpa [Cnt.plus_one, kindOf, HLv.out] using this)
                  have z0 := cnt4_cell (k := 1) hmm (by omega) HR4.out
                  have zf := HR4.out.frozen
                  have HC := hid (show (N.plus (M.regs lv t k)) mm 1 ≤ 140737488500000 by have := HB.out mm 1; have := regs_len M lv t k (mm, 1); simp only [Cnt.plus]; omega)
                  have hC0 := HC.out
                  generalize (N.plus (M.regs lv t k)) mm 1 = cc at *
                  go_wp2
                  go_region
                  all_goals go_wp2
                  all_goals go_roundw
                  all_goals first
                    | exact ⟨k + 1, by rw [← HNx.out], by omega, by first | exact HQ.out | exact HQ.out.grown (grownBy_drew _ none) (by simp), (HGn.out.trans (by first | exact grownBy_setCell _ _ _ none _ | exact (grownBy_drew _ _).trans (grownBy_setCell _ _ _ none _) | exact (grownBy_setCell _ _ _ none _).trans (grownBy_drew _ _)))⟩
                    | (simp [intOf, hw4]; omega)
              · have hlb : ((lv : Int) == 2) = true := by simp [hlv]
                have HLv := hid hlv
                clear hlv
                cases q with
                | false =>
                  have HQ := hid (show Row (W4.setCell ⟨NB, mm * 4 + 2, none⟩ (.int .i64 (((N.plus (M.regs lv t k)) mm 2 : Nat) + 1))) NB 96 40 (cnt4 (N.plus (M.regs lv t (k + 1)))) by
                    rw [Mach.regs_succ, HRg.out, Cnt.plus_app]
                    have := cnt4_add (i := mm) (k := 2) hmm (by omega) HR4.out
                    simpa [Cnt.plus_one, kindOf, HLv.out] using this)
                  have z0 := cnt4_cell (k := 2) hmm (by omega) HR4.out
                  have zf := HR4.out.frozen
                  have HC := hid (show (N.plus (M.regs lv t k)) mm 2 ≤ 140737488500000 by have := HB.out mm 2; have := regs_len M lv t k (mm, 2); simp only [Cnt.plus]; omega)
                  have hC0 := HC.out
                  generalize (N.plus (M.regs lv t k)) mm 2 = cc at *
                  go_wp2
                  go_region
                  all_goals go_wp2
                  all_goals go_roundw
                  all_goals first
                    | exact ⟨k + 1, by rw [← HNx.out], by omega, by first | exact HQ.out | exact HQ.out.grown (grownBy_drew _ none) (by simp), (HGn.out.trans (by first | exact grownBy_setCell _ _ _ none _ | exact (grownBy_drew _ _).trans (grownBy_setCell _ _ _ none _) | exact (grownBy_setCell _ _ _ none _).trans (grownBy_drew _ _)))⟩
                    | (simp [intOf, hw4]; omega)
                | true =>
                  have HQ := hid (show Row (W4.setCell ⟨NB, mm * 4 + 2, none⟩ (.int .i64 (((N.plus (M.regs lv t k)) mm 2 : Nat) + 1))) NB 96 40 (cnt4 (N.plus (M.regs lv t (k + 1)))) by
                    rw [Mach.regs_succ, HRg.out, Cnt.plus_app]
                    have := cnt4_add (i := mm) (k := 2) hmm (by omega) HR4.out
                    simpa [Cnt.plus_one, kindOf, HLv.out] using this)
                  have z0 := cnt4_cell (k := 2) hmm (by omega) HR4.out
                  have zf := HR4.out.frozen
                  have HC := hid (show (N.plus (M.regs lv t k)) mm 2 ≤ 140737488500000 by have := HB.out mm 2; have := regs_len M lv t k (mm, 2); simp only [Cnt.plus]; omega)
                  have hC0 := HC.out
                  generalize (N.plus (M.regs lv t k)) mm 2 = cc at *
                  go_wp2
                  go_region
                  all_goals go_wp2
                  all_goals go_roundw
                  all_goals first
                    | exact ⟨k + 1, by rw [← HNx.out], by omega, by first | exact HQ.out | exact HQ.out.grown (grownBy_drew _ none) (by simp), (HGn.out.trans (by first | exact grownBy_setCell _ _ _ none _ | exact (grownBy_drew _ _).trans (grownBy_setCell _ _ _ none _) | exact (grownBy_setCell _ _ _ none _).trans (grownBy_drew _ _)))⟩
                    | (simp [intOf, hw4]; omega)
            · have hm' : 10 ≤ m := by omega
              have HQ := hid (HSk.out (by rw [HRg.out]; simp [hm]))
              go_wp2
              go_roundw
              case rel => exact ⟨k + 1, by rw [← HNx.out], by omega, HQ.out, HGn.out⟩
              case measure => simp [intOf]; omega
        · have hcb : (c != 0) = true := by simp [hc]
          have HQ := hid (HSk.out (by rw [HRg.out]; simp [hc]))
          clear hc
          go_wp2
          go_roundw
          case rel => exact ⟨k + 1, by rw [← HNx.out], by omega, HQ.out, HGn.out⟩
          case measure => simp [intOf]; omega
    · obtain rfl : k = 64 := by omega
      have hge : (256 : Int) ≤ 4 * ((64 : Nat) : Int) + 3 := by omega
      go_wp2
      first | go_end0 | ((try simp only [Exit.inBlock, Exit.then]); refine bodyPost_ret (results_none rfl _ _ _) rfl ?_)
      exact ⟨rfl, HRw.out, (grownAny HVg.out _).trans HG.out⟩
end Go.Proofs.Ytemeihamkdpmoaa
