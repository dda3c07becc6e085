/-
  Package tenementlaw05: counts (what is referred to, counted from pins, roots, tables in use and what is taken beside).
-/
import Derived.Test.YtemeihamkdpmoaaK32
set_option linter.unusedSimpArgs false
set_option linter.unusedVariables false
namespace Go.Proofs.Ytemeihamkdpmoaa
open Go.RowKit
set_option maxHeartbeats 2000000

def cnt2 (E : Cnt) (q : Nat) : Value := .int .i64 (E (q / 2) (q % 2) : Nat)
theorem info_a4 : (Try.prog.info? 96).map (fun i => (i.zero, i.size, i.bytes)) = some (some (.agg #[.int .i64 0, .int .i64 0, .int .i64 0, .int .i64 0]), 4, 32) := by kernel_rfl
def zcnt : Array Value := madeCells #[.int .i64 0, .int .i64 0, .int .i64 0, .int .i64 0] 40
theorem zcnt_size : zcnt.size = 40 := size_madeCells _ _
theorem zcnt_at (k : Nat) (h : k < 40) : zcnt[k]? = some (.int .i64 0) := by
  unfold zcnt
  have h4 : k % 4 < 4 := Nat.mod_lt _ (by omega)
  simp only [madeCells]
  simp [h]
  generalize k % 4 = m at h4 ⊢
  match m, h4 with
  | 0, _ => rfl
  | 1, _ => rfl
  | 2, _ => rfl
  | 3, _ => rfl
attribute [irreducible] zcnt
theorem make_cnt (W : World) : (Instr.makeSlice 90 (.int .i64 10) (.int .i64 10)).run Try.prog W = .ok (.slice (some ⟨W.heap.size, 0, none⟩) 10 10) (W.alloc (.cells zcnt 96)) := by
  obtain ⟨i0, hi, hz0, hz1, hz2⟩ := info_parts info_a4
  have hr := run_make W 90 96 i0 (.agg #[.int .i64 0, .int .i64 0, .int .i64 0, .int .i64 0]) Try.underlying90 hi hz0 .i64 .i64 10 10 (by omega) (by omega) (by rw [hz2]; omega) (by omega)
  rw [hr, hz1]
  unfold zcnt
  simp [Value.cells]
theorem zcnt_row (W : World) : Row (W.alloc (.cells zcnt 96)) W.heap.size 96 40 (cnt4 E0) :=
  ⟨zcnt, heap_alloc_new W _, by rw [zcnt_size]; omega, fun k hk => by rw [zcnt_at k hk]; rfl⟩
def cntTo (E : Cnt) (k : Nat) : Cnt := fun a b => if a < k then E a b else 0
def sumTo (sp : Nat → Sp) (E : Cnt) (d : Nat) : Cnt := E.plus ((List.range d).flatMap fun d => spK (sp d))
def fullTo (lv K : Nat) (M : Mach) (F : Cnt) (i : Nat) : Cnt := fun a b => F a b + ((List.range i).map fun t => if 0 < F t K then (M.refs lv t 64).count (a, b) else 0).sum
theorem fullTo_zero (lv K : Nat) (M : Mach) (F : Cnt) : fullTo lv K M F 0 = F := by funext a b; simp [fullTo]
theorem fullTo_end (lv K : Nat) (M : Mach) (F : Cnt) (hn : M.n = 10) : fullTo lv K M F 10 = full lv K M F := by funext a b; unfold fullTo full; rw [hn]; rfl
theorem fullTo_yes {lv K : Nat} {M : Mach} {F : Cnt} {i : Nat} (h : 0 < F i K) : fullTo lv K M F (i + 1) = (fullTo lv K M F i).plus (M.refs lv i 64) := by
  funext a b
  simp only [fullTo, Cnt.plus, List.range_succ, List.map_append, List.map_cons, List.map_nil, List.sum_append, List.sum_cons, List.sum_nil, h, if_true]
  omega
theorem fullTo_no {lv K : Nat} {M : Mach} {F : Cnt} {i : Nat} (h : ¬ 0 < F i K) : fullTo lv K M F (i + 1) = fullTo lv K M F i := by
  funext a b
  simp only [fullTo, List.range_succ, List.map_append, List.map_cons, List.map_nil, List.sum_append, List.sum_cons, List.sum_nil, h, if_false]
  omega
theorem fullTo_K {lv K : Nat} (hK : ∀ n r, rf lv n = some r → r.2 ≠ K) (M : Mach) (F : Cnt) (t : Nat) : ∀ i, fullTo lv K M F i t K = F t K
  | 0 => by simp [fullTo]
  | i + 1 => by
    have ih := fullTo_K hK M F t i
    by_cases h : 0 < F i K
    · rw [fullTo_yes h]
      simp only [Cnt.plus]
      rw [ih, count_kind hK]; rfl
    · rw [fullTo_no h, ih]
theorem refs_len (M : Mach) (lv t : Nat) (x : Nat × Nat) : ∀ k, (M.refs lv t k).count x ≤ k
  | 0 => by simp [Mach.refs]
  | k + 1 => by
    have ih := refs_len M lv t x k
    have h1 : (rf lv (M.word t k)).toList.count x ≤ 1 := by
      refine Nat.le_trans (List.count_le_length) ?_
      cases rf lv (M.word t k) <;> simp
    rw [Mach.refs_succ, List.count_append]; omega
theorem fullTo_le (lv K : Nat) (M : Mach) (F : Cnt) (a b : Nat) : ∀ i, fullTo lv K M F i a b ≤ F a b + 64 * i
  | 0 => by simp [fullTo]
  | i + 1 => by
    have ih := fullTo_le lv K M F a b i
    by_cases h : 0 < F i K
    · rw [fullTo_yes h]
      have := refs_len M lv i (a, b) 64
      simp only [Cnt.plus]; omega
    · rw [fullTo_no h]; omega
/-- behind so many levels -/
def stg (M : Mach) (F : Cnt) : Nat → Cnt
  | 0 => F
  | 1 => full 2 3 M F
  | _ => full 1 2 M (full 2 3 M F)
/-- counting under way in block NB, behind w -/
structure CW (w W : World) (NB : Nat) (N : Cnt) : Prop where
  row : Row W NB 96 40 (cnt4 N)
  g : w.grownBy W none
  far : w.heap.size ≤ NB
theorem CW.more {w W W' : World} {NB : Nat} {N : Cnt} (h : CW w W NB N) (hg : W.grownBy W' none) : CW w W' NB N := ⟨h.row.grown hg (by simp), h.g.trans hg, h.far⟩
theorem CW.add {w W : World} {NB : Nat} {N : Cnt} (h : CW w W NB N) {i k : Nat} (hi : i < 10) (hk : k < 4) : CW w (W.setCell ⟨NB, i * 4 + k, none⟩ (.int .i64 ((N i k : Nat) + 1))) NB (N.add i k) :=
  ⟨cnt4_add hi hk h.row, h.g.andThen (grownBy_setCell W NB _ none _) fun j e => .inl (by cases e; exact h.far), h.far⟩
theorem CW.put {w W : World} {NB : Nat} {N N' : Cnt} (h : CW w W NB N) {i k x : Nat} (hi : i < 10) (hk : k < 4) (hx : N' i k = x) (ho : ∀ a b, a < 10 → b < 4 → ¬ (a = i ∧ b = k) → N' a b = N a b) : CW w (W.setCell ⟨NB, i * 4 + k, none⟩ (.int .i64 x)) NB N' := by
  refine ⟨h.row.set (k := i * 4 + k) ?_ fun j hj hne => ?_, h.g.andThen (grownBy_setCell W NB _ none _) fun j e => .inl (by cases e; exact h.far), h.far⟩
  · unfold cnt4
    rw [show (i * 4 + k) / 4 = i by omega, show (i * 4 + k) % 4 = k by omega, hx]
  · unfold cnt4
    rw [ho _ _ (by omega) (by omega) (by omega)]
theorem CW.congr {w W : World} {NB : Nat} {N N' : Cnt} (h : CW w W NB N) (he : ∀ a b, a < 10 → b < 4 → N' a b = N a b) : CW w W NB N' :=
  ⟨h.row.congr fun k hk => by unfold cnt4; rw [he _ _ (by omega) (by omega)], h.g, h.far⟩
def cntMid (E : Cnt) (k : Nat) : Cnt := fun a b => if a < k ∨ (a = k ∧ b = 0) then E a b else 0
theorem spK_len (sp : Nat → Sp) {d : Nat} (h : (sp d).pins.length ≤ 256) : (spK (sp d)).length ≤ 257 := by
  unfold spK rootK pinK
  rw [List.length_append, List.length_map]
  split <;> simp <;> omega
theorem sum_len (sp : Nat → Sp) (h : ∀ d, d < 8 → (sp d).pins.length ≤ 256) : ∀ d, d ≤ 8 → ((List.range d).flatMap fun d => spK (sp d)).length ≤ 257 * d
  | 0, _ => by simp
  | d + 1, hd => by
    have ih := sum_len sp h d (by omega)
    have h1 := spK_len sp (h d (by omega))
    rw [List.range_succ, List.flatMap_append, List.length_append]
    simp only [List.flatMap_cons, List.flatMap_nil, List.append_nil]
    omega
theorem sum_small (sp : Nat → Sp) (E : Cnt) (S D j mm k : Nat) (h : ∀ d, d < 8 → (sp d).pins.length ≤ 256) (hD : D < 8) (hE : ∀ i k, E i k ≤ S) (hS : S ≤ 140737488355328) : ((sumTo sp E D).plus ((pinK (sp D).pins).take j)) mm k ≤ 140737488400000 := by
  have h1 := sum_len sp h D (by omega)
  have h2 := h D hD
  have h3 := hE mm k
  have h4 : ((List.range D).flatMap fun d => spK (sp d)).count (mm, k) ≤ ((List.range D).flatMap fun d => spK (sp d)).length := List.count_le_length
  have h5 : ((pinK (sp D).pins).take j).count (mm, k) ≤ ((pinK (sp D).pins).take j).length := List.count_le_length
  have h6 : ((pinK (sp D).pins).take j).length ≤ 256 := by simp [pinK]; omega
  simp only [sumTo, Cnt.plus]
  omega
set_option maxRecDepth 100000 in
set_option maxHeartbeats 8000000 in
theorem lCounts (B X BB cb : Nat) (w : World) (M : Mach) (T : Int) (sp : Nat → Sp) (pv : Nat → Value) (E : Cnt) (S : Nat) (h : PS w B X M sp pv) (hA : All M sp E) (hok : M.ok T) (hn : M.n = 10) (hb : Row w BB 89 20 (cnt2 E)) (hE2 : ∀ i k, 2 ≤ k → E i k = 0) (hE : ∀ i k, E i k ≤ S) (hS : S ≤ 140737488355328) :
    Calls Try.prog 49 #[.pointer (some ⟨X, 0, none⟩), .slice (some ⟨BB, 0, none⟩) 10 cb] w fun e w' => ∃ NB, e = .returned (.slice (some ⟨NB, 0, none⟩) 10 10) ∧ CW w w' NB (full 1 2 M (full 2 3 M (outF sp E))) := by
  have H := hid h; have HA := hid hA; have HOk := hid hok; have HBs := hid hb
  have HMa := hid (xMachine X B w h.c0)
  have HSz := hid (Size_yes B 10 w (by omega) (hn ▸ h.m.size))
  have hmk := make_cnt
  have HC0 := hid (show CW w (w.alloc (.cells zcnt 96)) w.heap.size E0 from ⟨zcnt_row w, World.grownBy_alloc _ _ _, Nat.le_refl _⟩)
  clear h hA hok hb
  go_enter Try.func49, Try.ntmps49
  go_wp2_with (first
    | (go_at_call 39; refine HMa.out.mono ?_; rintro e w' ⟨rfl, rfl⟩)
    | (go_at_call 40; refine HSz.out.mono ?_; rintro e w' ⟨rfl, rfl⟩))
  obtain ⟨NB, hNB⟩ : ∃ NB, w.heap.size = NB := ⟨_, rfl⟩
  rw [hNB] at HC0 ⊢
  have hNe := hid (show NB ≠ BB from by have := HBs.out.lt; omega)
  clear hmk hNB
  go_loopw [7] (fun i wr => ∃ k : Nat, i = .int .i64 k ∧ k ≤ 10 ∧ CW w wr NB (cntTo E k)) (fun i _ => 10 - (intOf i).toNat)
  case atStart => exact ⟨0, rfl, by omega, HC0.out⟩
  case round =>
    clear HC0
    obtain ⟨k, rfl, hk, hc⟩ := hrel
    have HC := hid hc
    clear hc
    have hk0 : (0 : Int) ≤ k := by omega
    by_cases hlt : k < 10
    · have hlt' : (k : Int) < 10 := by omega
      obtain ⟨x0, h0⟩ : ∃ x, E k 0 = x := ⟨_, rfl⟩
      obtain ⟨x1, h1⟩ : ∃ x, E k 1 = x := ⟨_, rfl⟩
      have b0 := HC.out.g.cell (HBs.out.cell (k := k * 2) (by omega)) (by simp)
      have b1 := HC.out.g.cell (HBs.out.cell (k := k * 2 + 1) (by omega)) (by simp)
      simp only [cnt2, show k * 2 / 2 = k by omega, show k * 2 % 2 = 0 by omega, show (k * 2 + 1) / 2 = k by omega, show (k * 2 + 1) % 2 = 1 by omega, h0, h1] at b0 b1
      have n0 := cnt4_cell (k := 0) hlt (by omega) HC.out.row
      rw [Nat.add_zero] at n0
      have nf := HC.out.row.frozen
      have hm1 := HC.out.put (N' := cntMid E k) (i := k) (k := 0) (x := x0) hlt (by omega) (by simp [cntMid, h0]) (fun a b _ _ hne => by
        simp only [cntMid, cntTo]
        by_cases e : a < k
        · simp [e]
        · have : ¬ (a < k ∨ a = k ∧ b = 0) := by omega
          rw [if_neg this, if_neg e])
      rw [Nat.add_zero] at hm1
      have hm2 := hm1.more (grownBy_drew _ none)
      have m1 := cnt4_cell (k := 1) hlt (by omega) hm2.row
      have mf := hm2.row.frozen
      have b1' := hm2.g.cell (HBs.out.cell (k := k * 2 + 1) (by omega)) (by simp)
      simp only [cnt2, show (k * 2 + 1) / 2 = k by omega, show (k * 2 + 1) % 2 = 1 by omega, h1] at b1'
      have HM2 := hid hm2
      have HF := hid (fun (W : World) (h : CW w W NB (cntMid E k)) => h.put (N' := cntTo E (k + 1)) (i := k) (k := 1) (x := x1) hlt (by omega) (by simp [cntTo, h1]) (fun a b _ hb hne => by
        simp only [cntMid, cntTo]
        by_cases e : a < k
        · simp [e, Nat.lt_succ_of_lt e]
        · by_cases e2 : a = k
          · subst e2
            by_cases eb : b = 0
            · simp [eb]
            · simp [eb, hE2 a b (by omega)]
          · have : ¬ a < k + 1 := by omega
            simp [e, e2, this]))
      clear hm1 hm2 h0 h1
      go_wp2
      go_region
      all_goals
        obtain ⟨W2, hW2⟩ : ∃ W2, (wr.setCell ⟨NB, k * 4, none⟩ (.int .i64 x0)).drew = W2 := ⟨_, rfl⟩
        rw [hW2] at m1 mf b1' HM2
        rw [hW2]
        have HF2 := hid ((HF.out W2 HM2.out).more (grownBy_drew _ none))
        have HF1 := hid (HF.out W2 HM2.out)
        clear hW2 n0 nf b0 b1
        go_wp2
        go_region
        all_goals go_wp2
        all_goals go_roundw
        all_goals first
          | exact ⟨k + 1, by go_num, by omega, HF2.out⟩
          | exact ⟨k + 1, by go_num, by omega, HF1.out⟩
          | (simp [intOf]; omega)
    · obtain rfl : k = 10 := by omega
      have hge : (10 : Int) ≤ ((10 : Nat) : Int) := by omega
      have HC1 := hid (show CW w wr NB (sumTo sp E 0) from HC.out.congr fun a b ha _ => by simp [sumTo, Cnt.plus, cntTo, ha])
      clear HC
      go_wp2
      go_loopw [8] (fun i wr => ∃ D : Nat, i = .int .i64 D ∧ D ≤ 8 ∧ CW w wr NB (sumTo sp E D)) (fun i _ => 8 - (intOf i).toNat)
      case atStart => exact ⟨0, rfl, by omega, HC1.out⟩
      case round =>
        clear HC1
        obtain ⟨D, rfl, hD, hc⟩ := hrel
        have HC := hid hc
        clear hc
        have hD0 : (0 : Int) ≤ D := by omega
        by_cases hlt : D < 8
        · have hlt' : (D : Int) < 8 := by omega
          have HPn := hid (xPins_yes X B D wr M sp pv hlt (H.out.grown HC.out.g) (by have := HA.out.len hlt; omega))
          have HSp := hid (HA.out.sp D hlt)
          have HLn := hid (HA.out.len hlt)
          go_wp2_with (go_at_call 54; refine HPn.out.mono ?_; rintro e w5 ⟨v, rfl, hp, hg⟩; obtain ⟨pp, cp, rfl⟩ := hp.slice; have HP := hid hp; have HC5 := hid (HC.out.more hg); clear hp hg)
          have HNp := hid (show ∀ g, (Value.slice pp (sp D).pins.length cp).ownBlock = some g → some g ≠ some NB from fun g hg e => by
            obtain ⟨N', Y', hr⟩ := HP.out.row hg
            exact hr.type_ne HC5.out.row (by decide) (Option.some.inj e))
          go_loopw [10] (fun i wr => ∃ j : Nat, i = .int .i64 j ∧ j ≤ (sp D).pins.length ∧ CW w wr NB ((sumTo sp E D).plus ((pinK (sp D).pins).take j)) ∧ w5.grownBy wr (some NB)) (fun i _ => (sp D).pins.length - (intOf i).toNat)
          case atStart => exact ⟨0, rfl, by omega, by simpa [Cnt.plus_nil] using HC5.out, World.grownBy.refl _ _⟩
          case round =>
            clear HC5
            obtain ⟨j, rfl, hj, hc, hg⟩ := hrel
            have HCj := hid hc; have HG := hid hg
            clear hc hg
            have hj0 : (0 : Int) ≤ j := by omega
            have hl256 := HLn.out
            by_cases hjl : j < (sp D).pins.length
            · have hjl' : (j : Int) < (sp D).pins.length := by omega
              obtain ⟨g, rfl, p0, p1⟩ := (HP.out.grown HG.out HNp.out).at hjl
              obtain ⟨⟨l0, l1⟩, hlv⟩ := HSp.out.pins _ (List.getElem_mem hjl)
              have HTk := hid (show (pinK (sp D).pins).take (j + 1) = (pinK (sp D).pins).take j ++ [((sp D).pins[j].1.toNat, (sp D).pins[j].2.toNat + 1)] by
                rw [List.take_add_one]
                simp [pinK, List.getElem?_map, List.getElem?_eq_getElem hjl])
              obtain ⟨q, hq⟩ : ∃ q, (sp D).pins[j] = q := ⟨_, rfl⟩
              rw [hq] at p0 p1 l0 l1 hlv HTk
              clear hq
              obtain ⟨q0, q1⟩ := q
              simp only at p0 p1 l0 l1 hlv HTk
              obtain ⟨mm, rfl⟩ : ∃ mm : Nat, q0 = mm := ⟨q0.toNat, by omega⟩
              have hmm : mm < 10 := by omega
              rw [hn] at l1
              rcases hlv with rfl | rfl
              · have HQ := hid (show CW w (wr.setCell ⟨NB, mm * 4 + 2, none⟩ (.int .i64 ((((sumTo sp E D).plus ((pinK (sp D).pins).take j)) mm 2 : Nat) + 1))) NB ((sumTo sp E D).plus ((pinK (sp D).pins).take (j + 1))) by
                  rw [HTk.out, Cnt.plus_app]
                  have := HCj.out.add (i := mm) (k := 2) hmm (by omega)
                  simpa [Cnt.plus_one] using this)
                have z0 := cnt4_cell (k := 2) hmm (by omega) HCj.out.row
                have zf := HCj.out.row.frozen
                have HGn := hid (HG.out.trans (grownBy_setCell wr NB (mm * 4 + 2) none (.int .i64 ((((sumTo sp E D).plus ((pinK (sp D).pins).take j)) mm 2 : Nat) + 1))))
                have hC0 : ((sumTo sp E D).plus ((pinK (sp D).pins).take j)) mm 2 ≤ 140737488400000 := sum_small sp E S D j mm 2 (fun d hd => HA.out.len hd) (by omega) hE hS
                clear HTk
                generalize ((sumTo sp E D).plus ((pinK (sp D).pins).take j)) mm 2 = cc at *
                go_wp2
                go_region
                all_goals go_wp2
                all_goals go_roundw
                all_goals first
                  | exact ⟨j + 1, by go_num, by omega, HQ.out.more (grownBy_drew _ none), HGn.out.trans (grownBy_drew _ _)⟩
                  | exact ⟨j + 1, by go_num, by omega, HQ.out, HGn.out⟩
                  | (simp [intOf]; omega)
              · have HQ := hid (show CW w (wr.setCell ⟨NB, mm * 4 + 3, none⟩ (.int .i64 ((((sumTo sp E D).plus ((pinK (sp D).pins).take j)) mm 3 : Nat) + 1))) NB ((sumTo sp E D).plus ((pinK (sp D).pins).take (j + 1))) by
                  rw [HTk.out, Cnt.plus_app]
                  have := HCj.out.add (i := mm) (k := 3) hmm (by omega)
                  simpa [Cnt.plus_one] using this)
                have z0 := cnt4_cell (k := 3) hmm (by omega) HCj.out.row
                have zf := HCj.out.row.frozen
                have HGn := hid (HG.out.trans (grownBy_setCell wr NB (mm * 4 + 3) none (.int .i64 ((((sumTo sp E D).plus ((pinK (sp D).pins).take j)) mm 3 : Nat) + 1))))
                have hC0 : ((sumTo sp E D).plus ((pinK (sp D).pins).take j)) mm 3 ≤ 140737488400000 := sum_small sp E S D j mm 3 (fun d hd => HA.out.len hd) (by omega) hE hS
                clear HTk
                generalize ((sumTo sp E D).plus ((pinK (sp D).pins).take j)) mm 3 = cc at *
                go_wp2
                go_region
                all_goals go_wp2
                all_goals go_roundw
                all_goals first
                  | exact ⟨j + 1, by go_num, by omega, HQ.out.more (grownBy_drew _ none), HGn.out.trans (grownBy_drew _ _)⟩
                  | exact ⟨j + 1, by go_num, by omega, HQ.out, HGn.out⟩
                  | (simp [intOf]; omega)
            · obtain rfl : j = (sp D).pins.length := by omega
              have hge : ((sp D).pins.length : Int) ≤ (sp D).pins.length := by omega
              have HCp := hid (show CW w wr NB ((sumTo sp E D).plus (pinK (sp D).pins)) by
                have := HCj.out
                rwa [List.take_of_length_le (by simp [pinK])] at this)
              clear HCj
              have HSu := hid (show sumTo sp E (D + 1) = ((sumTo sp E D).plus (pinK (sp D).pins)).plus (rootK (sp D).root) by
                unfold sumTo
                rw [List.range_succ, List.flatMap_append, Cnt.plus_app]
                simp only [List.flatMap_cons, List.flatMap_nil, List.append_nil, spK]
                rw [Cnt.plus_app])
              have hRt := fun W (gw : w.grownBy W none) => xRoot_yes X B D W M sp pv hlt (H.out.grown gw)
              have hro := HSp.out.root
              rw [hn] at hro
              by_cases hr1 : (sp D).root = -1
              · rw [hr1] at hRt
                have HRt := hid hRt
                have HQ := hid (show CW w wr NB (sumTo sp E (D + 1)) by rw [HSu.out, hr1]; simpa [rootK, Cnt.plus_nil] using HCp.out)
                clear hRt hro hr1
                go_wp2_with (go_at_call 51; refine (HRt.out _ HQ.out.g).mono ?_; rintro e w' ⟨rfl, rfl⟩)
                go_roundw
                case rel => repeat apply Exists.intro
                            exact ⟨⟨D + 1, by go_num, by omega, HQ.out⟩, rfl⟩
                case measure => simp [intOf]; omega
              · obtain ⟨r0, r10⟩ := hro hr1
                obtain ⟨mm, hmr⟩ : ∃ mm : Nat, (sp D).root = mm := ⟨(sp D).root.toNat, by omega⟩
                rw [hmr] at hRt r0 r10
                have hmm : mm < 10 := by omega
                have HQ := hid (show CW w (wr.setCell ⟨NB, mm * 4 + 3, none⟩ (.int .i64 ((((sumTo sp E D).plus (pinK (sp D).pins)) mm 3 : Nat) + 1))) NB (sumTo sp E (D + 1)) by
                  rw [HSu.out, hmr]
                  have := HCp.out.add (i := mm) (k := 3) hmm (by omega)
                  have e : rootK (mm : Int) = [(mm, 3)] := by unfold rootK; rw [if_neg (by omega)]; simp
                  rw [e]
                  simpa [Cnt.plus_one] using this)
                have z0 := cnt4_cell (k := 3) hmm (by omega) HCp.out.row
                have zf := HCp.out.row.frozen
                have hC0 : ((sumTo sp E D).plus (pinK (sp D).pins)) mm 3 ≤ 140737488400000 := by
                  have := sum_small sp E S D (sp D).pins.length mm 3 (fun d hd => HA.out.len hd) (by omega) hE hS
                  rwa [List.take_of_length_le (by simp [pinK])] at this
                have HRt := hid hRt
                have Hw := hid HCp.out.g
                have Hwd := hid (HCp.out.g.trans (grownBy_drew wr none))
                clear hRt hro hr1 hmr HSu
                generalize ((sumTo sp E D).plus (pinK (sp D).pins)) mm 3 = cc at *
                go_wp2_with (go_at_call 51; refine (HRt.out _ Hw.out).mono ?_; rintro e w' ⟨rfl, rfl⟩)
                go_region_with (go_at_call 51; refine (HRt.out _ Hwd.out).mono ?_; rintro e w' ⟨rfl, rfl⟩)
                all_goals go_wp2
                all_goals go_roundw
                all_goals first
                  | (repeat apply Exists.intro
                     exact ⟨⟨D + 1, by go_num, by omega, HQ.out.more (grownBy_drew _ none)⟩, rfl⟩)
                  | (repeat apply Exists.intro
                     exact ⟨⟨D + 1, by go_num, by omega, HQ.out⟩, rfl⟩)
                  | (simp [intOf]; omega)
        · obtain rfl : D = 8 := by omega
          have hge : (8 : Int) ≤ ((8 : Nat) : Int) := by omega
          have hin := HA.out.inv
          have HF := hid (show sumTo sp E 8 = outF sp E from rfl)
          have HFs := hid (fun a b => show outF sp E a b ≤ 140737488400000 from by
            have h1 := sum_len sp (fun d hd => HA.out.len hd) 8 (by omega)
            have h3 := hE a b
            have h4 : ((List.range 8).flatMap fun d => spK (sp d)).count (a, b) ≤ ((List.range 8).flatMap fun d => spK (sp d)).length := List.count_le_length
            simp only [outF, Cnt.plus]; omega)
          have HG2 := hid (fun t (ht : t < 10) (hp : 0 < outF sp E t 3) => regs_good (lv := 2) hn 64 (hin.g t (by omega) hp))
          have HG1 := hid (fun t (ht : t < 10) (hp : 0 < full 2 3 M (outF sp E) t 2) => regs_good (lv := 1) hn 64 (hin.inv.g t (by omega) hp))
          rw [HF.out] at HC
          clear hin HF
          have HB2 := HFs
          have HB1 := hid (fun a b => show full 2 3 M (outF sp E) a b ≤ 140737488410000 from by
            rw [← fullTo_end _ _ _ _ hn]
            have := fullTo_le 2 3 M (outF sp E) a b 10; have := HFs.out a b; omega)
          go_wp2
          go_loopw [11] (fun l wr => ∃ s : Nat, l = .int .i64 (2 - (s : Int)) ∧ s ≤ 2 ∧ CW w wr NB (stg M (outF sp E) s)) (fun l _ => (intOf l).toNat)
          case atStart => exact ⟨0, rfl, by omega, HC.out⟩
          case round =>
            clear HC
            obtain ⟨s, rfl, hs, hc⟩ := hrel
            rcases (show s = 0 ∨ s = 1 ∨ s = 2 by omega) with rfl | rfl | rfl
            · have HC := hid (show CW w wr NB (outF sp E) from hc)
              clear hc
              go_wp2
              go_loopw [12] (fun i wr => ∃ j : Nat, i = .int .i64 j ∧ j ≤ 10 ∧ CW w wr NB (fullTo 2 3 M (outF sp E) j)) (fun i _ => 10 - (intOf i).toNat)
              case atStart => exact ⟨0, rfl, by omega, by rw [fullTo_zero]; exact HC.out⟩
              case round =>
                clear HC
                obtain ⟨j, rfl, hj, hc⟩ := hrel
                have HC := hid hc
                clear hc
                have hj0 : (0 : Int) ≤ j := by omega
                by_cases hlt : j < 10
                · have hlt' : (j : Int) < 10 := by omega
                  have zK := cnt4_cell (k := 3) hlt (by omega) HC.out.row
                  rw [fullTo_K (rf_two_ne (by omega))] at zK
                  by_cases hp : 0 < (outF sp E) j 3
                  · have HQ := hid (fullTo_yes (lv := 2) (M := M) hp)
                    have hEn := lEntries B NB j 2 wr M T (fullTo 2 3 M (outF sp E) j) (H.out.grown HC.out.g).m HOk.out hn hlt HC.out.row (fun a b => by have := fullTo_le 2 3 M (outF sp E) a b j; have := HB2.out a b; omega) (by omega)
                    rw [HG2.out j hlt hp] at hEn
                    have HEn := hid (show Calls Try.prog 101 #[.pointer (some ⟨B, 0, none⟩), .slice (some ⟨NB, 0, none⟩) 10 10, .int .i64 j, .int .i64 2] wr _ from hEn)
                    obtain ⟨cc, hcc⟩ : ∃ cc, (outF sp E) j 3 = cc := ⟨_, rfl⟩
                    rw [hcc] at zK hp
                    have hp' : (0 : Int) < cc := by omega
                    clear hEn hcc
                    go_wp2_with (go_at_call 101; refine HEn.out.mono ?_; rintro e w7 ⟨rfl, h7, g7⟩; have HQ7 := hid (show CW w w7 NB (fullTo 2 3 M (outF sp E) (j + 1)) from ⟨by rw [HQ.out]; exact h7, HC.out.g.andThen g7 fun q e => .inl (by cases e; exact HC.out.far), HC.out.far⟩); clear h7 g7)
                    go_roundw
                    case rel => first
                      | exact ⟨j + 1, by go_num, by omega, HQ7.out⟩
                      | (repeat apply Exists.intro
                         exact ⟨⟨j + 1, by go_num, by omega, HQ7.out⟩, rfl⟩)
                    case measure => simp [intOf]; omega
                  · have HQ := hid (show CW w wr NB (fullTo 2 3 M (outF sp E) (j + 1)) by rw [fullTo_no hp]; exact HC.out)
                    have hz : (outF sp E) j 3 = 0 := by omega
                    rw [hz] at zK
                    clear hz hp
                    go_wp2
                    go_roundw
                    case rel => first
                      | exact ⟨j + 1, by go_num, by omega, HQ.out⟩
                      | (repeat apply Exists.intro
                         exact ⟨⟨j + 1, by go_num, by omega, HQ.out⟩, rfl⟩)
                    case measure => simp [intOf]; omega
                · obtain rfl : j = 10 := by omega
                  have hge : (10 : Int) ≤ ((10 : Nat) : Int) := by omega
                  have HQ := hid (show CW w wr NB (stg M (outF sp E) (0 + 1)) by have := HC.out; rwa [fullTo_end _ _ _ _ hn] at this)
                  clear HC
                  go_wp2
                  go_roundw
                  case rel => first
                    | exact ⟨0 + 1, by rfl, by omega, HQ.out⟩
                    | (repeat apply Exists.intro
                       exact ⟨⟨0 + 1, by rfl, by omega, HQ.out⟩, rfl⟩)
                  case measure => simp [intOf]
            · have HC := hid (show CW w wr NB (full 2 3 M (outF sp E)) from hc)
              clear hc
              go_wp2
              go_loopw [12] (fun i wr => ∃ j : Nat, i = .int .i64 j ∧ j ≤ 10 ∧ CW w wr NB (fullTo 1 2 M (full 2 3 M (outF sp E)) j)) (fun i _ => 10 - (intOf i).toNat)
              case atStart => exact ⟨0, rfl, by omega, by rw [fullTo_zero]; exact HC.out⟩
              case round =>
                clear HC
                obtain ⟨j, rfl, hj, hc⟩ := hrel
                have HC := hid hc
                clear hc
                have hj0 : (0 : Int) ≤ j := by omega
                by_cases hlt : j < 10
                · have hlt' : (j : Int) < 10 := by omega
                  have zK := cnt4_cell (k := 2) hlt (by omega) HC.out.row
                  rw [fullTo_K rf_kind1] at zK
                  by_cases hp : 0 < (full 2 3 M (outF sp E)) j 2
                  · have HQ := hid (fullTo_yes (lv := 1) (M := M) hp)
                    have hEn := lEntries B NB j 1 wr M T (fullTo 1 2 M (full 2 3 M (outF sp E)) j) (H.out.grown HC.out.g).m HOk.out hn hlt HC.out.row (fun a b => by have := fullTo_le 1 2 M (full 2 3 M (outF sp E)) a b j; have := HB1.out a b; omega) (by omega)
                    rw [HG1.out j hlt hp] at hEn
                    have HEn := hid (show Calls Try.prog 101 #[.pointer (some ⟨B, 0, none⟩), .slice (some ⟨NB, 0, none⟩) 10 10, .int .i64 j, .int .i64 1] wr _ from hEn)
                    obtain ⟨cc, hcc⟩ : ∃ cc, (full 2 3 M (outF sp E)) j 2 = cc := ⟨_, rfl⟩
                    rw [hcc] at zK hp
                    have hp' : (0 : Int) < cc := by omega
                    clear hEn hcc
                    go_wp2_with (go_at_call 101; refine HEn.out.mono ?_; rintro e w7 ⟨rfl, h7, g7⟩; have HQ7 := hid (show CW w w7 NB (fullTo 1 2 M (full 2 3 M (outF sp E)) (j + 1)) from ⟨by rw [HQ.out]; exact h7, HC.out.g.andThen g7 fun q e => .inl (by cases e; exact HC.out.far), HC.out.far⟩); clear h7 g7)
                    go_roundw
                    case rel => first
                      | exact ⟨j + 1, by go_num, by omega, HQ7.out⟩
                      | (repeat apply Exists.intro
                         exact ⟨⟨j + 1, by go_num, by omega, HQ7.out⟩, rfl⟩)
                    case measure => simp [intOf]; omega
                  · have HQ := hid (show CW w wr NB (fullTo 1 2 M (full 2 3 M (outF sp E)) (j + 1)) by rw [fullTo_no hp]; exact HC.out)
                    have hz : (full 2 3 M (outF sp E)) j 2 = 0 := by omega
                    rw [hz] at zK
                    clear hz hp
                    go_wp2
                    go_roundw
                    case rel => first
                      | exact ⟨j + 1, by go_num, by omega, HQ.out⟩
                      | (repeat apply Exists.intro
                         exact ⟨⟨j + 1, by go_num, by omega, HQ.out⟩, rfl⟩)
                    case measure => simp [intOf]; omega
                · obtain rfl : j = 10 := by omega
                  have hge : (10 : Int) ≤ ((10 : Nat) : Int) := by omega
                  have HQ := hid (show CW w wr NB (stg M (outF sp E) (1 + 1)) by have := HC.out; rwa [fullTo_end _ _ _ _ hn] at this)
                  clear HC
                  go_wp2
                  go_roundw
                  case rel => first
                    | exact ⟨1 + 1, by rfl, by omega, HQ.out⟩
                    | (repeat apply Exists.intro
                       exact ⟨⟨1 + 1, by rfl, by omega, HQ.out⟩, rfl⟩)
                  case measure => simp [intOf]
            · have HC := hid (show CW w wr NB (full 1 2 M (full 2 3 M (outF sp E))) from hc)
              clear hc
              go_wp2
              go_ret
              exact ⟨_, rfl, HC.out⟩
end Go.Proofs.Ytemeihamkdpmoaa
