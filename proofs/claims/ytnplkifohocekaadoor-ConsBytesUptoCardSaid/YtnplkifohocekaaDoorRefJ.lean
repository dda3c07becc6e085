/-
  Contracts of package tenementref01: New.
-/
import Derived.Test.YtnplkifohocekaaDoorRefI
set_option linter.unusedSimpArgs false
set_option linter.unusedVariables false
namespace Go.Proofs.YtnplkifohocekaaDoor
open Go.RowKit
set_option maxHeartbeats 400000

theorem rNew_no (n : Int) (w : World) (h : n < 1 ∨ 256 < n) : Calls Tryd.prog 34 #[.int .i64 n] w fun e w' => e = .returned (.tuple #[.pointer none, .int .i64 1]) ∧ w = w' := by
  by_cases h1 : n < 1
  · clear h
    go_enter Tryd.func34, Tryd.ntmps34
    go_wp2
    go_ret2
    exact ⟨rfl, rfl⟩
  · have h2 : 256 < n := by omega
    clear h
    go_enter Tryd.func34, Tryd.ntmps34
    go_wp2
    go_ret2
    exact ⟨rfl, rfl⟩
theorem zeroRef : (Tryd.prog.info? 55).map (fun i => (i.zero, i.size)) = some (some (.agg #[.slice none 0 0, .slice none 0 0]), 2) := by kernel_rfl

theorem NewSt.cong {w W : World} {b kF kB : Nat} {fc : Nat → List Value} {f f' : Nat → Fr} {g cg : Nat → Nat} {vF vB : Value} (h : NewSt w W b kF kB fc f g cg vF vB) (he : ∀ i, i < kB → f' i = f i) : NewSt w W b kF kB fc f' g cg vF vB :=
  ⟨h.top, h.fr, h.bs, fun i hi => by rw [he i hi]; exact h.row i hi, h.cap, h.inj, h.hb, h.grown⟩
set_option maxRecDepth 100000 in
theorem rNew_yes (n : Nat) (w : World) (h1 : 1 ≤ n) (h2 : n ≤ 256) : Calls Tryd.prog 34 #[.int .i64 n] w fun e w' => ∃ v, e = .returned (.tuple #[v, .int .i64 0]) ∧ NewRef w (upTo n n) v w' := by
  have g1 : (1 : Int) ≤ n := by omega
  have g2 : (n : Int) ≤ 256 := by omega
  obtain ⟨i4, hi, hz0, hz1, hz2⟩ := info_parts info_frame
  have Hi := hid hi; have Hz0 := hid hz0; have Hz1 := hid hz1; have Hz2 := hid hz2
  clear hi hz0 hz1 hz2
  obtain ⟨i3, hi, hz0, hz1, hz2⟩ := info_parts info_bytes
  have Ji := hid hi; have Jz0 := hid hz0; have Jz1 := hid hz1; have Jz2 := hid hz2
  clear hi hz0 hz1 hz2
  go_enter Tryd.func34, Tryd.ntmps34
  go_wp2
  obtain ⟨W0, hW0⟩ : ∃ W0, w.alloc (.cells #[.slice none 0 0, .slice none 0 0] 55) = W0 := ⟨_, rfl⟩
  have HS0 := hid (show NewSt w W0 w.heap.size 0 0 frs (fun _ => blankFr) (fun _ => 0) (fun _ => 0) (.slice none 0 0) (.slice none 0 0) from by
    rw [← hW0]
    refine ⟨⟨_, heap_alloc_new w _, by simp, fun k hk => ?_⟩, World.ownsRow_nil _ _ _ _, World.ownsRow_nil _ _ _ _, fun i hi => by omega, fun i hi => by omega, fun i j hi => by omega, Nat.le_refl _, World.grownBy_alloc w _ none⟩
    match k, hk with
    | 0, _ => rfl
    | 1, _ => rfl)
  rw [hW0]
  clear hW0
  go_loopw [5] (fun i wr => ∃ (k : Nat) (g cg : Nat → Nat) (vF vB : Value), i = .int .i64 k ∧ k ≤ n ∧ NewSt w wr w.heap.size k k frs (fun _ => blankFr) g cg vF vB) (fun i _ => n - (intOf i).toNat)
  case atStart => exact ⟨0, _, _, _, _, rfl, by omega, HS0.out⟩
  case round =>
    obtain ⟨k, g, cg, vF, vB, rfl, hk, hst⟩ := hrel
    by_cases hlt : k < n
    · have hlt' : (k : Int) < n := by omega
      have hk256 : k < 256 := by omega
      have HS := hid hst
      have cF := hst.top.cell (k := 0) (by omega)
      have fF := hst.top.frozen 0
      have HX := hid (hst.ext (World.grownBy_alloc wr (.cells #[.int .i64 (-1), .int .i64 0, .int .i64 0, .int .i64 0] 112) none))
      have HBs := hid (show w.heap.size + 1 ≤ (wr.alloc (.cells #[.int .i64 (-1), .int .i64 0, .int .i64 0, .int .i64 0] 112)).heap.size from by have := hst.top.lt; simp; omega)
      have cF' := HX.out.top.cell (k := 0) (by omega)
      simp only [top2] at cF cF'
      clear hst
      go_wp2_with (at_builtin; refine wpList_append_own _ rfl _ _ 52 rfl (w.heap.size + 1) 112 i4 (.agg #[.int .i64 0, .int .i64 0, .int .i64 0, .int .i64 0]) 4 32 Tryd.underlying52 Hi.out Hz0.out Hz1.out Hz2.out rfl (by decide) _ _ _ rfl HX.out.fr ⟨wr.heap.size, 0, none⟩ 1 1 [.int .i64 (-1), .int .i64 0, .int .i64 0, .int .i64 0] rfl rfl (World.news_of_block (heap_alloc_new wr _)) (by simp [Value.oneCell']) (by unfold maxLen; omega) (by omega) HBs.out ?_; intro v' w1 hown' hgrow hnil; clear hnil; obtain ⟨gf, cf, rfl⟩ := ownsRow_succ hown'; rw [← frs_succ] at hown'; have HS1 := hid (HX.out.stepF hgrow hown'); have cF1 := (HX.out.top.grown hgrow (own_ne_row HX.out.fr HX.out.top (by decide))).cell (k := 0) (by omega); have fF1 := (HX.out.top.grown hgrow (own_ne_row HX.out.fr HX.out.top (by decide))).frozen 0; simp only [top2] at cF1; clear hown' hgrow)
      obtain ⟨W1, hW1⟩ : ∃ W1, w1.setCell ⟨w.heap.size, 0, none⟩ (.slice (some ⟨gf, 0, none⟩) (k + 1) cf) = W1 := ⟨_, rfl⟩
      have HS2 := hid (show NewSt w W1 w.heap.size (k + 1) k frs (fun _ => blankFr) g cg (.slice (some ⟨gf, 0, none⟩) (k + 1) cf) vB from hW1 ▸ HS1.out)
      rw [hW1]
      clear hW1 cF cF' fF cF1 fF1
      have hmk := make_zeros
      have HZ1 := hid (HS2.out.ext (World.grownBy_alloc W1 (.cells zeros 5) none))
      obtain ⟨X, hX⟩ : ∃ X, (W1.alloc (.cells zeros 5)).alloc (.cells #[.slice (some ⟨W1.heap.size, 0, none⟩) 256 256] 22) = X := ⟨_, rfl⟩
      have hXg : (W1.alloc (.cells zeros 5)).grownBy X none := hX ▸ World.grownBy_alloc _ _ none
      have HZ2 := hid (HZ1.out.ext hXg)
      have HZr := hid (show Row X W1.heap.size 5 256 (byt blankFr) from (zeros_row W1).grown hXg (by simp))
      have HXs := hid (show X.heap.size = W1.heap.size + 2 by rw [← hX]; simp)
      have HXn := hid (show X.heap[W1.heap.size + 1]? = some (.cells #[.slice (some ⟨W1.heap.size, 0, none⟩) 256 256] 22 (0, 0)) from by rw [← hX]; have := heap_alloc_new (W1.alloc (.cells zeros 5)) (.cells #[.slice (some ⟨W1.heap.size, 0, none⟩) 256 256] 22); simpa using this)
      have c1 := HS2.out.top.cell (k := 1) (by omega)
      have c1' := HZ1.out.top.cell (k := 1) (by omega)
      have c1'' := HZ2.out.top.cell (k := 1) (by omega)
      simp only [top2] at c1 c1' c1''
      have HbX := hid (show w.heap.size + 1 ≤ X.heap.size from by have := HZ2.out.top.lt; omega)
      clear hXg
      go_region_law (refine step_append_lies _ (by rfl) _ _ 53 (by rfl) (w.heap.size + 1) 22 i3 (.slice none 0 0) 1 24 Tryd.underlying53 Ji.out Jz0.out Jz1.out Jz2.out rfl (by decide) vB k (sls g cg k) (by rfl) HZ2.out.bs ⟨W1.heap.size + 1, 0, none⟩ 1 1 [.slice (some ⟨W1.heap.size, 0, none⟩) 256 256] (by rfl) rfl (World.news_of_block HXn.out) (by simp [Value.oneCell']) (by omega) (by unfold maxLen; omega) (by omega) HbX.out (W1.heap.size + 2) HXs.out ?_; intro gb cb w2 hown' hgrow hat hlt2; have hgrow2 : X.grownBy w2 vB.ownBlock := (by first | exact hgrow | exact (grownBy_drew X _).trans hgrow); have hc2 := (HZ2.out.top.grown hgrow2 (own_ne_row HZ2.out.bs HZ2.out.top (by decide))).cell (k := 1) (by omega); have hf2 := (HZ2.out.top.grown hgrow2 (own_ne_row HZ2.out.bs HZ2.out.top (by decide))).frozen 1; simp only [top2] at hc2; have HS3 := hid (HZ2.out.stepB HZr.out HS2.out.top.lt (fun i hi e => Nat.lt_irrefl _ (e ▸ (HS2.out.row i hi).1.lt)) (Nat.le_refl 256) hgrow2 hown'); clear hown' hgrow hat hlt2 hgrow2)
      all_goals clear hmk hX c1 c1' c1''
      all_goals go_wp2
      all_goals go_roundw
      all_goals first
        | exact ⟨k + 1, _, _, _, _, by go_num, by omega, HS3.out⟩
        | exact ⟨k + 1, _, _, _, _, by go_num, by omega, HS3.out.ext (grownBy_drew _ none)⟩
        | (simp [intOf]; omega)
    · have hge : (n : Int) ≤ k := by omega
      obtain rfl : k = n := by omega
      have HS := hid hst
      clear hst
      go_wp2
      go_ret2
      obtain ⟨m, rfl⟩ : ∃ m, k = m + 1 := ⟨k - 1, by omega⟩
      exact ⟨_, rfl, NewSt.done (M := upTo ((m + 1 : Nat) : Int) (m + 1)) (HS.out.cong fun i hi => by simp [upTo, hi]) rfl fun q hq => by
        have h4 : q / 4 < m + 1 := by omega
        simp [frs, hd, upTo, List.getD, hq, h4]⟩
end Go.Proofs.YtnplkifohocekaaDoor
