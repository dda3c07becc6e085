/-
  Contract of package tenementref01: Copy.
-/
import Derived.Test.YtmemeaaffbalbaaRefJ
namespace Go.Proofs.Ytmemeaaffbalbaa
open Go.RowKit
set_option maxHeartbeats 2000000

def frsM (M : Mach) (k : Nat) : List Value := (List.range (k * 4)).map fun q => hd M q
theorem frsM_len (M : Mach) (k : Nat) : (frsM M k).length = k * 4 := by simp [frsM]
theorem frsM_get (M : Mach) (k j : Nat) (u : Value) (h : (frsM M k)[j]? = some u) : j < k * 4 ∧ u = hd M j := by
  simp only [frsM, List.getElem?_map, Option.map_eq_some_iff] at h
  obtain ⟨a, ha, rfl⟩ := h
  have := List.getElem?_eq_some_iff.1 ha
  obtain ⟨hlt, e⟩ := this
  simp only [List.length_range] at hlt
  simp only [List.getElem_range] at e
  subst e
  exact ⟨hlt, rfl⟩
theorem hd_one (M : Mach) (q : Nat) : (hd M q).oneCell' = true := by
  unfold hd
  have : q % 4 < 4 := by omega
  match h : q % 4, this with
  | 0, _ => rfl
  | 1, _ => rfl
  | 2, _ => rfl
  | 3, _ => rfl
theorem frsM_one (M : Mach) (k : Nat) : ∀ u ∈ frsM M k, u.oneCell' = true := by
  intro u hu
  simp only [frsM, List.mem_map] at hu
  obtain ⟨q, _, rfl⟩ := hu
  exact hd_one M q
theorem frs_news {w : World} {b : Nat} {M : Mach} {L : Lay} (h : RM w b M L) (j : Nat) (u : Value) (hu : (frsM M L.n)[j]? = some u) : w.cell? ((⟨L.fF, 0, none⟩ : Addr).add j) = some u := by
  obtain ⟨hj, rfl⟩ := frsM_get M L.n j u hu
  have e : (⟨L.fF, 0, none⟩ : Addr).add j = ⟨L.fF, j, none⟩ := by unfold Addr.add; split <;> simp_all
  rw [e, h.fr.cell hj]
theorem own_rowB {W : World} {base g c : Nat} {f : Fr} (h : W.ownsRow base 5 1 (.slice (some ⟨g, 0, none⟩) 256 c) 256 (bcells (f.part 0 256))) : base ≤ g ∧ 256 ≤ c ∧ Row W g 5 256 (byt f) := by
  have hc : 256 ≤ c := by
    rcases h.2 with ⟨e, _⟩ | ⟨g', cap, cur, e, _, _, hn, _⟩
    · cases e
    · cases e; exact hn
  obtain ⟨g', c', e, hb, hr⟩ := ownsRow_row (n := 255) h
  cases e
  refine ⟨hb, hc, ?_⟩
  rw [Nat.mul_one] at hr
  refine hr.congr fun k hk => ?_
  have hl : (bcells (f.part 0 256))[k]? = some (byt f k) := by
    rw [bcells_get, Fr.part_get, if_pos hk]
    simp [byt]
  simp [List.getD, hl]
set_option maxRecDepth 100000 in
set_option maxHeartbeats 8000000 in
theorem rCopy (b : Nat) (w : World) (M : Mach) (L : Lay) (h : RM w b M L) (h1 : 1 ≤ M.n) (h2 : M.n ≤ 256) : Calls Try.prog 19 #[.pointer (some ⟨b, 0, none⟩)] w fun e w' => ∃ v, e = .returned v ∧ NewRef w M v w' := by
  have hLn : 1 ≤ L.n := by have := h.hn; omega
  have hLn2 : L.n ≤ 256 := by have := h.hn; omega
  obtain ⟨i4, hi, hz0, hz1, hz2⟩ := info_parts info_frame
  have Hi := hid hi; have Hz0 := hid hz0; have Hz1 := hid hz1; have Hz2 := hid hz2
  clear hi hz0 hz1 hz2
  obtain ⟨i3, hi, hz0, hz1, hz2⟩ := info_parts info_bytes
  have Ji := hid hi; have Jz0 := hid hz0; have Jz1 := hid hz1; have Jz2 := hid hz2
  clear hi hz0 hz1 hz2
  obtain ⟨i5, hi, hz0, hz1, hz2⟩ := info_parts info_u8
  have Ki := hid hi; have Kz0 := hid hz0; have Kz1 := hid hz1; have Kz2 := hid hz2
  clear hi hz0 hz1 hz2
  have HR := hid h
  clear h
  go_enter Try.func19, Try.ntmps19
  go_wp2
  obtain ⟨W0, hW0⟩ : ∃ W0, w.alloc (.cells #[.slice none 0 0, .slice none 0 0] 69) = W0 := ⟨_, rfl⟩
  have HS0 := hid (show NewSt w W0 w.heap.size 0 0 (frsM M) M.fr (fun _ => 0) (fun _ => 0) (.slice none 0 0) (.slice none 0 0) from by
    rw [← hW0]
    refine ⟨⟨_, heap_alloc_new w _, by simp, fun k hk => ?_⟩, World.ownsRow_nil _ _ _ _, World.ownsRow_nil _ _ _ _, fun i hi => by omega, fun i hi => by omega, fun i j hi => by omega, Nat.le_refl _, World.grownBy_alloc w _ none⟩
    match k, hk with
    | 0, _ => rfl
    | 1, _ => rfl)
  have HsW := hid (show W0.heap.size = w.heap.size + 1 by rw [← hW0]; simp)
  rw [hW0]
  clear hW0
  have HR0 := hid (HR.out.grown HS0.out.grown)
  have e0 := HR0.out.slF
  have c0 := HS0.out.top.cell (k := 0) (by omega)
  have f0 := HS0.out.top.frozen 0
  simp only [top2] at c0
  have HF0 := hid (show W0.ownsRow (w.heap.size + 1) 71 4 (.slice none 0 0) 0 [] from HS0.out.fr)
  have HNw := hid (frs_news (HR0.out.grown (grownBy_drew W0 none)))
  have hA1 : 0 < L.n := hLn
  have hA2 : 0 + L.n ≤ maxLen := by unfold maxLen; omega
  have hA3 : (0 + L.n) * 32 ≤ 140737488355328 := by omega
  go_region_law (refine step_append_lies _ (by rfl) _ _ 66 (by rfl) (w.heap.size + 1) 71 i4 (.agg #[.int .i64 0, .int .i64 0, .int .i64 0, .int .i64 0]) 4 32 Try.underlying66 Hi.out Hz0.out Hz1.out Hz2.out rfl (by decide) (.slice none 0 0) 0 [] (by rfl) HF0.out ⟨L.fF, 0, none⟩ L.n L.cF (frsM M L.n) (by rfl) (frsM_len _ _) HNw.out (frsM_one _ _) hA1 hA2 hA3 (Nat.le_of_eq HsW.out.symm) (w.heap.size + 1) HsW.out ?_; intro gf cf w1 hown' hgrow hat hlt2; simp only [Nat.zero_add, List.nil_append] at hown'; have hgrow2 : W0.grownBy w1 (Value.slice none 0 0).ownBlock := (by first | exact hgrow | exact (grownBy_drew W0 _).trans hgrow); have HS1 := hid (HS0.out.stepF hgrow2 hown'); have cF1 := (HS0.out.top.grown hgrow2 (own_ne_row HS0.out.fr HS0.out.top (by decide))).cell (k := 0) (by omega); have fF1 := (HS0.out.top.grown hgrow2 (own_ne_row HS0.out.fr HS0.out.top (by decide))).frozen 0; simp only [top2] at cF1; clear hown' hgrow hgrow2 hat hlt2)
  all_goals clear c0 f0 e0
  all_goals go_wp2
  all_goals
    obtain ⟨W1, hW1⟩ : ∃ W1, w1.setCell ⟨w.heap.size, 0, none⟩ (.slice (some ⟨gf, 0, none⟩) L.n cf) = W1 := ⟨_, rfl⟩
    have HS2 := hid (show NewSt w W1 w.heap.size L.n 0 (frsM M) M.fr (fun _ => 0) (fun _ => 0) (.slice (some ⟨gf, 0, none⟩) L.n cf) (.slice none 0 0) from hW1 ▸ HS1.out)
    try rw [hW1]
    clear hW1 cF1 fF1
    go_loopw [4] (fun i wr => ∃ (k : Nat) (g cg : Nat → Nat) (vB : Value), i = .int .i64 k ∧ k ≤ L.n ∧ NewSt w wr w.heap.size L.n k (frsM M) M.fr g cg (.slice (some ⟨gf, 0, none⟩) L.n cf) vB) (fun i _ => L.n - (intOf i).toNat)
    case atStart => exact ⟨0, _, _, _, rfl, by omega, HS2.out⟩
    case round =>
      clear HS2 HS1
      obtain ⟨k, g, cg, vB, rfl, hk, hst⟩ := hrel
      have HS := hid hst
      have HRr := hid (HR.out.grown hst.grown)
      have e1 := HRr.out.slB
      clear hst
      have hk0 : (0 : Int) ≤ k := by omega
      by_cases hlt : k < L.n
      · have hlt' : (k : Int) < L.n := by omega
        obtain ⟨E, hE⟩ : ∃ E, wr.alloc (.cells #[] 5) = E := ⟨_, rfl⟩
        have hEg : wr.grownBy E none := hE ▸ World.grownBy_alloc wr _ none
        have HEs := hid (show E.heap.size = wr.heap.size + 1 by rw [← hE]; simp)
        have HSE := hid (HS.out.ext hEg)
        have HRE := hid (HRr.out.grown hEg)
        have HOE := hid (show E.ownsRow wr.heap.size 5 1 (.slice (some ⟨wr.heap.size, 0, none⟩) 0 0) 0 [] from hE ▸ World.ownsRow_made wr #[] 0 (Nat.le_refl _) (by unfold maxLen; omega) (by simp))
        have HNE := hid (part_cells (HRE.out.grown (grownBy_drew E none)) (off := 0) (n := 256) hlt (by omega))
        have e2 := HRr.out.sl hlt
        have e1' := HRE.out.slB
        have e2' := HRE.out.sl hlt
        have c1 := HS.out.top.cell (k := 1) (by omega)
        have c1' := HSE.out.top.cell (k := 1) (by omega)
        simp only [top2] at c1 c1'
        have HbE := hid (show wr.heap.size ≤ E.heap.size from hEg.size)
        have HEg := hid hEg
        clear hEg
        have hB1 : (bcells ((M.fr k).part 0 256)).length = 256 * 1 := by rw [bcells_len, part_len]
        have hB2 : 0 + 256 ≤ maxLen := by unfold maxLen; omega
        have hC1 : k + 1 ≤ maxLen := by unfold maxLen; omega
        have hC2 : (k + 1) * 24 ≤ 140737488355328 := by omega
        go_wp2
        go_region_law (first
          | (refine step_append_lies _ (by rfl) _ _ 31 (by rfl) wr.heap.size 5 i5 (.int .u8 0) 1 1 Try.underlying31 Ki.out Kz0.out Kz1.out Kz2.out rfl (by decide) (.slice (some ⟨wr.heap.size, 0, none⟩) 0 0) 0 [] (by rfl) HOE.out ⟨L.g k, 0, none⟩ 256 (L.cg k) (bcells ((M.fr k).part 0 256)) (by rfl) hB1 HNE.out (bcells_one _) (by decide) hB2 (by decide) HbE.out (wr.heap.size + 1) HEs.out ?_; intro g1 cx w2 hown1 hgrow1 hat1 hlt1; have hgrow2 : E.grownBy w2 (some wr.heap.size) := (by first | exact hgrow1 | exact (grownBy_drew E _).trans hgrow1); simp only [Nat.zero_add, List.nil_append] at hown1; obtain ⟨hg1, hcx, hrow1⟩ := own_rowB hown1; have hg2 : wr.grownBy w2 none := HEg.out.andThen hgrow2 (fun j e => by cases e; exact .inl (Nat.le_refl _)); have HSw := hid (HS.out.ext hg2); have HRo := hid hrow1; have HX := hid (HSw.out.ext (World.grownBy_alloc w2 (.cells #[.slice (some ⟨g1, 0, none⟩) 256 cx] 31) none)); have HRX := hid (hrow1.alloc (.cells #[.slice (some ⟨g1, 0, none⟩) 256 cx] 31)); have d1 := HSw.out.top.cell (k := 1) (by omega); have d1' := HX.out.top.cell (k := 1) (by omega); simp only [top2] at d1 d1'; have HXs := hid (show (w2.alloc (.cells #[.slice (some ⟨g1, 0, none⟩) 256 cx] 31)).heap.size = w2.heap.size + 1 by simp); have HXn := hid (World.news_of_block (heap_alloc_new w2 (.cells #[.slice (some ⟨g1, 0, none⟩) 256 cx] 31))); have HbX := hid (show w.heap.size + 1 ≤ (w2.alloc (.cells #[.slice (some ⟨g1, 0, none⟩) 256 cx] 31)).heap.size from by have := HX.out.top.lt; omega); have hbg : w.heap.size < g1 := (by have := HS.out.top.lt; omega); have hgne : ∀ i, i < k → g i ≠ g1 := (fun i hi e => by have := (HS.out.row i hi).1.lt; omega); have Hhb := hid (And.intro hbg (And.intro hgne hcx)); clear hown1 hgrow1 hat1 hlt1 hgrow2 hrow1 hg2 hg1 hbg hgne hcx)
          | (refine step_append_lies _ (by rfl) _ _ 67 (by rfl) (w.heap.size + 1) 31 i3 (.slice none 0 0) 1 24 Try.underlying67 Ji.out Jz0.out Jz1.out Jz2.out rfl (by decide) vB k (sls g cg k) (by rfl) HX.out.bs ⟨w2.heap.size, 0, none⟩ 1 1 [.slice (some ⟨g1, 0, none⟩) 256 cx] (by rfl) rfl HXn.out (by simp [Value.oneCell']) (by decide) hC1 hC2 HbX.out (w2.heap.size + 1) HXs.out ?_; intro gb cb w3 hown3 hgrow3 hat3 hlt3; have hgrow4 : (w2.alloc (.cells #[.slice (some ⟨g1, 0, none⟩) 256 cx] 31)).grownBy w3 vB.ownBlock := (by first | exact hgrow3 | exact (grownBy_drew (w2.alloc (.cells #[.slice (some ⟨g1, 0, none⟩) 256 cx] 31)) _).trans hgrow3); have hc3 := (HX.out.top.grown hgrow4 (own_ne_row HX.out.bs HX.out.top (by decide))).cell (k := 1) (by omega); have hf3 := (HX.out.top.grown hgrow4 (own_ne_row HX.out.bs HX.out.top (by decide))).frozen 1; simp only [top2] at hc3; have HS3 := hid (HX.out.stepB HRX.out Hhb.out.1 Hhb.out.2.1 Hhb.out.2.2 hgrow4 hown3); clear hown3 hgrow3 hat3 hlt3 hgrow4))
        all_goals clear hE e1 e1' e2 e2' c1 c1' d1 d1'
        all_goals go_wp2
        all_goals go_roundw
        all_goals first
          | exact ⟨k + 1, _, _, _, by go_num, by omega, HS3.out⟩
          | exact ⟨k + 1, _, _, _, by go_num, by omega, HS3.out.ext (grownBy_drew _ none)⟩
          | (simp [intOf]; omega)
      · have hge : (L.n : Int) ≤ k := by omega
        obtain rfl : k = L.n := by omega
        go_wp2
        go_ret
        obtain ⟨m, hm⟩ : ∃ m, L.n = m + 1 := ⟨L.n - 1, by omega⟩
        have hS := HS.out
        rw [hm] at hS
        exact ⟨_, rfl, NewSt.done (M := M) hS (by rw [HR.out.hn, hm]) fun q hq => by
          simp [frsM, List.getD, hq]⟩
end Go.Proofs.Ytmemeaaffbalbaa
