/-
  BlkReplies: for every response and every row of bytes the law returns true, and what was there stays. No condition.
-/
import Derived.Test.YtbpcliajefeihaaBkD
import Derived.Test.YtbpcliajefeihaaOpenS
import Derived.Deep.Cut
set_option linter.unusedSimpArgs false
set_option linter.unusedVariables false
namespace Go.Proofs.Ytbpcliajefeihaa.lawBkReplies
open Go.ChangeShapes Go.WideShapes Go.ChangeAt Go.RowKit Gen Bk
set_option maxHeartbeats 4000000

set_option maxRecDepth 100000 in
theorem walk_no_some (p : Rp) (hf : p.fits) (l : List UInt8) (a : Addr) (c : Nat) (w : World) (hlen : l.length ≤ 140737488351232) (hc : l.length ≤ c) (h : BA w (some a) l) (hk : p.ok = false) :
    Calls Try.prog 6 #[p.val, .slice (some a) l.length c] w fun e w' => e = .returned (.bool true) ∧ w.grownBy w' none := by
  obtain ⟨i0, hi, hz0, hz1, hz2⟩ := info_parts info_u8
  have Hi := hid hi; have Hz0 := hid hz0; have Hz1 := hid hz1; have Hz2 := hid hz2
  have H1 := hid fun w' => bPackR_no p hf w' hk
  have H2 := hid fun w' => rPackR_no p w' hk
  have hs0 := fun w' => conv_empty w' none 0
  have HAW := hid fun w' => blkAwake w'
  have hU1 := fun p' c' w' h' hc' => bUnR l p' c' w' h' hc' hlen
  have hU2 := fun p' c' w' h' hc' => rUnR l p' c' w' h' hc' hlen
  have hur : (unrV l).2 = 0 ∨ (unrV l).2 = 1 := by unfold unrV; split <;> simp
  obtain ⟨⟨⟨i1, o1, s1⟩, k1⟩, hq⟩ : ∃ q, unrV l = q := ⟨_, rfl⟩
  rw [hq] at hU1 hU2 hur
  simp only at hur
  obtain ⟨i, o, s⟩ := p
  simp only [Rp.val] at H1 H2 hU1 hU2  ⊢
  have HU1 := hid hU1; have HU2 := hid hU2
  have HB := hid h
  have HC := hid hc; have HLEN := hid hlen
  clear hi hz0 hz1 hz2 hU1 hU2 hq h hc hk hf
  obtain ⟨W, hW⟩ : ∃ W, w.alloc (.cells #[.int .i64 i, .int .i64 o, .int .i64 s] 45) = W := ⟨_, rfl⟩
  have HG0 := hid (show w.grownBy W none from hW ▸ World.grownBy_alloc _ _ _)
  have c0 : W.cell? ⟨w.heap.size, 0, none⟩ = some (.int .i64 i) := by rw [← hW]; simp [go_sem]
  have c1 : W.cell? ⟨w.heap.size, 1, none⟩ = some (.int .i64 o) := by rw [← hW]; simp [go_sem]
  have c2 : W.cell? ⟨w.heap.size, 2, none⟩ = some (.int .i64 s) := by rw [← hW]; simp [go_sem]
  go_enter Try.func6, Try.ntmps6
  rcases hur with rfl | rfl
  all_goals
    go_wp2_with (first
      | (go_at_call 17; refine (H1.out _).mono ?_; rintro e w1 ⟨rfl, g1⟩; have G1 := hid g1; have d0 := (G1.out).cell c0 (by simp); have d1 := (G1.out).cell c1 (by simp); have d2 := (G1.out).cell c2 (by simp); clear g1)
      | (go_at_call 18; refine (H2.out _).mono ?_; rintro e w2 ⟨rfl, g2⟩; have G2 := hid g2; have HG2 := hid ((HG0.out.trans G1.out).trans g2); have f0 := (G2.out).cell d0 (by simp); have f1 := (G2.out).cell d1 (by simp); have f2 := (G2.out).cell d2 (by simp); clear g2)
      | (at_builtin; refine wpList_append_own _ rfl _ _ 25 rfl w2.heap.size 5 i0 (.int .u8 0) 1 1 Try.underlying25 Hi.out Hz0.out Hz1.out Hz2.out rfl (by decide) _ _ _ rfl (own_made0 w2) a l.length c (bcells l) rfl (by rw [bcells_len, Nat.mul_one]) (fun j u hu => news_ba ((HB.out.grown HG2.out).grown (World.grownBy_alloc w2 _ none)) j u hu) (bcells_one l) (by have := HLEN.out; unfold maxLen; omega) (by have := HLEN.out; omega) (alloc_le w2 _) ?_; intro v' w3 hown' hgrow hnil; clear hnil; have G3 := hid ((World.grownBy_alloc w2 (.cells #[] 5) none).andThen hgrow (fun j hj => .inl (by cases hj; exact Nat.le_refl _))); rw [Nat.zero_add, bcells_nil, List.nil_append] at hown'; obtain ⟨p', c', rfl, hg', hc', _⟩ := own_ba hown'; have HB' := hid hg'; have HC' := hid hc'; clear hown' hgrow hg' hc')
      | (go_at_call 19; first
        | ((with_reducible refine (HU1.out p' c' _ HB'.out HC'.out).mono ?_); rintro e w4 ⟨rfl, g4⟩; have G4 := hid ((G3.out).trans g4); have p0 := (G4.out).cell f0 (by simp); have p1 := (G4.out).cell f1 (by simp); have p2 := (G4.out).cell f2 (by simp); clear g4))
      | (go_at_call 20; refine (HU2.out _ _ _ (((HB.out.grown HG2.out).grown G4.out).grown (World.grownBy_alloc w4 _ none)) HC.out).mono ?_; rintro e w5 ⟨rfl, g5⟩; have G5 := hid g5; have HG5 := hid ((HG2.out.trans G4.out).trans ((World.grownBy_alloc w4 (.cells #[.int .i64 i1, .int .i64 o1, .int .i64 s1] 45) none).trans g5)); have RD5 := hid ((rowA (w := w4) rfl).grown g5 (by simp)); have t0 := fun ob => (World.grownBy_alloc w5 ob none).cell (g5.cell (a := ⟨w4.heap.size, 0, none⟩) (v := .int .i64 i1) (by simp [go_sem]) (by simp)) (by simp); have t1 := fun ob => (World.grownBy_alloc w5 ob none).cell (g5.cell (a := ⟨w4.heap.size, 1, none⟩) (v := .int .i64 o1) (by simp [go_sem]) (by simp)) (by simp); have t2 := fun ob => (World.grownBy_alloc w5 ob none).cell (g5.cell (a := ⟨w4.heap.size, 2, none⟩) (v := .int .i64 s1) (by simp [go_sem]) (by simp)) (by simp); have u0 := fun ob => (World.grownBy_alloc w5 ob none).cell (g5.cell ((World.grownBy_alloc w4 (.cells #[.int .i64 i1, .int .i64 o1, .int .i64 s1] 45) none).cell p0 (by simp)) (by simp)) (by simp); have u1 := fun ob => (World.grownBy_alloc w5 ob none).cell (g5.cell ((World.grownBy_alloc w4 (.cells #[.int .i64 i1, .int .i64 o1, .int .i64 s1] 45) none).cell p1 (by simp)) (by simp)) (by simp); have u2 := fun ob => (World.grownBy_alloc w5 ob none).cell (g5.cell ((World.grownBy_alloc w4 (.cells #[.int .i64 i1, .int .i64 o1, .int .i64 s1] 45) none).cell p2 (by simp)) (by simp)) (by simp); clear g5)
      | (go_at_call 10; refine (HAW.out _).mono ?_; rintro e w7 ⟨rfl, g7⟩; have HG7 := hid ((HG5.out.trans (World.grownBy_alloc w5 (.cells #[.int .i64 i1, .int .i64 o1, .int .i64 s1] 45) none)).trans g7); clear g7))
    go_ret
    exact ⟨rfl, HG7.out⟩
set_option maxRecDepth 100000 in
theorem walk_no_none (p : Rp) (hf : p.fits) (c : Nat) (w : World) (hk : p.ok = false) :
    Calls Try.prog 6 #[p.val, .slice none 0 c] w fun e w' => e = .returned (.bool true) ∧ w.grownBy w' none := by
  obtain ⟨i0, hi, hz0, hz1, hz2⟩ := info_parts info_u8
  have Hi := hid hi; have Hz0 := hid hz0; have Hz1 := hid hz1; have Hz2 := hid hz2
  have hlen : ([] : List UInt8).length ≤ 140737488351232 := by decide
  have h : BA w none [] := BA.nil _ _
  have hc : ([] : List UInt8).length ≤ c := Nat.zero_le _
  have H1 := hid fun w' => bPackR_no p hf w' hk
  have H2 := hid fun w' => rPackR_no p w' hk
  have hs0 := fun w' => conv_empty w' none 0
  have HAW := hid fun w' => blkAwake w'
  have hU1 := fun p' c' w' h' hc' => bUnR [] p' c' w' h' hc' hlen
  have hU2 := fun p' c' w' h' hc' => rUnR [] p' c' w' h' hc' hlen
  have hur : (unrV []).2 = 0 ∨ (unrV []).2 = 1 := by unfold unrV; split <;> simp
  obtain ⟨⟨⟨i1, o1, s1⟩, k1⟩, hq⟩ : ∃ q, unrV [] = q := ⟨_, rfl⟩
  rw [hq] at hU1 hU2 hur
  simp only at hur
  obtain ⟨i, o, s⟩ := p
  simp only [Rp.val] at H1 H2 hU1 hU2  ⊢
  simp only [List.length_nil] at hU1 hU2
  have HU1 := hid hU1; have HU2 := hid hU2
  have HB := hid h
  clear hi hz0 hz1 hz2 hU1 hU2 hq h hc hk hf
  obtain ⟨W, hW⟩ : ∃ W, w.alloc (.cells #[.int .i64 i, .int .i64 o, .int .i64 s] 45) = W := ⟨_, rfl⟩
  have HG0 := hid (show w.grownBy W none from hW ▸ World.grownBy_alloc _ _ _)
  have c0 : W.cell? ⟨w.heap.size, 0, none⟩ = some (.int .i64 i) := by rw [← hW]; simp [go_sem]
  have c1 : W.cell? ⟨w.heap.size, 1, none⟩ = some (.int .i64 o) := by rw [← hW]; simp [go_sem]
  have c2 : W.cell? ⟨w.heap.size, 2, none⟩ = some (.int .i64 s) := by rw [← hW]; simp [go_sem]
  go_enter Try.func6, Try.ntmps6
  rcases hur with rfl | rfl
  all_goals
    go_wp2_with (first
      | (go_at_call 17; refine (H1.out _).mono ?_; rintro e w1 ⟨rfl, g1⟩; have G1 := hid g1; have d0 := (G1.out).cell c0 (by simp); have d1 := (G1.out).cell c1 (by simp); have d2 := (G1.out).cell c2 (by simp); clear g1)
      | (go_at_call 18; refine (H2.out _).mono ?_; rintro e w2 ⟨rfl, g2⟩; have G2 := hid g2; have HG2 := hid ((HG0.out.trans G1.out).trans g2); have f0 := (G2.out).cell d0 (by simp); have f1 := (G2.out).cell d1 (by simp); have f2 := (G2.out).cell d2 (by simp); clear g2)
      | (go_at_call 19; first
        | ((with_reducible refine (HU1.out (some ⟨w2.heap.size, 0, none⟩) 0 _ (BA.nil _ _) (Nat.zero_le _)).mono ?_); rintro e w4 ⟨rfl, g4⟩; have G4 := hid ((World.grownBy_alloc w2 (.cells #[] 5) none).trans g4); have p0 := (G4.out).cell f0 (by simp); have p1 := (G4.out).cell f1 (by simp); have p2 := (G4.out).cell f2 (by simp); clear g4))
      | (go_at_call 20; refine (HU2.out _ _ _ (BA.nil _ _) (Nat.zero_le _)).mono ?_; rintro e w5 ⟨rfl, g5⟩; have G5 := hid g5; have HG5 := hid ((HG2.out.trans G4.out).trans ((World.grownBy_alloc w4 (.cells #[.int .i64 i1, .int .i64 o1, .int .i64 s1] 45) none).trans g5)); have RD5 := hid ((rowA (w := w4) rfl).grown g5 (by simp)); have t0 := fun ob => (World.grownBy_alloc w5 ob none).cell (g5.cell (a := ⟨w4.heap.size, 0, none⟩) (v := .int .i64 i1) (by simp [go_sem]) (by simp)) (by simp); have t1 := fun ob => (World.grownBy_alloc w5 ob none).cell (g5.cell (a := ⟨w4.heap.size, 1, none⟩) (v := .int .i64 o1) (by simp [go_sem]) (by simp)) (by simp); have t2 := fun ob => (World.grownBy_alloc w5 ob none).cell (g5.cell (a := ⟨w4.heap.size, 2, none⟩) (v := .int .i64 s1) (by simp [go_sem]) (by simp)) (by simp); have u0 := fun ob => (World.grownBy_alloc w5 ob none).cell (g5.cell ((World.grownBy_alloc w4 (.cells #[.int .i64 i1, .int .i64 o1, .int .i64 s1] 45) none).cell p0 (by simp)) (by simp)) (by simp); have u1 := fun ob => (World.grownBy_alloc w5 ob none).cell (g5.cell ((World.grownBy_alloc w4 (.cells #[.int .i64 i1, .int .i64 o1, .int .i64 s1] 45) none).cell p1 (by simp)) (by simp)) (by simp); have u2 := fun ob => (World.grownBy_alloc w5 ob none).cell (g5.cell ((World.grownBy_alloc w4 (.cells #[.int .i64 i1, .int .i64 o1, .int .i64 s1] 45) none).cell p2 (by simp)) (by simp)) (by simp); clear g5)
      | (go_at_call 10; refine (HAW.out _).mono ?_; rintro e w7 ⟨rfl, g7⟩; have HG7 := hid ((HG5.out.trans (World.grownBy_alloc w5 (.cells #[.int .i64 i1, .int .i64 o1, .int .i64 s1] 45) none)).trans g7); clear g7))
    go_ret
    exact ⟨rfl, HG7.out⟩
set_option maxRecDepth 100000 in
theorem walk_yes_some (p : Rp) (hf : p.fits) (l : List UInt8) (a : Addr) (c : Nat) (w : World) (hlen : l.length ≤ 140737488351232) (hc : l.length ≤ c) (h : BA w (some a) l) (hk : p.ok = true) :
    Calls Try.prog 6 #[p.val, .slice (some a) l.length c] w fun e w' => e = .returned (.bool true) ∧ w.grownBy w' none := by
  obtain ⟨i0, hi, hz0, hz1, hz2⟩ := info_parts info_u8
  have Hi := hid hi; have Hz0 := hid hz0; have Hz1 := hid hz1; have Hz2 := hid hz2
  have H1 := hid fun w' => bPackR_yes p hf w' hk
  have H2 := hid fun w' => rPackR_yes p w' hk
  have hxl : (rpB p).length = 8 := rfl
  have HUx := hid fun p' c' w' h' hc' => rp_back p hk ▸ bUnR (rpB p) p' c' w' h' hc' (by rw [hxl]; decide)
  have hxs : ∀ (p' : Option Addr) (c' : Nat) (w' : World), BA w' p' (rpB p) → (convert 25 9 (.slice p' 8 c')).run Try.prog w' = .ok (.string ⟨(rpB p).toArray⟩) w' := fun p' c' w' h' => h'.string c'
  have HXS := hid hxs
  clear hxs
  have HAW := hid fun w' => blkAwake w'
  have hU1 := fun p' c' w' h' hc' => bUnR l p' c' w' h' hc' hlen
  have hU2 := fun p' c' w' h' hc' => rUnR l p' c' w' h' hc' hlen
  have hur : (unrV l).2 = 0 ∨ (unrV l).2 = 1 := by unfold unrV; split <;> simp
  obtain ⟨⟨⟨i1, o1, s1⟩, k1⟩, hq⟩ : ∃ q, unrV l = q := ⟨_, rfl⟩
  rw [hq] at hU1 hU2 hur
  simp only at hur
  obtain ⟨XL, hXL⟩ : ∃ XL, rpB p = XL := ⟨_, rfl⟩
  rw [hXL] at H1 H2 HUx hxl HXS
  rw [hxl] at HUx
  obtain ⟨i, o, s⟩ := p
  simp only [Rp.val] at H1 H2 hU1 hU2 HUx ⊢
  have HU1 := hid hU1; have HU2 := hid hU2
  have HB := hid h
  have HC := hid hc; have HLEN := hid hlen
  clear hi hz0 hz1 hz2 hU1 hU2 hq h hc hk hf
  clear hXL
  obtain ⟨W, hW⟩ : ∃ W, w.alloc (.cells #[.int .i64 i, .int .i64 o, .int .i64 s] 45) = W := ⟨_, rfl⟩
  have HG0 := hid (show w.grownBy W none from hW ▸ World.grownBy_alloc _ _ _)
  have c0 : W.cell? ⟨w.heap.size, 0, none⟩ = some (.int .i64 i) := by rw [← hW]; simp [go_sem]
  have c1 : W.cell? ⟨w.heap.size, 1, none⟩ = some (.int .i64 o) := by rw [← hW]; simp [go_sem]
  have c2 : W.cell? ⟨w.heap.size, 2, none⟩ = some (.int .i64 s) := by rw [← hW]; simp [go_sem]
  go_enter Try.func6, Try.ntmps6
  rcases hur with rfl | rfl
  all_goals
    go_wp2_with (first
      | (go_at_call 17; refine (H1.out _).mono ?_; rintro e w1 ⟨v, rfl, hn⟩; obtain ⟨px, cx, rfl, hx, hcx, hpx⟩ := hn.ba; have G1 := hid hn.2; have HX1 := hid hx; have HCX := hid hcx; rw [hxl]; have d0 := (G1.out).cell c0 (by simp); have d1 := (G1.out).cell c1 (by simp); have d2 := (G1.out).cell c2 (by simp); clear hn hx hcx hpx)
      | (go_at_call 18; refine (H2.out _).mono ?_; rintro e w2 ⟨v, rfl, hn⟩; obtain ⟨pu, cu, rfl, hx, hcx, hpx⟩ := hn.ba; have G2 := hid hn.2; have HX2 := hid (HX1.out.grown hn.2); have HS1 := HXS.out px cx _ HX2.out; have HS2 := HXS.out pu cu _ hx; rw [hxl]; have HG2 := hid ((HG0.out.trans G1.out).trans G2.out); have f0 := (G2.out).cell d0 (by simp); have f1 := (G2.out).cell d1 (by simp); have f2 := (G2.out).cell d2 (by simp); clear hn hx hcx hpx)
      | (at_builtin; refine wpList_append_own _ rfl _ _ 25 rfl w2.heap.size 5 i0 (.int .u8 0) 1 1 Try.underlying25 Hi.out Hz0.out Hz1.out Hz2.out rfl (by decide) _ _ _ rfl (own_made0 w2) a l.length c (bcells l) rfl (by rw [bcells_len, Nat.mul_one]) (fun j u hu => news_ba ((HB.out.grown HG2.out).grown (World.grownBy_alloc w2 _ none)) j u hu) (bcells_one l) (by have := HLEN.out; unfold maxLen; omega) (by have := HLEN.out; omega) (alloc_le w2 _) ?_; intro v' w3 hown' hgrow hnil; clear hnil; have G3 := hid ((World.grownBy_alloc w2 (.cells #[] 5) none).andThen hgrow (fun j hj => .inl (by cases hj; exact Nat.le_refl _))); rw [Nat.zero_add, bcells_nil, List.nil_append] at hown'; obtain ⟨p', c', rfl, hg', hc', _⟩ := own_ba hown'; have HB' := hid hg'; have HC' := hid hc'; clear hown' hgrow hg' hc')
      | (go_at_call 19; first
        | ((with_reducible refine (HU1.out p' c' _ HB'.out HC'.out).mono ?_); rintro e w4 ⟨rfl, g4⟩; have G4 := hid ((G3.out).trans g4); have p0 := (G4.out).cell f0 (by simp); have p1 := (G4.out).cell f1 (by simp); have p2 := (G4.out).cell f2 (by simp); clear g4)
        | ((with_reducible refine (HUx.out px cx _ ((((HX2.out.grown G4.out).grown (World.grownBy_alloc w4 _ none)).grown G5.out).grown (World.grownBy_alloc w5 _ none)) HCX'.out).mono ?_); rintro e w6 ⟨rfl, g6⟩; have HG6 := hid ((HG5.out.trans (World.grownBy_alloc w5 (.cells #[.int .i64 i1, .int .i64 o1, .int .i64 s1] 45) none)).trans g6); have RD6 := hid ((RD5.out.grown (World.grownBy_alloc w5 (.cells #[.int .i64 i1, .int .i64 o1, .int .i64 s1] 45) none) (by simp)).grown g6 (by simp)); have y0 := RD6.out.cell (k := 0) (by omega); have y1 := RD6.out.cell (k := 1) (by omega); have y2 := RD6.out.cell (k := 2) (by omega); have yz := RD6.out.frozen; simp only [triV] at y0 y1 y2; have x0 := g6.cell (u0 (.cells #[.int .i64 i1, .int .i64 o1, .int .i64 s1] 45)) (by simp); have x1 := g6.cell (u1 (.cells #[.int .i64 i1, .int .i64 o1, .int .i64 s1] 45)) (by simp); have x2 := g6.cell (u2 (.cells #[.int .i64 i1, .int .i64 o1, .int .i64 s1] 45)) (by simp); have ne0 := HNE.out; have ne1 := Ne.symm HNE.out; clear g6))
      | (go_at_call 20; refine (HU2.out _ _ _ (((HB.out.grown HG2.out).grown G4.out).grown (World.grownBy_alloc w4 _ none)) HC.out).mono ?_; rintro e w5 ⟨rfl, g5⟩; have G5 := hid g5; have HG5 := hid ((HG2.out.trans G4.out).trans ((World.grownBy_alloc w4 (.cells #[.int .i64 i1, .int .i64 o1, .int .i64 s1] 45) none).trans g5)); have RD5 := hid ((rowA (w := w4) rfl).grown g5 (by simp)); have t0 := fun ob => (World.grownBy_alloc w5 ob none).cell (g5.cell (a := ⟨w4.heap.size, 0, none⟩) (v := .int .i64 i1) (by simp [go_sem]) (by simp)) (by simp); have t1 := fun ob => (World.grownBy_alloc w5 ob none).cell (g5.cell (a := ⟨w4.heap.size, 1, none⟩) (v := .int .i64 o1) (by simp [go_sem]) (by simp)) (by simp); have t2 := fun ob => (World.grownBy_alloc w5 ob none).cell (g5.cell (a := ⟨w4.heap.size, 2, none⟩) (v := .int .i64 s1) (by simp [go_sem]) (by simp)) (by simp); have u0 := fun ob => (World.grownBy_alloc w5 ob none).cell (g5.cell ((World.grownBy_alloc w4 (.cells #[.int .i64 i1, .int .i64 o1, .int .i64 s1] 45) none).cell p0 (by simp)) (by simp)) (by simp); have u1 := fun ob => (World.grownBy_alloc w5 ob none).cell (g5.cell ((World.grownBy_alloc w4 (.cells #[.int .i64 i1, .int .i64 o1, .int .i64 s1] 45) none).cell p1 (by simp)) (by simp)) (by simp); have u2 := fun ob => (World.grownBy_alloc w5 ob none).cell (g5.cell ((World.grownBy_alloc w4 (.cells #[.int .i64 i1, .int .i64 o1, .int .i64 s1] 45) none).cell p2 (by simp)) (by simp)) (by simp); have HNE := hid (show w.heap.size ≠ w4.heap.size from fun e => by have := World.block_lt_of_cell? w4 _ p0; simp only at this; omega); have HCX' := hid (show 8 ≤ cx from hxl ▸ HCX.out); clear g5)
      | (go_at_call 10; refine (HAW.out _).mono ?_; rintro e w7 ⟨rfl, g7⟩; have HG7 := hid ((HG5.out.trans (World.grownBy_alloc w5 (.cells #[.int .i64 i1, .int .i64 o1, .int .i64 s1] 45) none)).trans g7); clear g7))
    go_ret
    refine ⟨rfl, HG6.out.andThen (set3_grown w6 w4.heap.size _ _ _) (fun j e => .inl (by cases e; exact Nat.le_trans HG2.out.size G4.out.size))⟩
set_option maxRecDepth 100000 in
theorem walk_yes_none (p : Rp) (hf : p.fits) (c : Nat) (w : World) (hk : p.ok = true) :
    Calls Try.prog 6 #[p.val, .slice none 0 c] w fun e w' => e = .returned (.bool true) ∧ w.grownBy w' none := by
  obtain ⟨i0, hi, hz0, hz1, hz2⟩ := info_parts info_u8
  have Hi := hid hi; have Hz0 := hid hz0; have Hz1 := hid hz1; have Hz2 := hid hz2
  have hlen : ([] : List UInt8).length ≤ 140737488351232 := by decide
  have h : BA w none [] := BA.nil _ _
  have hc : ([] : List UInt8).length ≤ c := Nat.zero_le _
  have H1 := hid fun w' => bPackR_yes p hf w' hk
  have H2 := hid fun w' => rPackR_yes p w' hk
  have hxl : (rpB p).length = 8 := rfl
  have HUx := hid fun p' c' w' h' hc' => rp_back p hk ▸ bUnR (rpB p) p' c' w' h' hc' (by rw [hxl]; decide)
  have hxs : ∀ (p' : Option Addr) (c' : Nat) (w' : World), BA w' p' (rpB p) → (convert 25 9 (.slice p' 8 c')).run Try.prog w' = .ok (.string ⟨(rpB p).toArray⟩) w' := fun p' c' w' h' => h'.string c'
  have HXS := hid hxs
  clear hxs
  have HAW := hid fun w' => blkAwake w'
  have hU1 := fun p' c' w' h' hc' => bUnR [] p' c' w' h' hc' hlen
  have hU2 := fun p' c' w' h' hc' => rUnR [] p' c' w' h' hc' hlen
  have hur : (unrV []).2 = 0 ∨ (unrV []).2 = 1 := by unfold unrV; split <;> simp
  obtain ⟨⟨⟨i1, o1, s1⟩, k1⟩, hq⟩ : ∃ q, unrV [] = q := ⟨_, rfl⟩
  rw [hq] at hU1 hU2 hur
  simp only at hur
  obtain ⟨XL, hXL⟩ : ∃ XL, rpB p = XL := ⟨_, rfl⟩
  rw [hXL] at H1 H2 HUx hxl HXS
  rw [hxl] at HUx
  obtain ⟨i, o, s⟩ := p
  simp only [Rp.val] at H1 H2 hU1 hU2 HUx ⊢
  simp only [List.length_nil] at hU1 hU2
  have HU1 := hid hU1; have HU2 := hid hU2
  have HB := hid h
  clear hi hz0 hz1 hz2 hU1 hU2 hq h hc hk hf
  clear hXL
  obtain ⟨W, hW⟩ : ∃ W, w.alloc (.cells #[.int .i64 i, .int .i64 o, .int .i64 s] 45) = W := ⟨_, rfl⟩
  have HG0 := hid (show w.grownBy W none from hW ▸ World.grownBy_alloc _ _ _)
  have c0 : W.cell? ⟨w.heap.size, 0, none⟩ = some (.int .i64 i) := by rw [← hW]; simp [go_sem]
  have c1 : W.cell? ⟨w.heap.size, 1, none⟩ = some (.int .i64 o) := by rw [← hW]; simp [go_sem]
  have c2 : W.cell? ⟨w.heap.size, 2, none⟩ = some (.int .i64 s) := by rw [← hW]; simp [go_sem]
  go_enter Try.func6, Try.ntmps6
  rcases hur with rfl | rfl
  all_goals
    go_wp2_with (first
      | (go_at_call 17; refine (H1.out _).mono ?_; rintro e w1 ⟨v, rfl, hn⟩; obtain ⟨px, cx, rfl, hx, hcx, hpx⟩ := hn.ba; have G1 := hid hn.2; have HX1 := hid hx; have HCX := hid hcx; rw [hxl]; have d0 := (G1.out).cell c0 (by simp); have d1 := (G1.out).cell c1 (by simp); have d2 := (G1.out).cell c2 (by simp); clear hn hx hcx hpx)
      | (go_at_call 18; refine (H2.out _).mono ?_; rintro e w2 ⟨v, rfl, hn⟩; obtain ⟨pu, cu, rfl, hx, hcx, hpx⟩ := hn.ba; have G2 := hid hn.2; have HX2 := hid (HX1.out.grown hn.2); have HS1 := HXS.out px cx _ HX2.out; have HS2 := HXS.out pu cu _ hx; rw [hxl]; have HG2 := hid ((HG0.out.trans G1.out).trans G2.out); have f0 := (G2.out).cell d0 (by simp); have f1 := (G2.out).cell d1 (by simp); have f2 := (G2.out).cell d2 (by simp); clear hn hx hcx hpx)
      | (go_at_call 19; first
        | ((with_reducible refine (HU1.out (some ⟨w2.heap.size, 0, none⟩) 0 _ (BA.nil _ _) (Nat.zero_le _)).mono ?_); rintro e w4 ⟨rfl, g4⟩; have G4 := hid ((World.grownBy_alloc w2 (.cells #[] 5) none).trans g4); have p0 := (G4.out).cell f0 (by simp); have p1 := (G4.out).cell f1 (by simp); have p2 := (G4.out).cell f2 (by simp); clear g4)
        | ((with_reducible refine (HUx.out px cx _ ((((HX2.out.grown G4.out).grown (World.grownBy_alloc w4 _ none)).grown G5.out).grown (World.grownBy_alloc w5 _ none)) HCX'.out).mono ?_); rintro e w6 ⟨rfl, g6⟩; have HG6 := hid ((HG5.out.trans (World.grownBy_alloc w5 (.cells #[.int .i64 i1, .int .i64 o1, .int .i64 s1] 45) none)).trans g6); have RD6 := hid ((RD5.out.grown (World.grownBy_alloc w5 (.cells #[.int .i64 i1, .int .i64 o1, .int .i64 s1] 45) none) (by simp)).grown g6 (by simp)); have y0 := RD6.out.cell (k := 0) (by omega); have y1 := RD6.out.cell (k := 1) (by omega); have y2 := RD6.out.cell (k := 2) (by omega); have yz := RD6.out.frozen; simp only [triV] at y0 y1 y2; have x0 := g6.cell (u0 (.cells #[.int .i64 i1, .int .i64 o1, .int .i64 s1] 45)) (by simp); have x1 := g6.cell (u1 (.cells #[.int .i64 i1, .int .i64 o1, .int .i64 s1] 45)) (by simp); have x2 := g6.cell (u2 (.cells #[.int .i64 i1, .int .i64 o1, .int .i64 s1] 45)) (by simp); have ne0 := HNE.out; have ne1 := Ne.symm HNE.out; clear g6))
      | (go_at_call 20; refine (HU2.out _ _ _ (BA.nil _ _) (Nat.zero_le _)).mono ?_; rintro e w5 ⟨rfl, g5⟩; have G5 := hid g5; have HG5 := hid ((HG2.out.trans G4.out).trans ((World.grownBy_alloc w4 (.cells #[.int .i64 i1, .int .i64 o1, .int .i64 s1] 45) none).trans g5)); have RD5 := hid ((rowA (w := w4) rfl).grown g5 (by simp)); have t0 := fun ob => (World.grownBy_alloc w5 ob none).cell (g5.cell (a := ⟨w4.heap.size, 0, none⟩) (v := .int .i64 i1) (by simp [go_sem]) (by simp)) (by simp); have t1 := fun ob => (World.grownBy_alloc w5 ob none).cell (g5.cell (a := ⟨w4.heap.size, 1, none⟩) (v := .int .i64 o1) (by simp [go_sem]) (by simp)) (by simp); have t2 := fun ob => (World.grownBy_alloc w5 ob none).cell (g5.cell (a := ⟨w4.heap.size, 2, none⟩) (v := .int .i64 s1) (by simp [go_sem]) (by simp)) (by simp); have u0 := fun ob => (World.grownBy_alloc w5 ob none).cell (g5.cell ((World.grownBy_alloc w4 (.cells #[.int .i64 i1, .int .i64 o1, .int .i64 s1] 45) none).cell p0 (by simp)) (by simp)) (by simp); have u1 := fun ob => (World.grownBy_alloc w5 ob none).cell (g5.cell ((World.grownBy_alloc w4 (.cells #[.int .i64 i1, .int .i64 o1, .int .i64 s1] 45) none).cell p1 (by simp)) (by simp)) (by simp); have u2 := fun ob => (World.grownBy_alloc w5 ob none).cell (g5.cell ((World.grownBy_alloc w4 (.cells #[.int .i64 i1, .int .i64 o1, .int .i64 s1] 45) none).cell p2 (by simp)) (by simp)) (by simp); have HNE := hid (show w.heap.size ≠ w4.heap.size from fun e => by have := World.block_lt_of_cell? w4 _ p0; simp only at this; omega); have HCX' := hid (show 8 ≤ cx from hxl ▸ HCX.out); clear g5)
      | (go_at_call 10; refine (HAW.out _).mono ?_; rintro e w7 ⟨rfl, g7⟩; have HG7 := hid ((HG5.out.trans (World.grownBy_alloc w5 (.cells #[.int .i64 i1, .int .i64 o1, .int .i64 s1] 45) none)).trans g7); clear g7))
    go_ret
    refine ⟨rfl, HG6.out.andThen (set3_grown w6 w4.heap.size _ _ _) (fun j e => .inl (by cases e; exact Nat.le_trans HG2.out.size G4.out.size))⟩
theorem reply_flat : Flat.isFlat Try.prog 45 [3, 3, 3] = true := by kernel_rfl
theorem list3 {α : Type} {l : List α} (h : l.length = 3) : ∃ a b c, l = [a, b, c] := by
  match l, h with
  | [a, b, c], _ => exact ⟨a, b, c, rfl⟩
theorem main {H : Type} {enc : TypeId × Value → H} (l0 : List Value) (v1 : Value) (W : World)
    (z0 : l0.length = [3, 3, 3].length) (c0 : ∀ (j : Nat) (t : TypeId), [3, 3, 3][j]? = some t → ∃ u : Value, l0[j]? = some u ∧ Flat.Came enc Try.prog W 0 (fun _ => true) true t u)
    (c1 : Flat.Came enc Try.prog W 0 (fun _ => true) true 25 v1) :
    Calls Try.prog 6 #[.agg l0.toArray, v1] W fun e w' => e = .returned (.bool true) ∧ W.grownBy w' none := by
  obtain ⟨u0, u1, u2, rfl⟩ := list3 z0
  obtain ⟨_, e0, k0⟩ := c0 0 _ rfl
  obtain ⟨_, e1, k1⟩ := c0 1 _ rfl
  obtain ⟨_, e2, k2⟩ := c0 2 _ rfl
  simp only [List.getElem?_cons_zero, List.getElem?_cons_succ, Option.some.injEq] at e0 e1 e2
  subst e0 e1 e2
  obtain ⟨i, rfl, hi⟩ := k0.int Try.underlying3
  obtain ⟨o, rfl, ho⟩ := k1.int Try.underlying3
  obtain ⟨s, rfl, hs⟩ := k2.int Try.underlying3
  obtain ⟨pa, l, cap, rfl, hin, hl, hn, hc⟩ := came_bytes c1
  have hf : Rp.fits ⟨i, o, s⟩ := ⟨I64.wf hi, I64.wf ho, I64.wf hs⟩
  cases hk : Rp.ok ⟨i, o, s⟩ with
  | false =>
    cases pa with
    | none => obtain rfl := hin.of_none; exact walk_no_none ⟨i, o, s⟩ hf cap W hk
    | some a => exact walk_no_some ⟨i, o, s⟩ hf l a cap W hl hc hin hk
  | true =>
    cases pa with
    | none => obtain rfl := hin.of_none; exact walk_yes_none ⟨i, o, s⟩ hf cap W hk
    | some a => exact walk_yes_some ⟨i, o, s⟩ hf l a cap W hl hc hin hk
theorem own : ownKnob Try.prog.godebug = none := by kernel_rfl
theorem laidOut : laidOutB Try.prog = true := by kernel_rfl

set_option maxRecDepth 100000 in
theorem lifted (os : Os) (started : os.Started) (H : Type) (enc : TypeId × Value → H) :
    ReturnsInHanded {} Try.checked os 6 .any (Rows.blkRepliesSpec.pre6 enc Try.prog Try.f6 Rows.blkRepliesRow.domain false) (Rows.blkRepliesSpec.post enc Try.prog Try.f6 false true false false) := by
  refine returnsInHanded_of_change_sized (C := Try.checked) own started (by kernel_rfl) Try.func6
    (ChangeSpec.witness6 (enc := enc) (C := Try.checked) false ⟨#[], #[.agg #[.int .i64 0, .int .i64 0, .int .i64 0], .slice none 0 0], []⟩ 8 (by kernel_rfl) (by kernel_rfl) (by kernel_rfl) (by kernel_rfl)) ?_
  intro W base args ds gs before hval0 hW _ hsz0 _
  have hsz : (DataW.weightsEach Try.prog (Try.f6.params.toList ++ Rows.blkRepliesSpec.plain.varTypes Try.prog) (ds ++ gs)).all (· ≤ reachBytes) = true := hsz0
  clear hsz0
  have hval : ∀ (j : Nat) t v, Try.f6.params[j]? = some t → args[j]? = some v → Value.okWide Try.prog W .any base t v := hval0
  have hW' := hW
  obtain ⟨p, q, hA0, hV, rfl, hfz, hnd⟩ := hW
  have hA : DataW.TrodAll enc Try.prog W 0 (fun _ => true) true Try.f6.params.toList args.toList ds p := hA0
  rw [Try.params6] at hA hval hsz
  obtain ⟨v0, vs0, d0, ds0, p0, q0, hargs, rfl, rfl, h0, r0⟩ := trodAll_cons hA
  obtain ⟨v1, vs1, d1, ds1, p1, q1, rfl, rfl, rfl, h1, r1⟩ := trodAll_cons r0
  obtain ⟨rfl, rfl, rfl⟩ := trodAll_nil r1
  obtain rfl : args = #[v0, v1] := by cases args; simp_all
  obtain ⟨rfl, rfl⟩ := trodVars_none hV
  have sz0 : ∀ n ∈ d0.weights Try.prog 45, n ≤ reachBytes := fun n hn => by
    have := List.all_eq_true.1 hsz n (DataW.weights_mem_each (j := 0) rfl rfl n hn)
    simpa using this
  obtain ⟨l0, rfl, z0, c0⟩ := Flat.open_agg reply_flat (hval 0 45 v0 rfl rfl) h0 sz0
  have k0 := h0
  have lt0 : ∀ x ∈ p0, x.block < W.heap.size := by obtain ⟨m, hm⟩ := k0; exact DataW.trod_lt m _ _ _ hm
  obtain ⟨ps1, ln1, cp1, rfl⟩ := okWide_slice Try.underlying25 (hval 1 25 v1 rfl rfl)
  have k1 := h1
  have lt1 : ∀ x ∈ p1, x.block < W.heap.size := by obtain ⟨m, hm⟩ := k1; exact DataW.trod_lt m _ _ _ hm
  have c1 : Flat.Came enc Try.prog W 0 (fun _ => true) true 25 (.slice ps1 ln1 cp1) := by
    obtain ⟨fuel, hf⟩ := h1
    exact ⟨fuel, _, hf, fun n hn => by
      have := List.all_eq_true.1 hsz n (DataW.weights_mem_each (j := 1) rfl rfl n hn)
      simpa using this⟩
  clear hA0 hval0
  refine (main l0 (.slice ps1 ln1 cp1) W z0 c0 c1).mono fun e W' ⟨he, hg⟩ => ?_
  subst he
  have bel := below_grown' hg
  simp only [List.append_nil, List.nil_append] at hW'
  exact ⟨_, rfl, _, _, _, [], _, [], hW', trodAll_mk1 (shut_bool Try.underlying4 _), (trodAll_cons_mk (Below.trod laidOut (by kernel_rfl) (of_decide_eq_true (by kernel_rfl)) k0 bel lt0) (trodAll_cons_mk (Below.trod laidOut (by kernel_rfl) (of_decide_eq_true (by kernel_rfl)) k1 bel lt1) trodAll_mk0)), rfl, bel.frame _, fun h => by cases h⟩

theorem proved : Rows.BlkRepliesSaid :=
  OpenClaim.holds_of_wide 6 Try.f6 rfl rfl rfl rfl rfl rfl rfl ⟨rfl, rfl, rfl, rfl, rfl⟩ rfl rfl rfl rfl rfl (by kernel_rfl) Try.func6 (by kernel_rfl)
    (of_decide_eq_true (by kernel_rfl)) (by unfold Func.isWrapper; first | (rw [if_pos (by decide +kernel)]; kernel_rfl) | (rw [if_neg (by decide +kernel)]; exact ⟨rfl, rfl⟩))
    (fun os started H enc _ => lifted os started H enc)
#print axioms proved
end Go.Proofs.Ytbpcliajefeihaa.lawBkReplies
