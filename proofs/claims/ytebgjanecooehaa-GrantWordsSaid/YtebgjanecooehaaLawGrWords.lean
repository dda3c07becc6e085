/-
  GrantWords: for every entry and every row of bytes the law returns true, and what was there stays. No condition.
-/
import Derived.Test.YtebgjanecooehaaGrK
import Derived.Test.YtebgjanecooehaaLift
import Derived.Test.YtebgjanecooehaaOpenS
import Derived.Test.YtebgjanecooehaaRows
import Derived.ProofKit
import Derived.OpenShut
import Derived.Deep.Cut
set_option linter.unusedSimpArgs false
set_option linter.unusedVariables false
namespace Go.Proofs.Ytebgjanecooehaa.lawGrWords
open Go.ChangeShapes Go.WideShapes Go.ChangeAt Go.RowKit
set_option maxHeartbeats 8000000
theorem own0 (w : World) (e : TypeId) (sz : Nat) : (w.alloc (.cells #[] e)).ownsRow w.heap.size e sz (.slice (some ⟨w.heap.size, 0, none⟩) 0 0) 0 [] :=
  ⟨by simp, .inr ⟨w.heap.size, 0, #[], rfl, Nat.le_refl _, heap_alloc_new w _, Nat.le_refl _, by decide, by simp, by simp⟩⟩
theorem alloc_le (w : World) (o : Obj) : w.heap.size ≤ (w.alloc o).heap.size := (World.grownBy_alloc w o none).size
theorem news_at {w : World} {a : Addr} {l : List UInt8} (h : BG w (some a) l) : ∀ j u, (bcells l)[j]? = some u → (w.alloc (.cells #[] 5)).cell? (a.add j) = some u := by
  intro j u hu
  have hj := (List.getElem?_eq_some_iff.1 hu).1
  rw [bcells_len] at hj
  obtain ⟨g, o, e, hc⟩ := h j hj
  cases e
  have e : (⟨g, o, none⟩ : Addr).add j = ⟨g, o + j, none⟩ := by unfold Addr.add; split <;> simp_all
  rw [e, (World.grownBy_alloc w _ none).cell hc (by simp)]
  rw [bcells_get] at hu
  simpa [List.getD, List.getElem?_eq_getElem hj] using hu
theorem conv_own {W : World} {B g c : Nat} {l : List UInt8} {n : Nat} (hn : l.length = n) (h : W.ownsRow B 5 1 (.slice (some ⟨g, 0, none⟩) n c) n (bcells l)) : (convert 31 9 (.slice (some ⟨g, 0, none⟩) n c)).run Try.prog W = .ok (.string ⟨l.toArray⟩) W := by
  subst hn
  refine run_convert_bytes_back W 31 9 5 ⟨g, 0, none⟩ c l Try.underlying31 Try.underlying5 Try.underlying9 (fun j hj => ?_)
  have := own_news h j (.int .u8 (l[j]'hj).toNat) (by rw [bcells_get, List.getElem?_eq_getElem hj]; rfl)
  exact this
theorem conv_nil (W : World) : (convert 31 9 (.slice none 0 0)).run Try.prog W = .ok (.string ⟨#[]⟩) W := by
  rw [run_convert_bytes_string W 31 9 5 none 0 0 Try.underlying31 Try.underlying5 Try.underlying9]
  simp [Conv.bytesToString]; rfl
theorem pk_some {l : List UInt8} {w : World} {e : Ending} {w' : World} (hl : l.length = 8) (h : PkPost l w e w') : ∃ g c, e = .returned (.tuple #[.slice (some ⟨g, 0, none⟩) 8 c, .int .i64 0]) ∧ w'.ownsRow (w.heap.size + 1) 5 1 (.slice (some ⟨g, 0, none⟩) 8 c) 8 (bcells l) ∧ w.grownBy w' none := by
  obtain ⟨p, c, rfl, ho, hg⟩ := h
  rw [hl] at ho ⊢
  obtain ⟨g, c', e⟩ := own_some ho (by decide)
  cases e
  exact ⟨g, c, rfl, ho, hg⟩
theorem bg_own {W : World} {B g c : Nat} {l : List UInt8} {n : Nat} (hn : l.length = n) (h : W.ownsRow B 5 1 (.slice (some ⟨g, 0, none⟩) n c) n (bcells l)) : BG W (some ⟨g, 0, none⟩) l := by
  subst hn
  obtain ⟨p, c', e, _, hb⟩ := BG.of_own h
  cases e
  exact hb
abbrev VG (k : Int) (ro sub : Bool) (d gp off ln : Int) : Value := .agg #[.int .i64 k, .bool ro, .bool sub, .int .i64 d, .int .i64 gp, .int .i64 off, .int .i64 ln]
set_option maxRecDepth 100000 in
theorem walk_no_some (k : Int) (ro sub : Bool) (d gp off ln : Int) (l X : List UInt8) (a : Addr) (c : Nat) (w : World) (a0 : Int) (a1 a2 : Bool) (a3 a4 a5 a6 ke : Int) (hlen : l.length ≤ 140737488351232) (HP1 : Hid (∀ w', Calls Try.prog 38 #[.agg #[.int .i64 k, .bool ro, .bool sub, .int .i64 d, .int .i64 gp, .int .i64 off, .int .i64 ln]] w' fun e w'' => e = .returned (.tuple #[.slice none 0 0, .int .i64 1]) ∧ w'.grownBy w'' none)) (HP2 : Hid (∀ w', Calls Try.prog 39 #[.agg #[.int .i64 k, .bool ro, .bool sub, .int .i64 d, .int .i64 gp, .int .i64 off, .int .i64 ln]] w' fun e w'' => e = .returned (.tuple #[.slice none 0 0, .int .i64 1]) ∧ w'.grownBy w'' none))
    (HX : Hid (∀ w', Calls Try.prog 40 #[.slice none 0 0] w' fun e w'' => e = .returned (.tuple #[.agg #[.int .i64 0, .bool false, .bool false, .int .i64 0, .int .i64 0, .int .i64 0, .int .i64 0], .int .i64 1]) ∧ w'.grownBy w'' none))
    (HG : Hid (BG w (some a) l)) (HU1 : Hid (∀ p' c' w', BG w' p' l → Calls Try.prog 40 #[.slice p' l.length c'] w' fun e w'' => e = .returned (.tuple #[.agg #[.int .i64 a0, .bool a1, .bool a2, .int .i64 a3, .int .i64 a4, .int .i64 a5, .int .i64 a6], .int .i64 ke]) ∧ w'.grownBy w'' none))
    (HU2 : Hid (∀ w', BG w' (some a) l → Calls Try.prog 41 #[.slice (some a) l.length c] w' fun e w'' => e = .returned (.tuple #[.agg #[.int .i64 a0, .bool a1, .bool a2, .int .i64 a3, .int .i64 a4, .int .i64 a5, .int .i64 a6], .int .i64 ke]) ∧ w'.grownBy w'' none)) :
    Calls Try.prog 6 #[.agg #[.int .i64 k, .bool ro, .bool sub, .int .i64 d, .int .i64 gp, .int .i64 off, .int .i64 ln], .slice (some a) l.length c] w fun e w' => e = .returned (.bool true) ∧ w.grownBy w' none := by
  have HE := hid (show ∀ (p : Option Addr) (w' : World), BG w' p [] from fun p w' k hk => by cases hk)
  obtain ⟨i0, hi, hz⟩ := Option.map_eq_some_iff.1 info_u8'
  simp only [Prod.mk.injEq] at hz
  have Hi := hid hi; have Hz0 := hid hz.1; have Hz1 := hid hz.2.1; have Hz2 := hid hz.2.2
  clear hi hz
  go_enter Try.func6, Try.ntmps6
  go_wp2_with (first
    | (go_at_call 38; refine (HP1.out _).mono ?_; rintro e w1 ⟨rfl, g1⟩; have G1 := hid g1; have RB := hid ((rowB w (.int .i64 k) (.bool ro) (.bool sub) (.int .i64 d) (.int .i64 gp) (.int .i64 off) (.int .i64 ln)).grown g1 (by simp)); have b0 := RB.out.cell (k := 0) (by omega); have b1 := RB.out.cell (k := 1) (by omega); have b2 := RB.out.cell (k := 2) (by omega); have b3 := RB.out.cell (k := 3) (by omega); have b4 := RB.out.cell (k := 4) (by omega); have b5 := RB.out.cell (k := 5) (by omega); have b6 := RB.out.cell (k := 6) (by omega); simp only [sevV, List.getD_cons_zero, List.getD_cons_succ] at b0 b1 b2 b3 b4 b5 b6; clear g1)
    | (go_at_call 39; refine (HP2.out _).mono ?_; rintro e w2 ⟨rfl, g2⟩; have hcn := conv_nil w2; have G2 := hid g2; have G02 := hid (((World.grownBy_alloc w _ none).trans G1.out).trans g2); have HBG2 := hid (HG.out.grown G02.out); clear b0 b1 b2 b3 b4 b5 b6 g2)
    | (at_builtin; refine wpList_append_own _ rfl _ _ 31 rfl w2.heap.size 5 i0 (.int .u8 0) 1 1 Try.underlying31 Hi.out Hz0.out Hz1.out Hz2.out rfl (by decide) _ _ _ rfl (own0 w2 _ 1) a l.length c (bcells l) rfl (show (bcells l).length = l.length * 1 by rw [bcells_len, Nat.mul_one]) (fun j u hu => news_at HBG2.out j u hu) (bcells_one l) (by unfold maxLen; omega) (by omega) (alloc_le w2 _) ?_; intro v' w3 hown' hgrow hnil; clear hnil; have G23 := hid ((World.grownBy_alloc w2 _ none).andThen hgrow (fun j hj => .inl (by cases hj; exact Nat.le_refl _))); rw [Nat.zero_add, List.nil_append] at hown'; obtain ⟨p', c', rfl, hc', hg'⟩ := BG.of_own hown'; have HG' := hid hg'; clear hown' hgrow hg' hc')
    | (go_at_call 40; first
        | ((with_reducible refine (HU1.out _ _ _ HG'.out).mono ?_); rintro e w4 ⟨rfl, g4⟩; have G4 := hid g4; have G04 := hid ((G02.out.trans G23.out).trans g4); have HBG4 := hid (HG.out.grown G04.out); clear g4)
        | ((with_reducible refine (HX.out _).mono ?_); rintro e w6 ⟨rfl, g6⟩; have G6 := hid (G5.out.trans ((World.grownBy_alloc w5 _ none).trans g6)); skip; clear g6))
    | (go_at_call 41; refine (HU2.out _ (HBG4.out.grown (World.grownBy_alloc w4 _ none))).mono ?_; rintro e w5 ⟨rfl, g5⟩; have G45 := hid g5; have G5 := hid (G04.out.trans ((World.grownBy_alloc w4 _ none).trans g5)); have p0 := fun ob => (World.grownBy_alloc w5 ob none).cell (g5.cell (a := ⟨w4.heap.size, 0, none⟩) (v := .int .i64 a0) (by simp [go_sem]) (by simp)) (by simp); have p1 := fun ob => (World.grownBy_alloc w5 ob none).cell (g5.cell (a := ⟨w4.heap.size, 1, none⟩) (v := .bool a1) (by simp [go_sem]) (by simp)) (by simp); have p2 := fun ob => (World.grownBy_alloc w5 ob none).cell (g5.cell (a := ⟨w4.heap.size, 2, none⟩) (v := .bool a2) (by simp [go_sem]) (by simp)) (by simp); have p3 := fun ob => (World.grownBy_alloc w5 ob none).cell (g5.cell (a := ⟨w4.heap.size, 3, none⟩) (v := .int .i64 a3) (by simp [go_sem]) (by simp)) (by simp); have p4 := fun ob => (World.grownBy_alloc w5 ob none).cell (g5.cell (a := ⟨w4.heap.size, 4, none⟩) (v := .int .i64 a4) (by simp [go_sem]) (by simp)) (by simp); have p5 := fun ob => (World.grownBy_alloc w5 ob none).cell (g5.cell (a := ⟨w4.heap.size, 5, none⟩) (v := .int .i64 a5) (by simp [go_sem]) (by simp)) (by simp); have p6 := fun ob => (World.grownBy_alloc w5 ob none).cell (g5.cell (a := ⟨w4.heap.size, 6, none⟩) (v := .int .i64 a6) (by simp [go_sem]) (by simp)) (by simp); clear g5))
  go_ret
  exact ⟨rfl, G6.out⟩
set_option maxRecDepth 100000 in
theorem walk_no_none (k : Int) (ro sub : Bool) (d gp off ln : Int) (l X : List UInt8) (a : Addr) (c : Nat) (w : World) (a0 : Int) (a1 a2 : Bool) (a3 a4 a5 a6 ke : Int) (hlen : l.length ≤ 140737488351232) (HP1 : Hid (∀ w', Calls Try.prog 38 #[.agg #[.int .i64 k, .bool ro, .bool sub, .int .i64 d, .int .i64 gp, .int .i64 off, .int .i64 ln]] w' fun e w'' => e = .returned (.tuple #[.slice none 0 0, .int .i64 1]) ∧ w'.grownBy w'' none)) (HP2 : Hid (∀ w', Calls Try.prog 39 #[.agg #[.int .i64 k, .bool ro, .bool sub, .int .i64 d, .int .i64 gp, .int .i64 off, .int .i64 ln]] w' fun e w'' => e = .returned (.tuple #[.slice none 0 0, .int .i64 1]) ∧ w'.grownBy w'' none))
    (HX : Hid (∀ w', Calls Try.prog 40 #[.slice none 0 0] w' fun e w'' => e = .returned (.tuple #[.agg #[.int .i64 0, .bool false, .bool false, .int .i64 0, .int .i64 0, .int .i64 0, .int .i64 0], .int .i64 1]) ∧ w'.grownBy w'' none))
    (HG : Hid (BG w none [])) (HU1 : Hid (∀ p' c' w', BG w' p' [] → Calls Try.prog 40 #[.slice p' 0 c'] w' fun e w'' => e = .returned (.tuple #[.agg #[.int .i64 a0, .bool a1, .bool a2, .int .i64 a3, .int .i64 a4, .int .i64 a5, .int .i64 a6], .int .i64 ke]) ∧ w'.grownBy w'' none))
    (HU2 : Hid (∀ w', BG w' none [] → Calls Try.prog 41 #[.slice none 0 c] w' fun e w'' => e = .returned (.tuple #[.agg #[.int .i64 a0, .bool a1, .bool a2, .int .i64 a3, .int .i64 a4, .int .i64 a5, .int .i64 a6], .int .i64 ke]) ∧ w'.grownBy w'' none)) :
    Calls Try.prog 6 #[.agg #[.int .i64 k, .bool ro, .bool sub, .int .i64 d, .int .i64 gp, .int .i64 off, .int .i64 ln], .slice none 0 c] w fun e w' => e = .returned (.bool true) ∧ w.grownBy w' none := by
  have HE := hid (show ∀ (p : Option Addr) (w' : World), BG w' p [] from fun p w' k hk => by cases hk)
  obtain ⟨i0, hi, hz⟩ := Option.map_eq_some_iff.1 info_u8'
  simp only [Prod.mk.injEq] at hz
  have Hi := hid hi; have Hz0 := hid hz.1; have Hz1 := hid hz.2.1; have Hz2 := hid hz.2.2
  clear hi hz
  go_enter Try.func6, Try.ntmps6
  go_wp2_with (first
    | (go_at_call 38; refine (HP1.out _).mono ?_; rintro e w1 ⟨rfl, g1⟩; have G1 := hid g1; have RB := hid ((rowB w (.int .i64 k) (.bool ro) (.bool sub) (.int .i64 d) (.int .i64 gp) (.int .i64 off) (.int .i64 ln)).grown g1 (by simp)); have b0 := RB.out.cell (k := 0) (by omega); have b1 := RB.out.cell (k := 1) (by omega); have b2 := RB.out.cell (k := 2) (by omega); have b3 := RB.out.cell (k := 3) (by omega); have b4 := RB.out.cell (k := 4) (by omega); have b5 := RB.out.cell (k := 5) (by omega); have b6 := RB.out.cell (k := 6) (by omega); simp only [sevV, List.getD_cons_zero, List.getD_cons_succ] at b0 b1 b2 b3 b4 b5 b6; clear g1)
    | (go_at_call 39; refine (HP2.out _).mono ?_; rintro e w2 ⟨rfl, g2⟩; have hcn := conv_nil w2; have G2 := hid g2; have G02 := hid (((World.grownBy_alloc w _ none).trans G1.out).trans g2); have HBG2 := hid (HG.out.grown G02.out); clear b0 b1 b2 b3 b4 b5 b6 g2)
    | (go_at_call 40; first
        | ((with_reducible refine (HU1.out (some ⟨w2.heap.size, 0, none⟩) 0 _ (HE.out _ _)).mono ?_); rintro e w4 ⟨rfl, g4⟩; have G4 := hid g4; have G04 := hid ((G02.out.trans (World.grownBy_alloc w2 (Obj.cells #[] 5) none)).trans g4); have HBG4 := hid (HG.out.grown G04.out); clear g4)
        | ((with_reducible refine (HX.out _).mono ?_); rintro e w6 ⟨rfl, g6⟩; have G6 := hid (G5.out.trans ((World.grownBy_alloc w5 _ none).trans g6)); skip; clear g6))
    | (go_at_call 41; refine (HU2.out _ (HE.out _ _)).mono ?_; rintro e w5 ⟨rfl, g5⟩; have G45 := hid g5; have G5 := hid (G04.out.trans ((World.grownBy_alloc w4 _ none).trans g5)); have p0 := fun ob => (World.grownBy_alloc w5 ob none).cell (g5.cell (a := ⟨w4.heap.size, 0, none⟩) (v := .int .i64 a0) (by simp [go_sem]) (by simp)) (by simp); have p1 := fun ob => (World.grownBy_alloc w5 ob none).cell (g5.cell (a := ⟨w4.heap.size, 1, none⟩) (v := .bool a1) (by simp [go_sem]) (by simp)) (by simp); have p2 := fun ob => (World.grownBy_alloc w5 ob none).cell (g5.cell (a := ⟨w4.heap.size, 2, none⟩) (v := .bool a2) (by simp [go_sem]) (by simp)) (by simp); have p3 := fun ob => (World.grownBy_alloc w5 ob none).cell (g5.cell (a := ⟨w4.heap.size, 3, none⟩) (v := .int .i64 a3) (by simp [go_sem]) (by simp)) (by simp); have p4 := fun ob => (World.grownBy_alloc w5 ob none).cell (g5.cell (a := ⟨w4.heap.size, 4, none⟩) (v := .int .i64 a4) (by simp [go_sem]) (by simp)) (by simp); have p5 := fun ob => (World.grownBy_alloc w5 ob none).cell (g5.cell (a := ⟨w4.heap.size, 5, none⟩) (v := .int .i64 a5) (by simp [go_sem]) (by simp)) (by simp); have p6 := fun ob => (World.grownBy_alloc w5 ob none).cell (g5.cell (a := ⟨w4.heap.size, 6, none⟩) (v := .int .i64 a6) (by simp [go_sem]) (by simp)) (by simp); clear g5))
  go_ret
  exact ⟨rfl, G6.out⟩
set_option maxRecDepth 100000 in
theorem walk_s_some (k : Int) (ro : Bool) (d gp off ln : Int) (l X : List UInt8) (a : Addr) (c : Nat) (w : World) (a0 : Int) (a1 a2 : Bool) (a3 a4 a5 a6 ke : Int) (hlen : l.length ≤ 140737488351232) (HP1 : Hid (∀ w', Calls Try.prog 38 #[.agg #[.int .i64 k, .bool ro, .bool true, .int .i64 d, .int .i64 gp, .int .i64 off, .int .i64 ln]] w' (PkPost X w'))) (HP2 : Hid (∀ w', Calls Try.prog 39 #[.agg #[.int .i64 k, .bool ro, .bool true, .int .i64 d, .int .i64 gp, .int .i64 off, .int .i64 ln]] w' (PkPost X w'))) (hX : X.length = 8)
    (HX : Hid (∀ gx cx w', BG w' (some ⟨gx, 0, none⟩) X → Calls Try.prog 40 #[.slice (some ⟨gx, 0, none⟩) 8 cx] w' fun e w'' => e = .returned (.tuple #[.agg #[.int .i64 k, .bool ro, .bool true, .int .i64 d, .int .i64 gp, .int .i64 off, .int .i64 ln], .int .i64 0]) ∧ w'.grownBy w'' none))
    (HG : Hid (BG w (some a) l)) (HU1 : Hid (∀ p' c' w', BG w' p' l → Calls Try.prog 40 #[.slice p' l.length c'] w' fun e w'' => e = .returned (.tuple #[.agg #[.int .i64 a0, .bool a1, .bool a2, .int .i64 a3, .int .i64 a4, .int .i64 a5, .int .i64 a6], .int .i64 ke]) ∧ w'.grownBy w'' none))
    (HU2 : Hid (∀ w', BG w' (some a) l → Calls Try.prog 41 #[.slice (some a) l.length c] w' fun e w'' => e = .returned (.tuple #[.agg #[.int .i64 a0, .bool a1, .bool a2, .int .i64 a3, .int .i64 a4, .int .i64 a5, .int .i64 a6], .int .i64 ke]) ∧ w'.grownBy w'' none)) :
    Calls Try.prog 6 #[.agg #[.int .i64 k, .bool ro, .bool true, .int .i64 d, .int .i64 gp, .int .i64 off, .int .i64 ln], .slice (some a) l.length c] w fun e w' => e = .returned (.bool true) ∧ w.grownBy w' none := by
  have HE := hid (show ∀ (p : Option Addr) (w' : World), BG w' p [] from fun p w' k hk => by cases hk)
  obtain ⟨i0, hi, hz⟩ := Option.map_eq_some_iff.1 info_u8'
  simp only [Prod.mk.injEq] at hz
  have Hi := hid hi; have Hz0 := hid hz.1; have Hz1 := hid hz.2.1; have Hz2 := hid hz.2.2
  clear hi hz
  go_enter Try.func6, Try.ntmps6
  go_wp2_with (first
    | (go_at_call 38; refine (HP1.out _).mono ?_; rintro e w1 h1; obtain ⟨gx, cx, rfl, ox, g1⟩ := pk_some hX h1; clear h1; have OX := hid ox; clear ox; have G1 := hid g1; have RB := hid ((rowB w (.int .i64 k) (.bool ro) (.bool true) (.int .i64 d) (.int .i64 gp) (.int .i64 off) (.int .i64 ln)).grown g1 (by simp)); have b0 := RB.out.cell (k := 0) (by omega); have b1 := RB.out.cell (k := 1) (by omega); have b2 := RB.out.cell (k := 2) (by omega); have b3 := RB.out.cell (k := 3) (by omega); have b4 := RB.out.cell (k := 4) (by omega); have b5 := RB.out.cell (k := 5) (by omega); have b6 := RB.out.cell (k := 6) (by omega); simp only [sevV, List.getD_cons_zero, List.getD_cons_succ] at b0 b1 b2 b3 b4 b5 b6; clear g1)
    | (go_at_call 39; refine (HP2.out _).mono ?_; rintro e w2 h2; obtain ⟨gy, cy, rfl, oy, g2⟩ := pk_some hX h2; clear h2; have OX2 := hid (own_grown OX.out g2); have hcx := conv_own hX OX2.out; have hcy := conv_own hX oy; clear oy; have G2 := hid g2; have G02 := hid (((World.grownBy_alloc w _ none).trans G1.out).trans g2); have HBG2 := hid (HG.out.grown G02.out); clear b0 b1 b2 b3 b4 b5 b6 g2)
    | (at_builtin; refine wpList_append_own _ rfl _ _ 31 rfl w2.heap.size 5 i0 (.int .u8 0) 1 1 Try.underlying31 Hi.out Hz0.out Hz1.out Hz2.out rfl (by decide) _ _ _ rfl (own0 w2 _ 1) a l.length c (bcells l) rfl (show (bcells l).length = l.length * 1 by rw [bcells_len, Nat.mul_one]) (fun j u hu => news_at HBG2.out j u hu) (bcells_one l) (by unfold maxLen; omega) (by omega) (alloc_le w2 _) ?_; intro v' w3 hown' hgrow hnil; clear hnil; have G23 := hid ((World.grownBy_alloc w2 _ none).andThen hgrow (fun j hj => .inl (by cases hj; exact Nat.le_refl _))); rw [Nat.zero_add, List.nil_append] at hown'; obtain ⟨p', c', rfl, hc', hg'⟩ := BG.of_own hown'; have HG' := hid hg'; clear hown' hgrow hg' hc')
    | (go_at_call 40; first
        | ((with_reducible refine (HU1.out _ _ _ HG'.out).mono ?_); rintro e w4 ⟨rfl, g4⟩; have G4 := hid g4; have G04 := hid ((G02.out.trans G23.out).trans g4); have HBG4 := hid (HG.out.grown G04.out); clear g4)
        | ((with_reducible refine (HX.out _ _ _ BX.out).mono ?_); rintro e w6 ⟨rfl, g6⟩; have G6 := hid (G5.out.trans ((World.grownBy_alloc w5 _ none).trans g6)); have H16 := hid (((G2.out.trans G23.out).trans G4.out).trans ((World.grownBy_alloc w4 _ none).trans (G45.out.trans ((World.grownBy_alloc w5 _ none).trans g6)))); have RB6 := hid (RB.out.grown H16.out (by simp)); have RP6 := hid (((rowB w4 (.int .i64 a0) (.bool a1) (.bool a2) (.int .i64 a3) (.int .i64 a4) (.int .i64 a5) (.int .i64 a6)).grown (G45.out.trans ((World.grownBy_alloc w5 _ none).trans g6)) (by simp))); have p0 := RP6.out.cell (k := 0) (by omega); have p1 := RP6.out.cell (k := 1) (by omega); have p2 := RP6.out.cell (k := 2) (by omega); have p3 := RP6.out.cell (k := 3) (by omega); have p4 := RP6.out.cell (k := 4) (by omega); have p5 := RP6.out.cell (k := 5) (by omega); have p6 := RP6.out.cell (k := 6) (by omega); simp only [sevV, List.getD_cons_zero, List.getD_cons_succ] at p0 p1 p2 p3 p4 p5 p6; have pz := RP6.out.frozen; have b0 := True.intro; obtain ⟨W7, hW7⟩ : ∃ W7, (((((((w6.setCell ⟨w4.heap.size, 0, none⟩ (.int .i64 k)).setCell ⟨w4.heap.size, 1, none⟩ (.bool ro)).setCell ⟨w4.heap.size, 2, none⟩ (.bool true)).setCell ⟨w4.heap.size, 3, none⟩ (.int .i64 d)).setCell ⟨w4.heap.size, 4, none⟩ (.int .i64 gp)).setCell ⟨w4.heap.size, 5, none⟩ (.int .i64 off)).setCell ⟨w4.heap.size, 6, none⟩ (.int .i64 ln)) = W7 := ⟨_, rfl⟩; have RP7 := hid (hW7 ▸ set7 RP6.out (.int .i64 k) (.bool ro) (.bool true) (.int .i64 d) (.int .i64 gp) (.int .i64 off) (.int .i64 ln)); have GP7 := hid (hW7 ▸ set7_grown w6 w4.heap.size (.int .i64 k) (.bool ro) (.bool true) (.int .i64 d) (.int .i64 gp) (.int .i64 off) (.int .i64 ln)); have hne : w.heap.size ≠ w4.heap.size := (by have h0 : w.heap.size < w1.heap.size := World.block_lt_of_cell? w1 _ (RB.out.cell (k := 0) (by omega)); have := G2.out.size; have := G23.out.size; have := G4.out.size; omega); have HN := hid hne; have B0 := hid (grown_cell GP7.out (by simpa using hne) (RB6.out.cell (k := 0) (by omega))); have B1 := hid (grown_cell GP7.out (by simpa using hne) (RB6.out.cell (k := 1) (by omega))); have B2 := hid (grown_cell GP7.out (by simpa using hne) (RB6.out.cell (k := 2) (by omega))); have B3 := hid (grown_cell GP7.out (by simpa using hne) (RB6.out.cell (k := 3) (by omega))); have B4 := hid (grown_cell GP7.out (by simpa using hne) (RB6.out.cell (k := 4) (by omega))); have B5 := hid (grown_cell GP7.out (by simpa using hne) (RB6.out.cell (k := 5) (by omega))); have B6 := hid (grown_cell GP7.out (by simpa using hne) (RB6.out.cell (k := 6) (by omega))); have d0 := B0.out; have d1 := B1.out; have d2 := B2.out; have d3 := B3.out; have d4 := B4.out; have d5 := B5.out; have d6 := B6.out; have d7 := fun ob => (World.grownBy_alloc W7 ob none).cell B2.out (by simp); simp only [sevV, List.getD_cons_zero, List.getD_cons_succ] at d0 d1 d2 d3 d4 d5 d6 d7; have q0 := fun ob => (RP7.out.grown (World.grownBy_alloc W7 ob none) (by simp)).cell (k := 0) (by omega); have q1 := fun ob => (RP7.out.grown (World.grownBy_alloc W7 ob none) (by simp)).cell (k := 1) (by omega); have q2 := fun ob => (RP7.out.grown (World.grownBy_alloc W7 ob none) (by simp)).cell (k := 2) (by omega); have q3 := fun ob => (RP7.out.grown (World.grownBy_alloc W7 ob none) (by simp)).cell (k := 3) (by omega); have q4 := fun ob => (RP7.out.grown (World.grownBy_alloc W7 ob none) (by simp)).cell (k := 4) (by omega); have q5 := fun ob => (RP7.out.grown (World.grownBy_alloc W7 ob none) (by simp)).cell (k := 5) (by omega); have q6 := fun ob => (RP7.out.grown (World.grownBy_alloc W7 ob none) (by simp)).cell (k := 6) (by omega); simp only [sevV, List.getD_cons_zero, List.getD_cons_succ] at q0 q1 q2 q3 q4 q5 q6; have HG7 := hid (show w.grownBy W7 none from (((World.grownBy_alloc w _ none).trans G1.out).trans H16.out).andThen GP7.out (fun j hj => .inl (by cases hj; have := G02.out.size; have := G23.out.size; have := G4.out.size; omega))); clear b0 hne; clear g6))
    | (go_at_call 41; refine (HU2.out _ (HBG4.out.grown (World.grownBy_alloc w4 _ none))).mono ?_; rintro e w5 ⟨rfl, g5⟩; have G45 := hid g5; have G5 := hid (G04.out.trans ((World.grownBy_alloc w4 _ none).trans g5)); have p0 := fun ob => (World.grownBy_alloc w5 ob none).cell (g5.cell (a := ⟨w4.heap.size, 0, none⟩) (v := .int .i64 a0) (by simp [go_sem]) (by simp)) (by simp); have p1 := fun ob => (World.grownBy_alloc w5 ob none).cell (g5.cell (a := ⟨w4.heap.size, 1, none⟩) (v := .bool a1) (by simp [go_sem]) (by simp)) (by simp); have p2 := fun ob => (World.grownBy_alloc w5 ob none).cell (g5.cell (a := ⟨w4.heap.size, 2, none⟩) (v := .bool a2) (by simp [go_sem]) (by simp)) (by simp); have p3 := fun ob => (World.grownBy_alloc w5 ob none).cell (g5.cell (a := ⟨w4.heap.size, 3, none⟩) (v := .int .i64 a3) (by simp [go_sem]) (by simp)) (by simp); have p4 := fun ob => (World.grownBy_alloc w5 ob none).cell (g5.cell (a := ⟨w4.heap.size, 4, none⟩) (v := .int .i64 a4) (by simp [go_sem]) (by simp)) (by simp); have p5 := fun ob => (World.grownBy_alloc w5 ob none).cell (g5.cell (a := ⟨w4.heap.size, 5, none⟩) (v := .int .i64 a5) (by simp [go_sem]) (by simp)) (by simp); have p6 := fun ob => (World.grownBy_alloc w5 ob none).cell (g5.cell (a := ⟨w4.heap.size, 6, none⟩) (v := .int .i64 a6) (by simp [go_sem]) (by simp)) (by simp); have BX := hid (bg_own hX (own_grown OX2.out (G23.out.trans (G4.out.trans ((World.grownBy_alloc w4 _ none).trans (g5.trans (World.grownBy_alloc w5 (.cells #[.int .i64 a0, .bool a1, .bool a2, .int .i64 a3, .int .i64 a4, .int .i64 a5, .int .i64 a6] 73) none))))))); clear g5))
  go_ret
  exact ⟨rfl, HG7.out.trans (World.grownBy_alloc _ _ none)⟩
set_option maxRecDepth 100000 in
theorem walk_s_none (k : Int) (ro : Bool) (d gp off ln : Int) (l X : List UInt8) (a : Addr) (c : Nat) (w : World) (a0 : Int) (a1 a2 : Bool) (a3 a4 a5 a6 ke : Int) (hlen : l.length ≤ 140737488351232) (HP1 : Hid (∀ w', Calls Try.prog 38 #[.agg #[.int .i64 k, .bool ro, .bool true, .int .i64 d, .int .i64 gp, .int .i64 off, .int .i64 ln]] w' (PkPost X w'))) (HP2 : Hid (∀ w', Calls Try.prog 39 #[.agg #[.int .i64 k, .bool ro, .bool true, .int .i64 d, .int .i64 gp, .int .i64 off, .int .i64 ln]] w' (PkPost X w'))) (hX : X.length = 8)
    (HX : Hid (∀ gx cx w', BG w' (some ⟨gx, 0, none⟩) X → Calls Try.prog 40 #[.slice (some ⟨gx, 0, none⟩) 8 cx] w' fun e w'' => e = .returned (.tuple #[.agg #[.int .i64 k, .bool ro, .bool true, .int .i64 d, .int .i64 gp, .int .i64 off, .int .i64 ln], .int .i64 0]) ∧ w'.grownBy w'' none))
    (HG : Hid (BG w none [])) (HU1 : Hid (∀ p' c' w', BG w' p' [] → Calls Try.prog 40 #[.slice p' 0 c'] w' fun e w'' => e = .returned (.tuple #[.agg #[.int .i64 a0, .bool a1, .bool a2, .int .i64 a3, .int .i64 a4, .int .i64 a5, .int .i64 a6], .int .i64 ke]) ∧ w'.grownBy w'' none))
    (HU2 : Hid (∀ w', BG w' none [] → Calls Try.prog 41 #[.slice none 0 c] w' fun e w'' => e = .returned (.tuple #[.agg #[.int .i64 a0, .bool a1, .bool a2, .int .i64 a3, .int .i64 a4, .int .i64 a5, .int .i64 a6], .int .i64 ke]) ∧ w'.grownBy w'' none)) :
    Calls Try.prog 6 #[.agg #[.int .i64 k, .bool ro, .bool true, .int .i64 d, .int .i64 gp, .int .i64 off, .int .i64 ln], .slice none 0 c] w fun e w' => e = .returned (.bool true) ∧ w.grownBy w' none := by
  have HE := hid (show ∀ (p : Option Addr) (w' : World), BG w' p [] from fun p w' k hk => by cases hk)
  obtain ⟨i0, hi, hz⟩ := Option.map_eq_some_iff.1 info_u8'
  simp only [Prod.mk.injEq] at hz
  have Hi := hid hi; have Hz0 := hid hz.1; have Hz1 := hid hz.2.1; have Hz2 := hid hz.2.2
  clear hi hz
  go_enter Try.func6, Try.ntmps6
  go_wp2_with (first
    | (go_at_call 38; refine (HP1.out _).mono ?_; rintro e w1 h1; obtain ⟨gx, cx, rfl, ox, g1⟩ := pk_some hX h1; clear h1; have OX := hid ox; clear ox; have G1 := hid g1; have RB := hid ((rowB w (.int .i64 k) (.bool ro) (.bool true) (.int .i64 d) (.int .i64 gp) (.int .i64 off) (.int .i64 ln)).grown g1 (by simp)); have b0 := RB.out.cell (k := 0) (by omega); have b1 := RB.out.cell (k := 1) (by omega); have b2 := RB.out.cell (k := 2) (by omega); have b3 := RB.out.cell (k := 3) (by omega); have b4 := RB.out.cell (k := 4) (by omega); have b5 := RB.out.cell (k := 5) (by omega); have b6 := RB.out.cell (k := 6) (by omega); simp only [sevV, List.getD_cons_zero, List.getD_cons_succ] at b0 b1 b2 b3 b4 b5 b6; clear g1)
    | (go_at_call 39; refine (HP2.out _).mono ?_; rintro e w2 h2; obtain ⟨gy, cy, rfl, oy, g2⟩ := pk_some hX h2; clear h2; have OX2 := hid (own_grown OX.out g2); have hcx := conv_own hX OX2.out; have hcy := conv_own hX oy; clear oy; have G2 := hid g2; have G02 := hid (((World.grownBy_alloc w _ none).trans G1.out).trans g2); have HBG2 := hid (HG.out.grown G02.out); clear b0 b1 b2 b3 b4 b5 b6 g2)
    | (go_at_call 40; first
        | ((with_reducible refine (HU1.out (some ⟨w2.heap.size, 0, none⟩) 0 _ (HE.out _ _)).mono ?_); rintro e w4 ⟨rfl, g4⟩; have G4 := hid g4; have G04 := hid ((G02.out.trans (World.grownBy_alloc w2 (Obj.cells #[] 5) none)).trans g4); have HBG4 := hid (HG.out.grown G04.out); clear g4)
        | ((with_reducible refine (HX.out _ _ _ BX.out).mono ?_); rintro e w6 ⟨rfl, g6⟩; have G6 := hid (G5.out.trans ((World.grownBy_alloc w5 _ none).trans g6)); have H16 := hid (((G2.out.trans (World.grownBy_alloc w2 (Obj.cells #[] 5) none)).trans G4.out).trans ((World.grownBy_alloc w4 _ none).trans (G45.out.trans ((World.grownBy_alloc w5 _ none).trans g6)))); have RB6 := hid (RB.out.grown H16.out (by simp)); have RP6 := hid (((rowB w4 (.int .i64 a0) (.bool a1) (.bool a2) (.int .i64 a3) (.int .i64 a4) (.int .i64 a5) (.int .i64 a6)).grown (G45.out.trans ((World.grownBy_alloc w5 _ none).trans g6)) (by simp))); have p0 := RP6.out.cell (k := 0) (by omega); have p1 := RP6.out.cell (k := 1) (by omega); have p2 := RP6.out.cell (k := 2) (by omega); have p3 := RP6.out.cell (k := 3) (by omega); have p4 := RP6.out.cell (k := 4) (by omega); have p5 := RP6.out.cell (k := 5) (by omega); have p6 := RP6.out.cell (k := 6) (by omega); simp only [sevV, List.getD_cons_zero, List.getD_cons_succ] at p0 p1 p2 p3 p4 p5 p6; have pz := RP6.out.frozen; have b0 := True.intro; obtain ⟨W7, hW7⟩ : ∃ W7, (((((((w6.setCell ⟨w4.heap.size, 0, none⟩ (.int .i64 k)).setCell ⟨w4.heap.size, 1, none⟩ (.bool ro)).setCell ⟨w4.heap.size, 2, none⟩ (.bool true)).setCell ⟨w4.heap.size, 3, none⟩ (.int .i64 d)).setCell ⟨w4.heap.size, 4, none⟩ (.int .i64 gp)).setCell ⟨w4.heap.size, 5, none⟩ (.int .i64 off)).setCell ⟨w4.heap.size, 6, none⟩ (.int .i64 ln)) = W7 := ⟨_, rfl⟩; have RP7 := hid (hW7 ▸ set7 RP6.out (.int .i64 k) (.bool ro) (.bool true) (.int .i64 d) (.int .i64 gp) (.int .i64 off) (.int .i64 ln)); have GP7 := hid (hW7 ▸ set7_grown w6 w4.heap.size (.int .i64 k) (.bool ro) (.bool true) (.int .i64 d) (.int .i64 gp) (.int .i64 off) (.int .i64 ln)); have hne : w.heap.size ≠ w4.heap.size := (by have h0 : w.heap.size < w1.heap.size := World.block_lt_of_cell? w1 _ (RB.out.cell (k := 0) (by omega)); have := G2.out.size; have := (World.grownBy_alloc w2 (Obj.cells #[] 5) none).size; have := G4.out.size; omega); have HN := hid hne; have B0 := hid (grown_cell GP7.out (by simpa using hne) (RB6.out.cell (k := 0) (by omega))); have B1 := hid (grown_cell GP7.out (by simpa using hne) (RB6.out.cell (k := 1) (by omega))); have B2 := hid (grown_cell GP7.out (by simpa using hne) (RB6.out.cell (k := 2) (by omega))); have B3 := hid (grown_cell GP7.out (by simpa using hne) (RB6.out.cell (k := 3) (by omega))); have B4 := hid (grown_cell GP7.out (by simpa using hne) (RB6.out.cell (k := 4) (by omega))); have B5 := hid (grown_cell GP7.out (by simpa using hne) (RB6.out.cell (k := 5) (by omega))); have B6 := hid (grown_cell GP7.out (by simpa using hne) (RB6.out.cell (k := 6) (by omega))); have d0 := B0.out; have d1 := B1.out; have d2 := B2.out; have d3 := B3.out; have d4 := B4.out; have d5 := B5.out; have d6 := B6.out; have d7 := fun ob => (World.grownBy_alloc W7 ob none).cell B2.out (by simp); simp only [sevV, List.getD_cons_zero, List.getD_cons_succ] at d0 d1 d2 d3 d4 d5 d6 d7; have q0 := fun ob => (RP7.out.grown (World.grownBy_alloc W7 ob none) (by simp)).cell (k := 0) (by omega); have q1 := fun ob => (RP7.out.grown (World.grownBy_alloc W7 ob none) (by simp)).cell (k := 1) (by omega); have q2 := fun ob => (RP7.out.grown (World.grownBy_alloc W7 ob none) (by simp)).cell (k := 2) (by omega); have q3 := fun ob => (RP7.out.grown (World.grownBy_alloc W7 ob none) (by simp)).cell (k := 3) (by omega); have q4 := fun ob => (RP7.out.grown (World.grownBy_alloc W7 ob none) (by simp)).cell (k := 4) (by omega); have q5 := fun ob => (RP7.out.grown (World.grownBy_alloc W7 ob none) (by simp)).cell (k := 5) (by omega); have q6 := fun ob => (RP7.out.grown (World.grownBy_alloc W7 ob none) (by simp)).cell (k := 6) (by omega); simp only [sevV, List.getD_cons_zero, List.getD_cons_succ] at q0 q1 q2 q3 q4 q5 q6; have HG7 := hid (show w.grownBy W7 none from (((World.grownBy_alloc w _ none).trans G1.out).trans H16.out).andThen GP7.out (fun j hj => .inl (by cases hj; have := G02.out.size; have := (World.grownBy_alloc w2 (Obj.cells #[] 5) none).size; have := G4.out.size; omega))); clear b0 hne; clear g6))
    | (go_at_call 41; refine (HU2.out _ (HE.out _ _)).mono ?_; rintro e w5 ⟨rfl, g5⟩; have G45 := hid g5; have G5 := hid (G04.out.trans ((World.grownBy_alloc w4 _ none).trans g5)); have p0 := fun ob => (World.grownBy_alloc w5 ob none).cell (g5.cell (a := ⟨w4.heap.size, 0, none⟩) (v := .int .i64 a0) (by simp [go_sem]) (by simp)) (by simp); have p1 := fun ob => (World.grownBy_alloc w5 ob none).cell (g5.cell (a := ⟨w4.heap.size, 1, none⟩) (v := .bool a1) (by simp [go_sem]) (by simp)) (by simp); have p2 := fun ob => (World.grownBy_alloc w5 ob none).cell (g5.cell (a := ⟨w4.heap.size, 2, none⟩) (v := .bool a2) (by simp [go_sem]) (by simp)) (by simp); have p3 := fun ob => (World.grownBy_alloc w5 ob none).cell (g5.cell (a := ⟨w4.heap.size, 3, none⟩) (v := .int .i64 a3) (by simp [go_sem]) (by simp)) (by simp); have p4 := fun ob => (World.grownBy_alloc w5 ob none).cell (g5.cell (a := ⟨w4.heap.size, 4, none⟩) (v := .int .i64 a4) (by simp [go_sem]) (by simp)) (by simp); have p5 := fun ob => (World.grownBy_alloc w5 ob none).cell (g5.cell (a := ⟨w4.heap.size, 5, none⟩) (v := .int .i64 a5) (by simp [go_sem]) (by simp)) (by simp); have p6 := fun ob => (World.grownBy_alloc w5 ob none).cell (g5.cell (a := ⟨w4.heap.size, 6, none⟩) (v := .int .i64 a6) (by simp [go_sem]) (by simp)) (by simp); have BX := hid (bg_own hX (own_grown OX2.out ((World.grownBy_alloc w2 (Obj.cells #[] 5) none).trans (G4.out.trans ((World.grownBy_alloc w4 _ none).trans (g5.trans (World.grownBy_alloc w5 (.cells #[.int .i64 a0, .bool a1, .bool a2, .int .i64 a3, .int .i64 a4, .int .i64 a5, .int .i64 a6] 73) none))))))); clear g5))
  go_ret
  exact ⟨rfl, HG7.out.trans (World.grownBy_alloc _ _ none)⟩
set_option maxRecDepth 100000 in
theorem walk_a_some (k : Int) (ro : Bool) (d gp off ln : Int) (l X : List UInt8) (a : Addr) (c : Nat) (w : World) (a0 : Int) (a1 a2 : Bool) (a3 a4 a5 a6 ke : Int) (hlen : l.length ≤ 140737488351232) (HP1 : Hid (∀ w', Calls Try.prog 38 #[.agg #[.int .i64 k, .bool ro, .bool false, .int .i64 d, .int .i64 gp, .int .i64 off, .int .i64 ln]] w' (PkPost X w'))) (HP2 : Hid (∀ w', Calls Try.prog 39 #[.agg #[.int .i64 k, .bool ro, .bool false, .int .i64 d, .int .i64 gp, .int .i64 off, .int .i64 ln]] w' (PkPost X w'))) (hX : X.length = 8)
    (HX : Hid (∀ gx cx w', BG w' (some ⟨gx, 0, none⟩) X → Calls Try.prog 40 #[.slice (some ⟨gx, 0, none⟩) 8 cx] w' fun e w'' => e = .returned (.tuple #[.agg #[.int .i64 k, .bool ro, .bool false, .int .i64 d, .int .i64 gp, .int .i64 0, .int .i64 256], .int .i64 0]) ∧ w'.grownBy w'' none))
    (HG : Hid (BG w (some a) l)) (HU1 : Hid (∀ p' c' w', BG w' p' l → Calls Try.prog 40 #[.slice p' l.length c'] w' fun e w'' => e = .returned (.tuple #[.agg #[.int .i64 a0, .bool a1, .bool a2, .int .i64 a3, .int .i64 a4, .int .i64 a5, .int .i64 a6], .int .i64 ke]) ∧ w'.grownBy w'' none))
    (HU2 : Hid (∀ w', BG w' (some a) l → Calls Try.prog 41 #[.slice (some a) l.length c] w' fun e w'' => e = .returned (.tuple #[.agg #[.int .i64 a0, .bool a1, .bool a2, .int .i64 a3, .int .i64 a4, .int .i64 a5, .int .i64 a6], .int .i64 ke]) ∧ w'.grownBy w'' none)) :
    Calls Try.prog 6 #[.agg #[.int .i64 k, .bool ro, .bool false, .int .i64 d, .int .i64 gp, .int .i64 off, .int .i64 ln], .slice (some a) l.length c] w fun e w' => e = .returned (.bool true) ∧ w.grownBy w' none := by
  have HE := hid (show ∀ (p : Option Addr) (w' : World), BG w' p [] from fun p w' k hk => by cases hk)
  obtain ⟨i0, hi, hz⟩ := Option.map_eq_some_iff.1 info_u8'
  simp only [Prod.mk.injEq] at hz
  have Hi := hid hi; have Hz0 := hid hz.1; have Hz1 := hid hz.2.1; have Hz2 := hid hz.2.2
  clear hi hz
  go_enter Try.func6, Try.ntmps6
  go_wp2_with (first
    | (go_at_call 38; refine (HP1.out _).mono ?_; rintro e w1 h1; obtain ⟨gx, cx, rfl, ox, g1⟩ := pk_some hX h1; clear h1; have OX := hid ox; clear ox; have G1 := hid g1; have RB := hid ((rowB w (.int .i64 k) (.bool ro) (.bool false) (.int .i64 d) (.int .i64 gp) (.int .i64 off) (.int .i64 ln)).grown g1 (by simp)); have b0 := RB.out.cell (k := 0) (by omega); have b1 := RB.out.cell (k := 1) (by omega); have b2 := RB.out.cell (k := 2) (by omega); have b3 := RB.out.cell (k := 3) (by omega); have b4 := RB.out.cell (k := 4) (by omega); have b5 := RB.out.cell (k := 5) (by omega); have b6 := RB.out.cell (k := 6) (by omega); simp only [sevV, List.getD_cons_zero, List.getD_cons_succ] at b0 b1 b2 b3 b4 b5 b6; clear g1)
    | (go_at_call 39; refine (HP2.out _).mono ?_; rintro e w2 h2; obtain ⟨gy, cy, rfl, oy, g2⟩ := pk_some hX h2; clear h2; have OX2 := hid (own_grown OX.out g2); have hcx := conv_own hX OX2.out; have hcy := conv_own hX oy; clear oy; have G2 := hid g2; have G02 := hid (((World.grownBy_alloc w _ none).trans G1.out).trans g2); have HBG2 := hid (HG.out.grown G02.out); clear b0 b1 b2 b3 b4 b5 b6 g2)
    | (at_builtin; refine wpList_append_own _ rfl _ _ 31 rfl w2.heap.size 5 i0 (.int .u8 0) 1 1 Try.underlying31 Hi.out Hz0.out Hz1.out Hz2.out rfl (by decide) _ _ _ rfl (own0 w2 _ 1) a l.length c (bcells l) rfl (show (bcells l).length = l.length * 1 by rw [bcells_len, Nat.mul_one]) (fun j u hu => news_at HBG2.out j u hu) (bcells_one l) (by unfold maxLen; omega) (by omega) (alloc_le w2 _) ?_; intro v' w3 hown' hgrow hnil; clear hnil; have G23 := hid ((World.grownBy_alloc w2 _ none).andThen hgrow (fun j hj => .inl (by cases hj; exact Nat.le_refl _))); rw [Nat.zero_add, List.nil_append] at hown'; obtain ⟨p', c', rfl, hc', hg'⟩ := BG.of_own hown'; have HG' := hid hg'; clear hown' hgrow hg' hc')
    | (go_at_call 40; first
        | ((with_reducible refine (HU1.out _ _ _ HG'.out).mono ?_); rintro e w4 ⟨rfl, g4⟩; have G4 := hid g4; have G04 := hid ((G02.out.trans G23.out).trans g4); have HBG4 := hid (HG.out.grown G04.out); clear g4)
        | ((with_reducible refine (HX.out _ _ _ BX.out).mono ?_); rintro e w6 ⟨rfl, g6⟩; have G6 := hid (G5.out.trans ((World.grownBy_alloc w5 _ none).trans g6)); have H16 := hid (((G2.out.trans G23.out).trans G4.out).trans ((World.grownBy_alloc w4 _ none).trans (G45.out.trans ((World.grownBy_alloc w5 _ none).trans g6)))); have RB6 := hid (RB.out.grown H16.out (by simp)); have RP6 := hid (((rowB w4 (.int .i64 a0) (.bool a1) (.bool a2) (.int .i64 a3) (.int .i64 a4) (.int .i64 a5) (.int .i64 a6)).grown (G45.out.trans ((World.grownBy_alloc w5 _ none).trans g6)) (by simp))); have p0 := RP6.out.cell (k := 0) (by omega); have p1 := RP6.out.cell (k := 1) (by omega); have p2 := RP6.out.cell (k := 2) (by omega); have p3 := RP6.out.cell (k := 3) (by omega); have p4 := RP6.out.cell (k := 4) (by omega); have p5 := RP6.out.cell (k := 5) (by omega); have p6 := RP6.out.cell (k := 6) (by omega); simp only [sevV, List.getD_cons_zero, List.getD_cons_succ] at p0 p1 p2 p3 p4 p5 p6; have pz := RP6.out.frozen; have b0 := True.intro; obtain ⟨W7, hW7⟩ : ∃ W7, (((((((w6.setCell ⟨w4.heap.size, 0, none⟩ (.int .i64 k)).setCell ⟨w4.heap.size, 1, none⟩ (.bool ro)).setCell ⟨w4.heap.size, 2, none⟩ (.bool false)).setCell ⟨w4.heap.size, 3, none⟩ (.int .i64 d)).setCell ⟨w4.heap.size, 4, none⟩ (.int .i64 gp)).setCell ⟨w4.heap.size, 5, none⟩ (.int .i64 0)).setCell ⟨w4.heap.size, 6, none⟩ (.int .i64 256)) = W7 := ⟨_, rfl⟩; have RP7 := hid (hW7 ▸ set7 RP6.out (.int .i64 k) (.bool ro) (.bool false) (.int .i64 d) (.int .i64 gp) (.int .i64 0) (.int .i64 256)); have GP7 := hid (hW7 ▸ set7_grown w6 w4.heap.size (.int .i64 k) (.bool ro) (.bool false) (.int .i64 d) (.int .i64 gp) (.int .i64 0) (.int .i64 256)); have hne : w.heap.size ≠ w4.heap.size := (by have h0 : w.heap.size < w1.heap.size := World.block_lt_of_cell? w1 _ (RB.out.cell (k := 0) (by omega)); have := G2.out.size; have := G23.out.size; have := G4.out.size; omega); have HN := hid hne; have B0 := hid (grown_cell GP7.out (by simpa using hne) (RB6.out.cell (k := 0) (by omega))); have B1 := hid (grown_cell GP7.out (by simpa using hne) (RB6.out.cell (k := 1) (by omega))); have B2 := hid (grown_cell GP7.out (by simpa using hne) (RB6.out.cell (k := 2) (by omega))); have B3 := hid (grown_cell GP7.out (by simpa using hne) (RB6.out.cell (k := 3) (by omega))); have B4 := hid (grown_cell GP7.out (by simpa using hne) (RB6.out.cell (k := 4) (by omega))); have B5 := hid (grown_cell GP7.out (by simpa using hne) (RB6.out.cell (k := 5) (by omega))); have B6 := hid (grown_cell GP7.out (by simpa using hne) (RB6.out.cell (k := 6) (by omega))); have d0 := B0.out; have d1 := B1.out; have d2 := B2.out; have d3 := B3.out; have d4 := B4.out; have d5 := B5.out; have d6 := B6.out; have d7 := fun ob => (World.grownBy_alloc W7 ob none).cell B2.out (by simp); simp only [sevV, List.getD_cons_zero, List.getD_cons_succ] at d0 d1 d2 d3 d4 d5 d6 d7; have q0 := fun ob => (RP7.out.grown (World.grownBy_alloc W7 ob none) (by simp)).cell (k := 0) (by omega); have q1 := fun ob => (RP7.out.grown (World.grownBy_alloc W7 ob none) (by simp)).cell (k := 1) (by omega); have q2 := fun ob => (RP7.out.grown (World.grownBy_alloc W7 ob none) (by simp)).cell (k := 2) (by omega); have q3 := fun ob => (RP7.out.grown (World.grownBy_alloc W7 ob none) (by simp)).cell (k := 3) (by omega); have q4 := fun ob => (RP7.out.grown (World.grownBy_alloc W7 ob none) (by simp)).cell (k := 4) (by omega); have q5 := fun ob => (RP7.out.grown (World.grownBy_alloc W7 ob none) (by simp)).cell (k := 5) (by omega); have q6 := fun ob => (RP7.out.grown (World.grownBy_alloc W7 ob none) (by simp)).cell (k := 6) (by omega); simp only [sevV, List.getD_cons_zero, List.getD_cons_succ] at q0 q1 q2 q3 q4 q5 q6; have HG7 := hid (show w.grownBy W7 none from (((World.grownBy_alloc w _ none).trans G1.out).trans H16.out).andThen GP7.out (fun j hj => .inl (by cases hj; have := G02.out.size; have := G23.out.size; have := G4.out.size; omega))); clear b0 hne; clear g6))
    | (go_at_call 41; refine (HU2.out _ (HBG4.out.grown (World.grownBy_alloc w4 _ none))).mono ?_; rintro e w5 ⟨rfl, g5⟩; have G45 := hid g5; have G5 := hid (G04.out.trans ((World.grownBy_alloc w4 _ none).trans g5)); have p0 := fun ob => (World.grownBy_alloc w5 ob none).cell (g5.cell (a := ⟨w4.heap.size, 0, none⟩) (v := .int .i64 a0) (by simp [go_sem]) (by simp)) (by simp); have p1 := fun ob => (World.grownBy_alloc w5 ob none).cell (g5.cell (a := ⟨w4.heap.size, 1, none⟩) (v := .bool a1) (by simp [go_sem]) (by simp)) (by simp); have p2 := fun ob => (World.grownBy_alloc w5 ob none).cell (g5.cell (a := ⟨w4.heap.size, 2, none⟩) (v := .bool a2) (by simp [go_sem]) (by simp)) (by simp); have p3 := fun ob => (World.grownBy_alloc w5 ob none).cell (g5.cell (a := ⟨w4.heap.size, 3, none⟩) (v := .int .i64 a3) (by simp [go_sem]) (by simp)) (by simp); have p4 := fun ob => (World.grownBy_alloc w5 ob none).cell (g5.cell (a := ⟨w4.heap.size, 4, none⟩) (v := .int .i64 a4) (by simp [go_sem]) (by simp)) (by simp); have p5 := fun ob => (World.grownBy_alloc w5 ob none).cell (g5.cell (a := ⟨w4.heap.size, 5, none⟩) (v := .int .i64 a5) (by simp [go_sem]) (by simp)) (by simp); have p6 := fun ob => (World.grownBy_alloc w5 ob none).cell (g5.cell (a := ⟨w4.heap.size, 6, none⟩) (v := .int .i64 a6) (by simp [go_sem]) (by simp)) (by simp); have BX := hid (bg_own hX (own_grown OX2.out (G23.out.trans (G4.out.trans ((World.grownBy_alloc w4 _ none).trans (g5.trans (World.grownBy_alloc w5 (.cells #[.int .i64 a0, .bool a1, .bool a2, .int .i64 a3, .int .i64 a4, .int .i64 a5, .int .i64 a6] 73) none))))))); clear g5))
  go_ret
  exact ⟨rfl, HG7.out.trans (World.grownBy_alloc _ _ none)⟩
set_option maxRecDepth 100000 in
theorem walk_a_none (k : Int) (ro : Bool) (d gp off ln : Int) (l X : List UInt8) (a : Addr) (c : Nat) (w : World) (a0 : Int) (a1 a2 : Bool) (a3 a4 a5 a6 ke : Int) (hlen : l.length ≤ 140737488351232) (HP1 : Hid (∀ w', Calls Try.prog 38 #[.agg #[.int .i64 k, .bool ro, .bool false, .int .i64 d, .int .i64 gp, .int .i64 off, .int .i64 ln]] w' (PkPost X w'))) (HP2 : Hid (∀ w', Calls Try.prog 39 #[.agg #[.int .i64 k, .bool ro, .bool false, .int .i64 d, .int .i64 gp, .int .i64 off, .int .i64 ln]] w' (PkPost X w'))) (hX : X.length = 8)
    (HX : Hid (∀ gx cx w', BG w' (some ⟨gx, 0, none⟩) X → Calls Try.prog 40 #[.slice (some ⟨gx, 0, none⟩) 8 cx] w' fun e w'' => e = .returned (.tuple #[.agg #[.int .i64 k, .bool ro, .bool false, .int .i64 d, .int .i64 gp, .int .i64 0, .int .i64 256], .int .i64 0]) ∧ w'.grownBy w'' none))
    (HG : Hid (BG w none [])) (HU1 : Hid (∀ p' c' w', BG w' p' [] → Calls Try.prog 40 #[.slice p' 0 c'] w' fun e w'' => e = .returned (.tuple #[.agg #[.int .i64 a0, .bool a1, .bool a2, .int .i64 a3, .int .i64 a4, .int .i64 a5, .int .i64 a6], .int .i64 ke]) ∧ w'.grownBy w'' none))
    (HU2 : Hid (∀ w', BG w' none [] → Calls Try.prog 41 #[.slice none 0 c] w' fun e w'' => e = .returned (.tuple #[.agg #[.int .i64 a0, .bool a1, .bool a2, .int .i64 a3, .int .i64 a4, .int .i64 a5, .int .i64 a6], .int .i64 ke]) ∧ w'.grownBy w'' none)) :
    Calls Try.prog 6 #[.agg #[.int .i64 k, .bool ro, .bool false, .int .i64 d, .int .i64 gp, .int .i64 off, .int .i64 ln], .slice none 0 c] w fun e w' => e = .returned (.bool true) ∧ w.grownBy w' none := by
  have HE := hid (show ∀ (p : Option Addr) (w' : World), BG w' p [] from fun p w' k hk => by cases hk)
  obtain ⟨i0, hi, hz⟩ := Option.map_eq_some_iff.1 info_u8'
  simp only [Prod.mk.injEq] at hz
  have Hi := hid hi; have Hz0 := hid hz.1; have Hz1 := hid hz.2.1; have Hz2 := hid hz.2.2
  clear hi hz
  go_enter Try.func6, Try.ntmps6
  go_wp2_with (first
    | (go_at_call 38; refine (HP1.out _).mono ?_; rintro e w1 h1; obtain ⟨gx, cx, rfl, ox, g1⟩ := pk_some hX h1; clear h1; have OX := hid ox; clear ox; have G1 := hid g1; have RB := hid ((rowB w (.int .i64 k) (.bool ro) (.bool false) (.int .i64 d) (.int .i64 gp) (.int .i64 off) (.int .i64 ln)).grown g1 (by simp)); have b0 := RB.out.cell (k := 0) (by omega); have b1 := RB.out.cell (k := 1) (by omega); have b2 := RB.out.cell (k := 2) (by omega); have b3 := RB.out.cell (k := 3) (by omega); have b4 := RB.out.cell (k := 4) (by omega); have b5 := RB.out.cell (k := 5) (by omega); have b6 := RB.out.cell (k := 6) (by omega); simp only [sevV, List.getD_cons_zero, List.getD_cons_succ] at b0 b1 b2 b3 b4 b5 b6; clear g1)
    | (go_at_call 39; refine (HP2.out _).mono ?_; rintro e w2 h2; obtain ⟨gy, cy, rfl, oy, g2⟩ := pk_some hX h2; clear h2; have OX2 := hid (own_grown OX.out g2); have hcx := conv_own hX OX2.out; have hcy := conv_own hX oy; clear oy; have G2 := hid g2; have G02 := hid (((World.grownBy_alloc w _ none).trans G1.out).trans g2); have HBG2 := hid (HG.out.grown G02.out); clear b0 b1 b2 b3 b4 b5 b6 g2)
    | (go_at_call 40; first
        | ((with_reducible refine (HU1.out (some ⟨w2.heap.size, 0, none⟩) 0 _ (HE.out _ _)).mono ?_); rintro e w4 ⟨rfl, g4⟩; have G4 := hid g4; have G04 := hid ((G02.out.trans (World.grownBy_alloc w2 (Obj.cells #[] 5) none)).trans g4); have HBG4 := hid (HG.out.grown G04.out); clear g4)
        | ((with_reducible refine (HX.out _ _ _ BX.out).mono ?_); rintro e w6 ⟨rfl, g6⟩; have G6 := hid (G5.out.trans ((World.grownBy_alloc w5 _ none).trans g6)); have H16 := hid (((G2.out.trans (World.grownBy_alloc w2 (Obj.cells #[] 5) none)).trans G4.out).trans ((World.grownBy_alloc w4 _ none).trans (G45.out.trans ((World.grownBy_alloc w5 _ none).trans g6)))); have RB6 := hid (RB.out.grown H16.out (by simp)); have RP6 := hid (((rowB w4 (.int .i64 a0) (.bool a1) (.bool a2) (.int .i64 a3) (.int .i64 a4) (.int .i64 a5) (.int .i64 a6)).grown (G45.out.trans ((World.grownBy_alloc w5 _ none).trans g6)) (by simp))); have p0 := RP6.out.cell (k := 0) (by omega); have p1 := RP6.out.cell (k := 1) (by omega); have p2 := RP6.out.cell (k := 2) (by omega); have p3 := RP6.out.cell (k := 3) (by omega); have p4 := RP6.out.cell (k := 4) (by omega); have p5 := RP6.out.cell (k := 5) (by omega); have p6 := RP6.out.cell (k := 6) (by omega); simp only [sevV, List.getD_cons_zero, List.getD_cons_succ] at p0 p1 p2 p3 p4 p5 p6; have pz := RP6.out.frozen; have b0 := True.intro; obtain ⟨W7, hW7⟩ : ∃ W7, (((((((w6.setCell ⟨w4.heap.size, 0, none⟩ (.int .i64 k)).setCell ⟨w4.heap.size, 1, none⟩ (.bool ro)).setCell ⟨w4.heap.size, 2, none⟩ (.bool false)).setCell ⟨w4.heap.size, 3, none⟩ (.int .i64 d)).setCell ⟨w4.heap.size, 4, none⟩ (.int .i64 gp)).setCell ⟨w4.heap.size, 5, none⟩ (.int .i64 0)).setCell ⟨w4.heap.size, 6, none⟩ (.int .i64 256)) = W7 := ⟨_, rfl⟩; have RP7 := hid (hW7 ▸ set7 RP6.out (.int .i64 k) (.bool ro) (.bool false) (.int .i64 d) (.int .i64 gp) (.int .i64 0) (.int .i64 256)); have GP7 := hid (hW7 ▸ set7_grown w6 w4.heap.size (.int .i64 k) (.bool ro) (.bool false) (.int .i64 d) (.int .i64 gp) (.int .i64 0) (.int .i64 256)); have hne : w.heap.size ≠ w4.heap.size := (by have h0 : w.heap.size < w1.heap.size := World.block_lt_of_cell? w1 _ (RB.out.cell (k := 0) (by omega)); have := G2.out.size; have := (World.grownBy_alloc w2 (Obj.cells #[] 5) none).size; have := G4.out.size; omega); have HN := hid hne; have B0 := hid (grown_cell GP7.out (by simpa using hne) (RB6.out.cell (k := 0) (by omega))); have B1 := hid (grown_cell GP7.out (by simpa using hne) (RB6.out.cell (k := 1) (by omega))); have B2 := hid (grown_cell GP7.out (by simpa using hne) (RB6.out.cell (k := 2) (by omega))); have B3 := hid (grown_cell GP7.out (by simpa using hne) (RB6.out.cell (k := 3) (by omega))); have B4 := hid (grown_cell GP7.out (by simpa using hne) (RB6.out.cell (k := 4) (by omega))); have B5 := hid (grown_cell GP7.out (by simpa using hne) (RB6.out.cell (k := 5) (by omega))); have B6 := hid (grown_cell GP7.out (by simpa using hne) (RB6.out.cell (k := 6) (by omega))); have d0 := B0.out; have d1 := B1.out; have d2 := B2.out; have d3 := B3.out; have d4 := B4.out; have d5 := B5.out; have d6 := B6.out; have d7 := fun ob => (World.grownBy_alloc W7 ob none).cell B2.out (by simp); simp only [sevV, List.getD_cons_zero, List.getD_cons_succ] at d0 d1 d2 d3 d4 d5 d6 d7; have q0 := fun ob => (RP7.out.grown (World.grownBy_alloc W7 ob none) (by simp)).cell (k := 0) (by omega); have q1 := fun ob => (RP7.out.grown (World.grownBy_alloc W7 ob none) (by simp)).cell (k := 1) (by omega); have q2 := fun ob => (RP7.out.grown (World.grownBy_alloc W7 ob none) (by simp)).cell (k := 2) (by omega); have q3 := fun ob => (RP7.out.grown (World.grownBy_alloc W7 ob none) (by simp)).cell (k := 3) (by omega); have q4 := fun ob => (RP7.out.grown (World.grownBy_alloc W7 ob none) (by simp)).cell (k := 4) (by omega); have q5 := fun ob => (RP7.out.grown (World.grownBy_alloc W7 ob none) (by simp)).cell (k := 5) (by omega); have q6 := fun ob => (RP7.out.grown (World.grownBy_alloc W7 ob none) (by simp)).cell (k := 6) (by omega); simp only [sevV, List.getD_cons_zero, List.getD_cons_succ] at q0 q1 q2 q3 q4 q5 q6; have HG7 := hid (show w.grownBy W7 none from (((World.grownBy_alloc w _ none).trans G1.out).trans H16.out).andThen GP7.out (fun j hj => .inl (by cases hj; have := G02.out.size; have := (World.grownBy_alloc w2 (Obj.cells #[] 5) none).size; have := G4.out.size; omega))); clear b0 hne; clear g6))
    | (go_at_call 41; refine (HU2.out _ (HE.out _ _)).mono ?_; rintro e w5 ⟨rfl, g5⟩; have G45 := hid g5; have G5 := hid (G04.out.trans ((World.grownBy_alloc w4 _ none).trans g5)); have p0 := fun ob => (World.grownBy_alloc w5 ob none).cell (g5.cell (a := ⟨w4.heap.size, 0, none⟩) (v := .int .i64 a0) (by simp [go_sem]) (by simp)) (by simp); have p1 := fun ob => (World.grownBy_alloc w5 ob none).cell (g5.cell (a := ⟨w4.heap.size, 1, none⟩) (v := .bool a1) (by simp [go_sem]) (by simp)) (by simp); have p2 := fun ob => (World.grownBy_alloc w5 ob none).cell (g5.cell (a := ⟨w4.heap.size, 2, none⟩) (v := .bool a2) (by simp [go_sem]) (by simp)) (by simp); have p3 := fun ob => (World.grownBy_alloc w5 ob none).cell (g5.cell (a := ⟨w4.heap.size, 3, none⟩) (v := .int .i64 a3) (by simp [go_sem]) (by simp)) (by simp); have p4 := fun ob => (World.grownBy_alloc w5 ob none).cell (g5.cell (a := ⟨w4.heap.size, 4, none⟩) (v := .int .i64 a4) (by simp [go_sem]) (by simp)) (by simp); have p5 := fun ob => (World.grownBy_alloc w5 ob none).cell (g5.cell (a := ⟨w4.heap.size, 5, none⟩) (v := .int .i64 a5) (by simp [go_sem]) (by simp)) (by simp); have p6 := fun ob => (World.grownBy_alloc w5 ob none).cell (g5.cell (a := ⟨w4.heap.size, 6, none⟩) (v := .int .i64 a6) (by simp [go_sem]) (by simp)) (by simp); have BX := hid (bg_own hX (own_grown OX2.out ((World.grownBy_alloc w2 (Obj.cells #[] 5) none).trans (G4.out.trans ((World.grownBy_alloc w4 _ none).trans (g5.trans (World.grownBy_alloc w5 (.cells #[.int .i64 a0, .bool a1, .bool a2, .int .i64 a3, .int .i64 a4, .int .i64 a5, .int .i64 a6] 73) none))))))); clear g5))
  go_ret
  exact ⟨rfl, HG7.out.trans (World.grownBy_alloc _ _ none)⟩
theorem walk (g : GV) (hoff : g.off ≤ 9223372036854775807) (l : List UInt8) (p : Option Addr) (c : Nat) (w : World) (hlen : l.length ≤ 140737488351232) (hg : BG w p l) :
    Calls Try.prog 6 #[g.val, .slice p l.length c] w fun e w' => e = .returned (.bool true) ∧ w.grownBy w' none := by
  obtain ⟨gv, ke, hv⟩ : ∃ gv ke, unpG l = (gv, ke) := ⟨_, _, rfl⟩
  have H1 := fun p' c' w' (h : BG w' p' l) => gPn l p' c' w' h
  have H2 := fun w' (h : BG w' p l) => gUn l p c w' h
  rw [hv] at H1 H2
  obtain ⟨a0, a1, a2, a3, a4, a5, a6⟩ := gv
  simp only [GV.val] at H1 H2
  have HPk := fun w' => gPacks g w' hoff
  clear hv
  have hnil : p = none → l = [] := fun e => by
    subst e
    cases l with
    | nil => rfl
    | cons x r => obtain ⟨_, _, e, _⟩ := hg 0 (by simp); cases e
  cases hp : packV g with
  | false =>
    rw [hp] at HPk
    have K3 := fun w' => gPn_len none 0 0 w' (by decide)
    have K1 := fun w' => gPk_no g.k g.ro g.sub g.dom g.gpfn g.off g.len w' HPk
    have K2 := fun w' => rPk_no g.k g.ro g.sub g.dom g.gpfn g.off g.len w' hp
    simp only [g0, GV.val] at K3
    cases p with
    | none =>
      obtain rfl := hnil rfl
      exact walk_no_none g.k g.ro g.sub g.dom g.gpfn g.off g.len [] [] ⟨0, 0, none⟩ c w a0 a1 a2 a3 a4 a5 a6 ke hlen (hid K1) (hid K2) (hid K3) (hid hg) (hid H1) (hid H2)
    | some a => exact walk_no_some g.k g.ro g.sub g.dom g.gpfn g.off g.len l [] a c w a0 a1 a2 a3 a4 a5 a6 ke hlen (hid K1) (hid K2) (hid K3) (hid hg) (hid H1) (hid H2)
  | true =>
    have K1 := fun w' => gPk_yes g w' hp
    have K2 := fun w' => rPk_yes g w' hp
    have K3 := fun (gx cx : Nat) w' (h : BG w' (some ⟨gx, 0, none⟩) (pkL g)) => gPn (pkL g) (some ⟨gx, 0, none⟩) cx w' h
    rw [unp_pk g hp, pkL_len] at K3
    have hX := pkL_len g
    generalize pkL g = X at *
    obtain ⟨k, ro, sub, d, gp, off, ln⟩ := g
    cases sub with
    | true =>
      cases p with
      | none =>
        obtain rfl := hnil rfl
        exact walk_s_none k ro d gp off ln [] X ⟨0, 0, none⟩ c w a0 a1 a2 a3 a4 a5 a6 ke hlen (hid K1) (hid K2) hX (hid K3) (hid hg) (hid H1) (hid H2)
      | some a => exact walk_s_some k ro d gp off ln l X a c w a0 a1 a2 a3 a4 a5 a6 ke hlen (hid K1) (hid K2) hX (hid K3) (hid hg) (hid H1) (hid H2)
    | false =>
      cases p with
      | none =>
        obtain rfl := hnil rfl
        exact walk_a_none k ro d gp off ln [] X ⟨0, 0, none⟩ c w a0 a1 a2 a3 a4 a5 a6 ke hlen (hid K1) (hid K2) hX (hid K3) (hid hg) (hid H1) (hid H2)
      | some a => exact walk_a_some k ro d gp off ln l X a c w a0 a1 a2 a3 a4 a5 a6 ke hlen (hid K1) (hid K2) hX (hid K3) (hid hg) (hid H1) (hid H2)
theorem grant_flat : Flat.isFlat Try.prog 73 [3, 4, 4, 3, 3, 3, 3] = true := by kernel_rfl
theorem list7 {α : Type} {l : List α} (h : l.length = 7) : ∃ a b c d e f g, l = [a, b, c, d, e, f, g] := by
  match l, h with
  | [a, b, c, d, e, f, g], _ => exact ⟨a, b, c, d, e, f, g, rfl⟩
theorem top_i64 {n : Int} (h : (Lit.int .i64 n).wf = true) : n ≤ 9223372036854775807 := by
  exact (bounds_i64 h).2
theorem main {H : Type} {enc : TypeId × Value → H} (l0 : List Value) (v1 : Value) (W : World)
    (z0 : l0.length = [3, 4, 4, 3, 3, 3, 3].length) (c0 : ∀ (j : Nat) (t : TypeId), [3, 4, 4, 3, 3, 3, 3][j]? = some t → ∃ u : Value, l0[j]? = some u ∧ Flat.Came enc Try.prog W 0 (fun _ => true) true t u)
    (c1 : Flat.Came enc Try.prog W 0 (fun _ => true) true 31 v1) :
    Calls Try.prog 6 #[.agg l0.toArray, v1] W fun e w' => e = .returned (.bool true) ∧ W.grownBy w' none := by
  obtain ⟨u0, u1, u2, u3, u4, u5, u6, rfl⟩ := list7 z0
  obtain ⟨_, e0, k0⟩ := c0 0 _ rfl
  obtain ⟨_, e1, k1⟩ := c0 1 _ rfl
  obtain ⟨_, e2, k2⟩ := c0 2 _ rfl
  obtain ⟨_, e3, k3⟩ := c0 3 _ rfl
  obtain ⟨_, e4, k4⟩ := c0 4 _ rfl
  obtain ⟨_, e5, k5⟩ := c0 5 _ rfl
  obtain ⟨_, e6, k6⟩ := c0 6 _ rfl
  simp only [List.getElem?_cons_zero, List.getElem?_cons_succ, Option.some.injEq] at e0 e1 e2 e3 e4 e5 e6
  subst e0 e1 e2 e3 e4 e5 e6
  obtain ⟨k, rfl, _⟩ := k0.int Try.underlying3
  obtain ⟨ro, rfl⟩ := k1.bool Try.underlying4
  obtain ⟨sub, rfl⟩ := k2.bool Try.underlying4
  obtain ⟨d, rfl, _⟩ := k3.int Try.underlying3
  obtain ⟨gp, rfl, _⟩ := k4.int Try.underlying3
  obtain ⟨off, rfl, hof⟩ := k5.int Try.underlying3
  obtain ⟨ln, rfl, _⟩ := k6.int Try.underlying3
  obtain ⟨pa, l, cap, rfl, hin, hl⟩ := came_bytes c1
  exact walk ⟨k, ro, sub, d, gp, off, ln⟩ (top_i64 hof) l pa cap W hl (BG.of_in hin)
theorem own : ownKnob Try.prog.godebug = none := by kernel_rfl
theorem laidOut : laidOutB Try.prog = true := by kernel_rfl

set_option maxRecDepth 100000 in
theorem lifted (os : Os) (started : os.Started) (H : Type) (enc : TypeId × Value → H) :
    ReturnsInHanded {} Try.checked os 6 .any (Rows.grantWordsSpec.pre6 enc Try.prog Try.f6 Rows.grantWordsRow.domain false) (Rows.grantWordsSpec.post enc Try.prog Try.f6 false true false false) := by
  refine returnsInHanded_of_change_sized (C := Try.checked) own started (by kernel_rfl) Try.func6
    (ChangeSpec.witness6 (enc := enc) (C := Try.checked) false ⟨#[], #[.agg #[.int .i64 0, .bool false, .bool false, .int .i64 0, .int .i64 0, .int .i64 0, .int .i64 0], .slice none 0 0], []⟩ 8 (by kernel_rfl) (by kernel_rfl) (by kernel_rfl) (by kernel_rfl)) ?_
  intro W base args ds gs before hval0 hW _ hsz0 _
  have hsz : (DataW.weightsEach Try.prog (Try.f6.params.toList ++ Rows.grantWordsSpec.plain.varTypes Try.prog) (ds ++ gs)).all (· ≤ reachBytes) = true := hsz0
  clear hsz0
  have hval : ∀ (j : Nat) t v, Try.f6.params[j]? = some t → args[j]? = some v → Value.okWide Try.prog W .any base t v := hval0
  have hW' := hW
  obtain ⟨p, q, hA0, hV, rfl, hfz, hnd⟩ := hW
  have hA : DataW.TrodAll enc Try.prog W 0 (fun _ => true) true Try.f6.params.toList args.toList ds p := hA0
  rw [Try.params6] at hA hval hsz
  obtain ⟨v0, vs0, d0, ds0, p0, q0, hargs, rfl, rfl, h0, r0⟩ := trodAll_cons hA
  obtain ⟨v1, vs1, d1, ds1, p1, q1, rfl, rfl, rfl, h1, r1⟩ := trodAll_cons r0
  obtain ⟨rfl, rfl, rfl⟩ := trodAll_nil r1
  obtain rfl : args = #[v0, v1] := by cases args; simp_all
  obtain ⟨rfl, rfl⟩ := trodVars_none hV
  have sz0 : ∀ n ∈ d0.weights Try.prog 73, n ≤ reachBytes := fun n hn => by
    have := List.all_eq_true.1 hsz n (DataW.weights_mem_each (j := 0) rfl rfl n hn)
    simpa using this
  obtain ⟨l0, rfl, z0, c0⟩ := Flat.open_agg grant_flat (hval 0 73 v0 rfl rfl) h0 sz0
  have k0 := h0
  have lt0 : ∀ x ∈ p0, x.block < W.heap.size := by obtain ⟨m, hm⟩ := k0; exact DataW.trod_lt m _ _ _ hm
  obtain ⟨ps1, ln1, cp1, rfl⟩ := okWide_slice Try.underlying31 (hval 1 31 v1 rfl rfl)
  have k1 := h1
  have lt1 : ∀ x ∈ p1, x.block < W.heap.size := by obtain ⟨m, hm⟩ := k1; exact DataW.trod_lt m _ _ _ hm
  have c1 : Flat.Came enc Try.prog W 0 (fun _ => true) true 31 (.slice ps1 ln1 cp1) := by
    obtain ⟨fuel, hf⟩ := h1
    exact ⟨fuel, _, hf, fun n hn => by
      have := List.all_eq_true.1 hsz n (DataW.weights_mem_each (j := 1) rfl rfl n hn)
      simpa using this⟩
  clear hA0 hval0
  refine (main l0 (.slice ps1 ln1 cp1) W z0 c0 c1).mono fun e W' ⟨he, hg⟩ => ?_
  subst he
  have bel := below_grown' hg
  simp only [List.append_nil, List.nil_append] at hW'
  exact ⟨_, rfl, _, _, _, [], _, [], hW', trodAll_mk1 (shut_bool Try.underlying4 _), (trodAll_cons_mk (Below.trod laidOut (by kernel_rfl) (of_decide_eq_true (by kernel_rfl)) k0 bel lt0) (trodAll_cons_mk (Below.trod laidOut (by kernel_rfl) (of_decide_eq_true (by kernel_rfl)) k1 bel lt1) trodAll_mk0)), rfl, bel.frame _, fun h => by cases h⟩

theorem proved : Rows.GrantWordsSaid :=
  OpenClaim.holds_of_wide 6 Try.f6 rfl rfl rfl rfl rfl rfl rfl ⟨rfl, rfl, rfl, rfl, rfl⟩ rfl rfl rfl rfl rfl (by kernel_rfl) Try.func6 (by kernel_rfl)
    (of_decide_eq_true (by kernel_rfl)) (by unfold Func.isWrapper; first | (rw [if_pos (by decide +kernel)]; kernel_rfl) | (rw [if_neg (by decide +kernel)]; exact ⟨rfl, rfl⟩))
    (fun os started H enc _ => lifted os started H enc)
#print axioms proved
end Go.Proofs.Ytebgjanecooehaa.lawGrWords

