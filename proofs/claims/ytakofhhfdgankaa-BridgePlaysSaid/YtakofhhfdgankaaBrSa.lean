/-
  Package bridge: law14.same: both tell the same of all ports.
-/
import Derived.Test.YtakofhhfdgankaaBrPm
import Derived.Laws.StructEq
set_option linter.unusedSimpArgs false
set_option linter.unusedVariables false
namespace Go.Proofs.Ytakofhhfdgankaa.Br
open Go.RowKit Gen Bk
set_option maxHeartbeats 4000000
set_option maxRecDepth 100000

theorem neq_ct (w : World) (a b c d e f q h i : Nat) : (binOp .neq 39 (.agg (ctC a b c d e f q h i)) (.agg (ctC a b c d e f q h i))).run Try.prog w = .ok (.bool false) w := by
  simp [ctC, go_sem]
theorem eqg_ct : Try.prog.eqGuardType Try.prog.depth 39 = false := by kernel_rfl
theorem wpList_neq_ct {ops : Array Oper} {rest : List Oper} {o : Oper} {ac : Act} {w : World} {Q : Exit → Act → World → Prop} (hgd : o.guard = none) (x y : Operand) (ho : o.op = .binOp .neq 39 x y 39)
    (a b c d e f q h i : Nat) (hx : ac.eval x = .agg (ctC a b c d e f q h i)) (hy : ac.eval y = .agg (ctC a b c d e f q h i)) (k : wpList Try.prog ops Q rest (ac.put o.dst (.bool false)) w) : wpList Try.prog ops Q (o :: rest) ac w :=
  wpList_exec hgd (by
    have h1 := neq_ct w a b c d e f q h i
    have h2 := run_eqGuard_agg (P := Try.prog) w .neq 39 x y (ctC a b c d e f q h i) (ctC a b c d e f q h i) eqg_ct
    clear k
    unfold execOp
    simp [ho, hx, hy, h1, h2]) k
theorem countsE_ct (S : Sw) (x : Int) : ∃ a b c d e f q h i, (S.countsE x).1 = ctC a b c d e f q h i := by
  unfold Sw.countsE
  split
  · exact ⟨_, _, _, _, _, _, _, _, _, rfl⟩
  · exact ⟨_, _, _, _, _, _, _, _, _, rfl⟩
section
variable {w0 w w' w1 : World} {lab lab' lab1 : Nat → Nat} {b y : Nat} {S S' S1 : Sw} {T T' : Nat} {X : Nat} {o : OpV}
theorem BX.top (h : BX w0 lab w b y S S' T) : ∃ r, w.cell? ⟨y, 0, none⟩ = some (.slice (some ⟨r, 0, none⟩) S'.n S'.n) ∧ ∀ k, k < S'.n → w.cell? ⟨r, k * 13, none⟩ = some (.int .i64 (S'.P k).credit) := by
  obtain ⟨r, a, ca, lq, hr⟩ := h.rs
  exact ⟨r, hr.c0, fun k hk => (hr.self k).at_credit hk⟩
theorem lSame (h : BX w0 lab w b y S S T) :
    Calls Try.prog 12 #[.pointer (some ⟨b, 0, none⟩), .pointer (some ⟨y, 0, none⟩)] w fun e w' => e = .returned (.bool true) ∧ w.grownBy w' none := by
  have H := hid h
  have hn8 := h.ok.n8
  obtain ⟨r, c0, -⟩ := h.top
  clear h
  go_enter Try.func12, Try.ntmps12
  go_wp2_with fail
  go_loopw [5] (fun i wr => ∃ k : Nat, i = .int .i64 ((k : Int) - 1) ∧ k ≤ S.n + 2 ∧ w.grownBy wr none) (fun i _ => ((S.n : Int) + 1 - intOf i).toNat)
  case atStart => exact ⟨0, rfl, by omega, grownBy_refl _ _⟩
  case round =>
    obtain ⟨k, rfl, hk, hg⟩ := hrel
    have HG := hid hg
    have hB := H.out.more hg
    have HB := hid hB
    obtain ⟨r, d0, -⟩ := hB.top
    obtain ⟨x, hx⟩ : ∃ x : Int, (k : Int) - 1 = x := ⟨_, rfl⟩
    have HX := hid hx
    have hx0 : -1 ≤ x := by omega
    have hx1 : x ≤ 9 := by omega
    rw [hx]
    clear hg hB c0
    by_cases hlt : k < S.n + 2
    · have hlt' : x ≤ S.n := by omega
      obtain ⟨ta, tb, tc, td, te, tf, tq, th, ti, hct⟩ := countsE_ct S x
      obtain ⟨ce, hce⟩ : ∃ c, (S.countsE x).2 = c := ⟨_, rfl⟩
      have HP := hid (pCounts HB.out x)
      have HQ := hid (fun (W : World) (hW : wr.grownBy W none) => qCounts (HB.out.more hW) x)
      have HI := hid (fun (W : World) (hW : wr.grownBy W none) => qIs (HB.out.more hW) x)
      have HCr := hid (fun (W : World) (hW : wr.grownBy W none) => pCredit (HB.out.more hW) x)
      rw [hct, hce] at HP HQ
      clear hct hce hx hk hlt
      cases hs : S.is x with
      | false =>
        have ec : S.creditE x = 0 := by unfold Sw.creditE; rw [hs]; rfl
        rw [hs] at HI
        rw [ec] at HCr
        clear hs ec
        go_wp2_with (first
          | (go_at_call 14; (with_reducible refine HP.out.mono ?_); rintro e w4 ⟨rfl, g4⟩; have G4 := hid g4; clear g4)
          | (go_at_call 33; (with_reducible refine (HQ.out _ G6.out).mono ?_); rintro e w7 ⟨rfl, g7⟩; have G67 := hid g7; have G7 := hid (G6.out.trans g7); clear g7)
          | (go_at_call 34; (with_reducible refine (HI.out _ G9.out).mono ?_); rintro e w10 ⟨rfl, rfl⟩; obtain ⟨r9, e9, -⟩ := (HB.out.more G9.out).top)
          | (go_at_call 15; (with_reducible refine (HCr.out _ G9.out).mono ?_); rintro e w10 ⟨rfl, rfl⟩)
          | (refine wpList_alloc_ct (w := w7) rfl rfl ?_; intro w8 hs8 hb8 hg8; have B8 := hid hb8; have G78 := hid hg8; have G8 := hid (G7.out.trans hg8); clear hs8 hb8 hg8)
          | (refine wpList_store_ct (w := w8) rfl (.tmp 8) (.tmp 30) rfl _ (ctC _ _ _ _ _ _ _ _ _) rfl (ctC_one _ _ _ _ _ _ _ _ _) rfl rfl _ B8.out ?_; intro w9 hs9 hb9 hg9; have B9 := hid hb9; have G9 := hid (G8.out.andThen hg9 fun j hj => by cases hj; exact .inl G7.out.size); have K9 := hid (((K6.out.grown G67.out (by simp)).grown G78.out (by simp)).grown hg9 (fun e => by have h1 := K6lt.out; have h2 := G67.out.size; simp only [Option.some.injEq] at e; omega)); clear hs9 hb9 hg9)
          | (refine wpList_load_ct (w := w9) rfl (.tmp 6) rfl _ _ rfl K9.out ?_)
          | (refine wpList_load_ct (w := w9) rfl (.tmp 8) rfl _ _ rfl B9.out ?_)
          | (refine wpList_neq_ct (w := w9) rfl (.tmp 32) (.tmp 33) rfl _ _ _ _ _ _ _ _ _ rfl rfl ?_)
          | (refine wpList_alloc_ct (w := w4) rfl rfl ?_; intro w5 hs5 hb5 hg5; have B5 := hid hb5; have G5 := hid (G4.out.trans hg5); clear hs5 hb5 hg5)
          | (refine wpList_store_ct (w := w5) rfl (.tmp 6) (.tmp 24) rfl _ (ctC _ _ _ _ _ _ _ _ _) rfl (ctC_one _ _ _ _ _ _ _ _ _) rfl rfl _ B5.out ?_; intro w6 hs6 hb6 hg6; have K6 := hid hb6; have K6lt := hid (Array.getElem?_eq_some_iff.1 hb6.1).1; have G6 := hid (G5.out.andThen hg6 fun j hj => by cases hj; exact .inl G4.out.size); clear hs6 hb6 hg6))
        go_roundw
        case rel => exact ⟨k + 1, by have := HX.out; push_cast; congr 1; omega, by have := HX.out; omega, HG.out.trans G9.out⟩
        case measure => simp only [intOf]; omega
      | true =>
        obtain ⟨j, rfl, hj⟩ := Sw.is_yes hs
        have ec : S.creditE j = (S.P j).credit := S.creditE_at hj
        rw [hs] at HI
        rw [ec] at HCr
        have HTp := hid (fun (W : World) (hW : wr.grownBy W none) => (HB.out.more hW).top)
        obtain ⟨cr, hcr⟩ : ∃ c, (S.P j).credit = c := ⟨_, rfl⟩
        rw [hcr] at HCr
        have hJ := hid (And.intro hj hcr)
        have hj' : (j : Int) < S.n := by omega
        clear hs ec hj hcr
        go_wp2_with (first
          | (go_at_call 14; (with_reducible refine HP.out.mono ?_); rintro e w4 ⟨rfl, g4⟩; have G4 := hid g4; clear g4)
          | (go_at_call 33; (with_reducible refine (HQ.out _ G6.out).mono ?_); rintro e w7 ⟨rfl, g7⟩; have G67 := hid g7; have G7 := hid (G6.out.trans g7); clear g7)
          | (go_at_call 34; (with_reducible refine (HI.out _ G9.out).mono ?_); rintro e w10 ⟨rfl, rfl⟩; obtain ⟨r9, e9, f9⟩ := HTp.out _ G9.out; have f9' := f9 _ hJ.out.1; rw [hJ.out.2] at f9'; clear f9)
          | (go_at_call 15; (with_reducible refine (HCr.out _ G9.out).mono ?_); rintro e w10 ⟨rfl, rfl⟩)
          | (refine wpList_alloc_ct (w := w7) rfl rfl ?_; intro w8 hs8 hb8 hg8; have B8 := hid hb8; have G78 := hid hg8; have G8 := hid (G7.out.trans hg8); clear hs8 hb8 hg8)
          | (refine wpList_store_ct (w := w8) rfl (.tmp 8) (.tmp 30) rfl _ (ctC _ _ _ _ _ _ _ _ _) rfl (ctC_one _ _ _ _ _ _ _ _ _) rfl rfl _ B8.out ?_; intro w9 hs9 hb9 hg9; have B9 := hid hb9; have G9 := hid (G8.out.andThen hg9 fun j hj => by cases hj; exact .inl G7.out.size); have K9 := hid (((K6.out.grown G67.out (by simp)).grown G78.out (by simp)).grown hg9 (fun e => by have h1 := K6lt.out; have h2 := G67.out.size; simp only [Option.some.injEq] at e; omega)); clear hs9 hb9 hg9)
          | (refine wpList_load_ct (w := w9) rfl (.tmp 6) rfl _ _ rfl K9.out ?_)
          | (refine wpList_load_ct (w := w9) rfl (.tmp 8) rfl _ _ rfl B9.out ?_)
          | (refine wpList_neq_ct (w := w9) rfl (.tmp 32) (.tmp 33) rfl _ _ _ _ _ _ _ _ _ rfl rfl ?_)
          | (refine wpList_alloc_ct (w := w4) rfl rfl ?_; intro w5 hs5 hb5 hg5; have B5 := hid hb5; have G5 := hid (G4.out.trans hg5); clear hs5 hb5 hg5)
          | (refine wpList_store_ct (w := w5) rfl (.tmp 6) (.tmp 24) rfl _ (ctC _ _ _ _ _ _ _ _ _) rfl (ctC_one _ _ _ _ _ _ _ _ _) rfl rfl _ B5.out ?_; intro w6 hs6 hb6 hg6; have K6 := hid hb6; have K6lt := hid (Array.getElem?_eq_some_iff.1 hb6.1).1; have G6 := hid (G5.out.andThen hg6 fun j hj => by cases hj; exact .inl G4.out.size); clear hs6 hb6 hg6))
        go_roundw
        case rel => exact ⟨k + 1, by have := HX.out; push_cast; congr 1; omega, by have := HX.out; omega, HG.out.trans G9.out⟩
        case measure => simp only [intOf]; omega
    · have hlt' : ¬ x ≤ S.n := by omega
      go_wp2_with fail
      have HBd := hid (HB.out.more (grownBy_drew wr none))
      go_region_held3 (fun W => W.cell? ⟨y, 0, none⟩ = some (.slice (some ⟨r, 0, none⟩) S.n S.n)) (first | assumption | go_keep)
        (first | (go_at_call 26; (with_reducible refine (pPorts HBd.out).mono ?_); rintro e w4 ⟨rfl, rfl⟩))
      all_goals go_wp2_with fail
      all_goals
        go_ret
        exact ⟨by simp, HG.out.trans (grownBy_drew wr none)⟩
end
end Go.Proofs.Ytakofhhfdgankaa.Br
