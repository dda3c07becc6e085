/-
  Contracts of package phys: Alloc; a machine that nobody made.
-/
import Derived.Test.YtbbaplcfhofeeaaK06
set_option linter.unusedSimpArgs false
set_option linter.unusedVariables false
namespace Go.Proofs.Ytbbaplcfhofeeaa
open Go.RowKit Go.Shelf
attribute [local go_sem] Oper.semAt_some
set_option maxHeartbeats 1000000

theorem pm_own {β : Type} (b : Nat) (M : β → Mach) : Own (fun (s : β) W => PM W b (M s)) := fun s X Y row hs hg hrow =>
  hs.grown hg (fun e' => by obtain ⟨o, ho, hc⟩ := hrow b e'.symm; rw [show X.heap[b]? = _ from hs] at ho; cases ho; cases hc)
theorem own_and {β : Type} {I I' : β → World → Prop} (h : Own I) (h' : Own I') : Own (fun s W => I s W ∧ I' s W) := fun s W W' row hs hg hr => ⟨h s W W' row hs.1 hg hr, h' s W W' row hs.2 hg hr⟩
theorem box_own {β : Type} (B : Nat) (t : TypeId) (v : Value) : Own (fun (_ : β) W => Boxed W B t v) := boxed_own B t (fun _ => v)

/-- what a call that answers a number and an error leaves -/
def Left2 (b : Nat) (w : World) (k r : Int) (M' : Mach) (e : Ending) (w' : World) : Prop := e = .returned (.tuple #[.int .i64 k, .int .i64 r]) ∧ PM w' b M' ∧ w.grownBy w' (some b)

theorem grown4 (w : World) (a b c d : Obj) : w.grownBy ((((w.alloc a).alloc b).alloc c).alloc d) none := (((World.grownBy_alloc w a none).trans (World.grownBy_alloc _ b none)).trans (World.grownBy_alloc _ c none)).trans (World.grownBy_alloc _ d none)
theorem Alloc_nil (o : Int) (w : World) : Calls Try.prog 11 #[.pointer none, .int .i64 o] w fun e w' => e = .returned (.tuple #[.int .i64 0, .int .i64 7]) ∧ w.grownBy w' none := by
  go_enter Try.func11, Try.ntmps11
  go_wp2_with (go_at_call 22; refine (made_nil _).mono ?_; rintro e w' ⟨rfl, rfl⟩)
  refine bodyPost_ret (v := .tuple #[.int .i64 0, .int .i64 7]) (by simp [results, Try.results11, go_sem]) rfl ⟨rfl, ?_⟩
  exact grown4 w _ _ _ _
theorem Alloc_zero (b : Nat) (o : Int) (w : World) (h : w.cell? ⟨b, 0, none⟩ = some (.int .i64 0)) : Calls Try.prog 11 #[.pointer (some ⟨b, 0, none⟩), .int .i64 o] w fun e w' => e = .returned (.tuple #[.int .i64 0, .int .i64 7]) ∧ w.grownBy w' none := by
  have hbl : b < w.heap.size := World.block_lt_of_cell? w _ h
  go_enter Try.func11, Try.ntmps11
  go_wp2_with (go_at_call 22; refine (made_zero _ _ ((grown4 w _ _ _ _).cell h (by simp))).mono ?_; rintro e w' ⟨rfl, rfl⟩)
  refine bodyPost_ret (v := .tuple #[.int .i64 0, .int .i64 7]) (by simp [results, Try.results11, go_sem]) rfl ⟨rfl, ?_⟩
  exact grown4 w _ _ _ _
theorem Alloc_bad (b : Nat) (o : Int) (w : World) (M : Mach) (hM : PM w b M) (hn : 1 ≤ M.n) (ho : o ≠ -2) (hd : o < 0 ∨ 8 ≤ o) : Calls Try.prog 11 #[.pointer (some ⟨b, 0, none⟩), .int .i64 o] w fun e w' => e = .returned (.tuple #[.int .i64 0, .int .i64 1]) ∧ w.grownBy w' none := by
  have hob : (o != -2) = true := by rw [bne_iff_ne]; exact ho
  have hsz := hM.size
  have HD := hid hd
  clear hd ho
  go_enter Try.func11, Try.ntmps11
  go_wp2_with (first | (go_at_call 22; refine (made_yes _ _ _ hn ((grown4 w _ _ _ _).cell hsz (by simp))).mono ?_; rintro e w' ⟨rfl, rfl⟩) | (go_at_call 23; refine (isDomain_no _ _ HD.out).mono ?_; rintro e w' ⟨rfl, rfl⟩))
  refine bodyPost_ret (v := .tuple #[.int .i64 0, .int .i64 1]) (by simp [results, Try.results11, go_sem]) rfl ⟨rfl, ?_⟩
  exact grown4 w _ _ _ _

theorem boxes6 (w : World) {W0 : World} (v0 v1 v2 v3 v4 v5 : Value) {t0 t1 t2 t3 t4 t5 : TypeId} (h : (((((w.alloc (.cells #[v0] t0)).alloc (.cells #[v1] t1)).alloc (.cells #[v2] t2)).alloc (.cells #[v3] t3)).alloc (.cells #[v4] t4)).alloc (.cells #[v5] t5) = W0) :
    W0.heap.size = w.heap.size + 6 ∧ Boxed W0 w.heap.size t0 v0 ∧ Boxed W0 (w.heap.size + 1) t1 v1 ∧ Boxed W0 (w.heap.size + 1 + 1) t2 v2 ∧ Boxed W0 (w.heap.size + 1 + 1 + 1) t3 v3 ∧ Boxed W0 (w.heap.size + 1 + 1 + 1 + 1) t4 v4 ∧ Boxed W0 (w.heap.size + 1 + 1 + 1 + 1 + 1) t5 v5 ∧ w.grownBy W0 none := by
  subst h
  obtain ⟨w1, h1⟩ : ∃ w1, w.alloc (.cells #[v0] t0) = w1 := ⟨_, rfl⟩
  have s1 : w1.heap.size = w.heap.size + 1 := by rw [← h1]; simp
  have c0 : Boxed w1 w.heap.size t0 v0 := by rw [← h1]; exact Boxed.new w _ _
  have g1 : w.grownBy w1 none := by rw [← h1]; exact World.grownBy_alloc _ _ _
  rw [h1]
  obtain ⟨w2, h2⟩ : ∃ w2, w1.alloc (.cells #[v1] t1) = w2 := ⟨_, rfl⟩
  have s2 : w2.heap.size = w.heap.size + 1 + 1 := by rw [← h2]; simp [s1]
  have c1 : Boxed w2 (w.heap.size + 1) t1 v1 := by rw [← h2, ← s1]; exact Boxed.new w1 _ _
  have g2 : w1.grownBy w2 none := by rw [← h2]; exact World.grownBy_alloc _ _ _
  rw [h2]
  obtain ⟨w3, h3⟩ : ∃ w3, w2.alloc (.cells #[v2] t2) = w3 := ⟨_, rfl⟩
  have s3 : w3.heap.size = w.heap.size + 1 + 1 + 1 := by rw [← h3]; simp [s2]
  have c2 : Boxed w3 (w.heap.size + 1 + 1) t2 v2 := by rw [← h3, ← s2]; exact Boxed.new w2 _ _
  have g3 : w2.grownBy w3 none := by rw [← h3]; exact World.grownBy_alloc _ _ _
  rw [h3]
  obtain ⟨w4, h4⟩ : ∃ w4, w3.alloc (.cells #[v3] t3) = w4 := ⟨_, rfl⟩
  have s4 : w4.heap.size = w.heap.size + 1 + 1 + 1 + 1 := by rw [← h4]; simp [s3]
  have c3 : Boxed w4 (w.heap.size + 1 + 1 + 1) t3 v3 := by rw [← h4, ← s3]; exact Boxed.new w3 _ _
  have g4 : w3.grownBy w4 none := by rw [← h4]; exact World.grownBy_alloc _ _ _
  rw [h4]
  obtain ⟨w5, h5⟩ : ∃ w5, w4.alloc (.cells #[v4] t4) = w5 := ⟨_, rfl⟩
  have s5 : w5.heap.size = w.heap.size + 1 + 1 + 1 + 1 + 1 := by rw [← h5]; simp [s4]
  have c4 : Boxed w5 (w.heap.size + 1 + 1 + 1 + 1) t4 v4 := by rw [← h5, ← s4]; exact Boxed.new w4 _ _
  have g5 : w4.grownBy w5 none := by rw [← h5]; exact World.grownBy_alloc _ _ _
  rw [h5]
  have c5 : Boxed (w5.alloc (.cells #[v5] t5)) (w.heap.size + 1 + 1 + 1 + 1 + 1) t5 v5 := by rw [← s5]; exact Boxed.new w5 _ _
  have g6 : w5.grownBy (w5.alloc (.cells #[v5] t5)) none := World.grownBy_alloc _ _ _
  have k5 := g6; have k4 := g5.trans k5; have k3 := g4.trans k4; have k2 := g3.trans k3; have k1 := g2.trans k2
  exact ⟨by simp [s5], c0.kept k1 (by simp), c1.kept k2 (by simp), c2.kept k3 (by simp), c3.kept k4 (by simp), c4.kept k5 (by simp), c5, g1.trans k1⟩
/-- between two rounds of Alloc: none has come -/
def AllocI (w : World) (b : Nat) (o : Int) (M : Mach) (pre : List (OwnFr M (-1))) (W : World) : Prop :=
  pre = [] ∧ (Boxed W w.heap.size 27 (.pointer (some ⟨b, 0, none⟩)) ∧ Boxed W (w.heap.size + 1) 3 (.int .i64 o) ∧ Boxed W (w.heap.size + 1 + 1) 3 (.int .i64 0) ∧ Boxed W (w.heap.size + 1 + 1 + 1) 24 (.int .i64 0) ∧ PM W b M) ∧ w.grownBy W none
/-- the round has left -/
def AllocX (w : World) (b : Nat) (o : Int) (M : Mach) (c : Code) (pre : List (OwnFr M (-1))) (W : World) : Prop :=
  c = .ret ∧ ∃ k : Nat, ownVals pre = [k] ∧ Boxed W (w.heap.size + 1 + 1) 3 (.int .i64 k) ∧ Boxed W (w.heap.size + 1 + 1 + 1) 24 (.int .i64 0) ∧ PM W b (M.upd k { M.fr k with owner := o }) ∧ w.grownBy W (some b)
theorem box_kept {X Y : World} {row : Option Nat} {B : Nat} {t : TypeId} {v : Value} (hs : Boxed X B t v) (hg : X.grownBy Y row) (hrow : ∀ r, row = some r → ∃ o : Obj, X.heap[r]? = some o ∧ o.isCells = false) : Boxed Y B t v :=
  hs.kept hg (fun e' => by obtain ⟨o, ho, hc⟩ := hrow B e'.symm; rw [show X.heap[B]? = _ from hs] at ho; cases ho; cases hc)
theorem pm_kept {X Y : World} {row : Option Nat} {b : Nat} {M : Mach} (hs : PM X b M) (hg : X.grownBy Y row) (hrow : ∀ r, row = some r → ∃ o : Obj, X.heap[r]? = some o ∧ o.isCells = false) : PM Y b M :=
  hs.grown hg (fun e' => by obtain ⟨o, ho, hc⟩ := hrow b e'.symm; rw [show X.heap[b]? = _ from hs] at ho; cases ho; cases hc)
theorem allocI_own (w : World) (b : Nat) (o : Int) (M : Mach) (B : Nat) (hB : w.heap.size ≤ B) : OwnFrom B (AllocI w b o M) := by
  rintro pre X Y row ⟨h0, ⟨x0, x1, x2, x3, xM⟩, hg⟩ hg' hr
  have hr' := fun r e => (hr r e).2
  exact ⟨h0, ⟨box_kept x0 hg' hr', box_kept x1 hg' hr', box_kept x2 hg' hr', box_kept x3 hg' hr', pm_kept xM hg' hr'⟩, hg.andThen hg' (fun j e => .inl (by have := (hr j e).1; omega))⟩
theorem allocX_own (w : World) (b : Nat) (o : Int) (M : Mach) (c : Code) (B : Nat) (hB : w.heap.size ≤ B) : OwnFrom B (AllocX w b o M c) := by
  rintro pre X Y row ⟨h0, k, hk, x2, x3, xM, hg⟩ hg' hr
  have hr' := fun r e => (hr r e).2
  exact ⟨h0, k, hk, box_kept x2 hg' hr', box_kept x3 hg' hr', pm_kept xM hg' hr', hg.andThen hg' (fun j e => .inl (by have := (hr j e).1; omega))⟩
theorem allocX_end {w W : World} {b : Nat} {o : Int} {M : Mach} (x : OwnFr M (-1)) (hx : x.1 < 256) (hbl : b < w.heap.size) (h : AllocI w b o M [] W) :
    KeepsOthers W ((((W.setCell ⟨b, 1 + x.1 * 260, none⟩ (.int .i64 o)).setCell ⟨w.heap.size + 1 + 1, 0, none⟩ (.int .i64 x.1)).setCell ⟨w.heap.size + 1 + 1 + 1, 0, none⟩ (.int .i64 0)).drew) ∧
    AllocX w b o M .ret [x] ((((W.setCell ⟨b, 1 + x.1 * 260, none⟩ (.int .i64 o)).setCell ⟨w.heap.size + 1 + 1, 0, none⟩ (.int .i64 x.1)).setCell ⟨w.heap.size + 1 + 1 + 1, 0, none⟩ (.int .i64 0)).drew) := by
  obtain ⟨-, ⟨x0, x1, x2, x3, xM⟩, hg⟩ := h
  have y0 := xM.setOwner hx o
  have y1 := (y0.setOther ⟨w.heap.size + 1 + 1, 0, none⟩ (by simp; omega) (.int .i64 x.1)).setOther ⟨w.heap.size + 1 + 1 + 1, 0, none⟩ (by simp; omega) (.int .i64 0)
  have g1 := grownBy_setCell W b (1 + x.1 * 260) none (.int .i64 o)
  have z2 := ((x2.kept g1 (by simp; omega)).set (.int .i64 x.1)).kept (grownBy_setCell _ (w.heap.size + 1 + 1 + 1) 0 none (.int .i64 0)) (by simp)
  have z3 := ((x3.kept g1 (by simp; omega)).kept (grownBy_setCell _ (w.heap.size + 1 + 1) 0 none (.int .i64 x.1)) (by simp)).set (.int .i64 0)
  refine ⟨(((KeepsOthers.setCell _ _ _).trans (KeepsOthers.setCell _ _ _)).trans (KeepsOthers.setCell _ _ _)).trans (KeepsOthers.drew _), rfl, x.1, rfl, z2, z3, y1, ?_⟩
  refine ((((hg.but (some b)).andThen g1 (fun j e => by cases e; exact .inr rfl)).andThen (grownBy_setCell _ _ _ _ _) (fun j e => by cases e; exact .inl (by omega))).andThen (grownBy_setCell _ _ _ _ _) (fun j e => by cases e; exact .inl (by omega))).andThen (grownBy_drew _ none) (fun j e => by cases e)
set_option maxRecDepth 100000 in
theorem Alloc_hyper (b : Nat) (o : Int) (w : World) (M : Mach) (T : Int) (hM : PM w b M) (hok : M.ok T) (ho : o = -2) :
    Calls Try.prog 11 #[.pointer (some ⟨b, 0, none⟩), .int .i64 o] w (Left2 b w (M.alloc o).1 (M.alloc o).2.1 (M.alloc o).2.2) := by
  have hn1 := hok.n1; have hn2 := hok.n2
  have hsz := hM.size
  have hst := hM.stops hn1 hn2
  have hbl := hM.lt
  have HM := hid hM
  have HNA : Hid (¬ (o ≠ -2 ∧ (o < 0 ∨ 8 ≤ o))) := hid (by omega)
  refine (callsIn_wide (n := 9)).1 ?_
  refine callsIn_of_wp_marks Try.func11 rfl trivial ?_ rfl
  simp only [Try.ntmps11, List.size_toArray, List.length_cons, List.length_nil, Nat.reduceAdd, Nat.reduceSub, Array.replicate_succ, Array.replicate_zero, List.push_toArray, List.append_toArray, List.nil_append, List.cons_append]
  have HST := hid hst
  clear hM hst hok
  have hob : (o != -2) = false := by simp [ho]
  clear ho
  gi_wp2_with (first | (refine ⟨trivial, ?_⟩; gi_at_call 22; refine (callsIn_wide.2 (made_yes _ _ _ hn1 ((grown4 w _ _ _ _).cell hsz (by simp)))).mono ?_; rintro e w' ⟨rfl, rfl⟩) | (refine ⟨trivial, ?_⟩; gi_at_call 16; refine (callsIn_wide.2 (owned_any _ _ _)).mono ?_; rintro e w' ⟨rfl, rfl⟩))
  refine ⟨trivial, ?_⟩
  gi_wp2_with (first | (refine ⟨trivial, ?_⟩; gi_at_call 16; refine (callsIn_wide.2 (owned_any _ _ _)).mono ?_; rintro e w' ⟨rfl, rfl⟩))
  clear hob
  obtain ⟨W0, hW0⟩ : ∃ W0, ((((((w.alloc (.cells #[.pointer (some ⟨b, 0, none⟩)] 27)).alloc (.cells #[.int .i64 o] 3)).alloc (.cells #[.int .i64 0] 3)).alloc (.cells #[.int .i64 0] 24)).alloc (.cells #[.pointer (some ⟨b, 0, none⟩)] 27)).alloc (.cells #[.int .i64 (-1)] 3)) = W0 := ⟨_, rfl⟩
  obtain ⟨hs0, b0, b1, b2, b3, b4, b5, hg0⟩ := boxes6 w _ _ _ _ _ _ hW0
  rw [hW0]
  obtain ⟨bb, hb, hseq⟩ := HST.out 8 (w.heap.size + 1 + 1 + 1 + 1) (w.heap.size + 1 + 1 + 1 + 1 + 1) (-1) W0 (by omega) (by omega) hg0 b4 b5
  have hbs : bb < W0.heap.size := by omega
  refine wpIn_rangeFunc_ownF rfl (by omega) (gf := 25) (lb := #[.pointer (some ⟨w.heap.size + 1 + 1 + 1 + 1, 0, none⟩), .pointer (some ⟨w.heap.size + 1 + 1 + 1 + 1 + 1, 0, none⟩)]) rfl trivial (enters_of Try.func25 (by kernel_rfl) rfl)
    hseq Kp3.trans (Kp3.put hbs (by omega) (by omega)) (Below.refl _ _) (fun _ => rfl)
    (AllocI w b o M) (AllocX w b o M) (allocI_own w b o M _ (by omega)) (fun c => allocX_own w b o M c _ (by omega))
    ⟨rfl, ⟨b0, b1, b2, b3, HM.out.grown hg0 (by simp)⟩, hg0⟩
    ?a1 ?assign ?body ?done ?stop
  case assign =>
    intro l x W K hK
    gi_wp2
    exact hK
  case body =>
    rintro l pre x W hI _
    obtain rfl : pre = [] := hI.1
    have hmx : Try.prog.follows .mixedOrders = true := by kernel_rfl
    have hx256 : (x.1 : Int) < 256 := by have := x.2.1; omega
    have HI := hid hI
    obtain ⟨-, ⟨x0, x1, x2, x3, xM⟩, hg⟩ := hI
    have d0 := x0.cell; have d1 := x1.cell; have d2 := x2.cell; have d3 := x3.cell; have f2 := x2.frozen; have f3 := x3.frozen
    have dM := xM.owner (i := x.1) (by omega); have fM := xM.frozen (1 + x.1 * 260)
    clear x0 x1 x2 x3 xM hg
    gi_wp2
    gi_region_with_o (fail)
    all_goals gi_wp2
    all_goals exact allocX_end x (by omega) hbl HI.out
  case done =>
    rintro D xs W hD hxs hI hK
    obtain rfl : xs = [] := hI.1
    obtain ⟨-, ⟨x0, x1, x2, x3, xM⟩, hg⟩ := hI
    have d2 := x2.cell; have d3 := x3.cell; have f2 := x2.frozen; have f3 := x3.frozen
    have X2 := hid x2; have X3 := hid x3; have XM := hid xM; have HG := hid hg
    clear x0 x1 x2 x3 xM hg
    gi_wp2
    have hK' := ((KeepsOthers.setCell W ⟨w.heap.size + 1 + 1, 0, none⟩ (.int .i64 0)).trans (KeepsOthers.setCell _ ⟨w.heap.size + 1 + 1 + 1, 0, none⟩ (.int .i64 10))).same D _ hK rfl
    refine ⟨by simp, .inl ⟨_, _, rfl, run_takeDeferred hK', ?_⟩⟩
    have g5 := grownBy_putObj' ((W.setCell ⟨w.heap.size + 1 + 1, 0, none⟩ (.int .i64 0)).setCell ⟨w.heap.size + 1 + 1 + 1, 0, none⟩ (.int .i64 10)) D (.deferred none)
    have r5 : ∀ r, some D = some r → ∃ o : Obj, ((W.setCell ⟨w.heap.size + 1 + 1, 0, none⟩ (.int .i64 0)).setCell ⟨w.heap.size + 1 + 1 + 1, 0, none⟩ (.int .i64 10)).heap[r]? = some o ∧ o.isCells = false := fun r e => by cases e; exact ⟨_, hK', rfl⟩
    have z2 := box_kept ((X2.out.set (.int .i64 0)).kept (grownBy_setCell _ (w.heap.size + 1 + 1 + 1) 0 none (.int .i64 10)) (by simp)) g5 r5
    have z3 := box_kept ((X3.out.kept (grownBy_setCell _ (w.heap.size + 1 + 1) 0 none (.int .i64 0)) (by simp)).set (.int .i64 10)) g5 r5
    have zM := pm_kept ((XM.out.setOther ⟨w.heap.size + 1 + 1, 0, none⟩ (by simp; omega) (.int .i64 0)).setOther ⟨w.heap.size + 1 + 1 + 1, 0, none⟩ (by simp; omega) (.int .i64 10)) g5 r5
    have c2 := z2.cell; have c3 := z3.cell
    have hal : M.alloc o = (0, 10, M) := by
      have hl : M.ownedL (-1) = [] := by rw [← hxs]; rfl
      unfold Mach.alloc
      rw [if_neg HNA.out, hl]
    refine ⟨.tuple #[.int .i64 0, .int .i64 10], ?_, ?_⟩
    · simp [results, Try.f11, go_sem, c2, c3]
    · rw [hal]
      exact ⟨rfl, zM, (((HG.out.but (some b)).andThen (grownBy_setCell _ _ _ _ _) (fun j e => by cases e; exact .inl (by omega))).andThen (grownBy_setCell _ _ _ _ _) (fun j e => by cases e; exact .inl (by omega))).andThen g5 (fun j e => by cases e; exact .inl (by omega))⟩
  case stop =>
    rintro D c pre W hD hpre hX hK
    obtain ⟨rfl, k, hk, x2, x3, xM, hg⟩ := hX
    gi_wp2
    refine ⟨by simp, .inl ⟨_, _, rfl, run_takeDeferred hK, ?_⟩⟩
    have g5 := grownBy_putObj' W D (.deferred none)
    have r5 : ∀ r, some D = some r → ∃ o : Obj, W.heap[r]? = some o ∧ o.isCells = false := fun r e => by cases e; exact ⟨_, hK, rfl⟩
    have z2 := (box_kept x2 g5 r5).cell
    have z3 := (box_kept x3 g5 r5).cell
    have hal : M.alloc o = ((k : Int), (0 : Int), M.upd k { M.fr k with owner := o }) := by
      rw [hk] at hpre
      obtain ⟨t, ht⟩ := hpre
      unfold Mach.alloc
      rw [if_neg HNA.out, ← ht]
      rfl
    refine ⟨.tuple #[.int .i64 k, .int .i64 0], ?_, ?_⟩
    · simp [results, Try.f11, go_sem, z2, z3]
    · rw [hal]
      exact ⟨rfl, pm_kept xM g5 r5, hg.andThen g5 (fun j e => by cases e; exact .inl (by omega))⟩
set_option maxRecDepth 100000 in
theorem Alloc_dom (b : Nat) (o : Int) (w : World) (M : Mach) (T : Int) (hM : PM w b M) (hok : M.ok T) (h0 : 0 ≤ o) (h8 : o < 8) :
    Calls Try.prog 11 #[.pointer (some ⟨b, 0, none⟩), .int .i64 o] w (Left2 b w (M.alloc o).1 (M.alloc o).2.1 (M.alloc o).2.2) := by
  have hn1 := hok.n1; have hn2 := hok.n2
  have hsz := hM.size
  have hst := hM.stops hn1 hn2
  have hbl := hM.lt
  have HM := hid hM
  have HNA : Hid (¬ (o ≠ -2 ∧ (o < 0 ∨ 8 ≤ o))) := hid (by omega)
  refine (callsIn_wide (n := 9)).1 ?_
  refine callsIn_of_wp_marks Try.func11 rfl trivial ?_ rfl
  simp only [Try.ntmps11, List.size_toArray, List.length_cons, List.length_nil, Nat.reduceAdd, Nat.reduceSub, Array.replicate_succ, Array.replicate_zero, List.push_toArray, List.append_toArray, List.nil_append, List.cons_append]
  have HST := hid hst
  clear hM hst hok
  have hob : (o != -2) = true := by rw [bne_iff_ne]; omega
  gi_wp2_with (first | (refine ⟨trivial, ?_⟩; gi_at_call 22; refine (callsIn_wide.2 (made_yes _ _ _ hn1 ((grown4 w _ _ _ _).cell hsz (by simp)))).mono ?_; rintro e w' ⟨rfl, rfl⟩) | (refine ⟨trivial, ?_⟩; gi_at_call 23; refine (callsIn_wide.2 (isDomain_yes _ _ h0 h8)).mono ?_; rintro e w' ⟨rfl, rfl⟩) | (refine ⟨trivial, ?_⟩; gi_at_call 16; refine (callsIn_wide.2 (owned_any _ _ _)).mono ?_; rintro e w' ⟨rfl, rfl⟩))
  clear hob h0 h8
  obtain ⟨W0, hW0⟩ : ∃ W0, ((((((w.alloc (.cells #[.pointer (some ⟨b, 0, none⟩)] 27)).alloc (.cells #[.int .i64 o] 3)).alloc (.cells #[.int .i64 0] 3)).alloc (.cells #[.int .i64 0] 24)).alloc (.cells #[.pointer (some ⟨b, 0, none⟩)] 27)).alloc (.cells #[.int .i64 (-1)] 3)) = W0 := ⟨_, rfl⟩
  obtain ⟨hs0, b0, b1, b2, b3, b4, b5, hg0⟩ := boxes6 w _ _ _ _ _ _ hW0
  rw [hW0]
  obtain ⟨bb, hb, hseq⟩ := HST.out 8 (w.heap.size + 1 + 1 + 1 + 1) (w.heap.size + 1 + 1 + 1 + 1 + 1) (-1) W0 (by omega) (by omega) hg0 b4 b5
  have hbs : bb < W0.heap.size := by omega
  refine wpIn_rangeFunc_ownF rfl (by omega) (gf := 25) (lb := #[.pointer (some ⟨w.heap.size + 1 + 1 + 1 + 1, 0, none⟩), .pointer (some ⟨w.heap.size + 1 + 1 + 1 + 1 + 1, 0, none⟩)]) rfl trivial (enters_of Try.func25 (by kernel_rfl) rfl)
    hseq Kp3.trans (Kp3.put hbs (by omega) (by omega)) (Below.refl _ _) (fun _ => rfl)
    (AllocI w b o M) (AllocX w b o M) (allocI_own w b o M _ (by omega)) (fun c => allocX_own w b o M c _ (by omega))
    ⟨rfl, ⟨b0, b1, b2, b3, HM.out.grown hg0 (by simp)⟩, hg0⟩
    ?a1 ?assign ?body ?done ?stop
  case assign =>
    intro l x W K hK
    gi_wp2
    exact hK
  case body =>
    rintro l pre x W hI _
    obtain rfl : pre = [] := hI.1
    have hmx : Try.prog.follows .mixedOrders = true := by kernel_rfl
    have hx256 : (x.1 : Int) < 256 := by have := x.2.1; omega
    have HI := hid hI
    obtain ⟨-, ⟨x0, x1, x2, x3, xM⟩, hg⟩ := hI
    have d0 := x0.cell; have d1 := x1.cell; have d2 := x2.cell; have d3 := x3.cell; have f2 := x2.frozen; have f3 := x3.frozen
    have dM := xM.owner (i := x.1) (by omega); have fM := xM.frozen (1 + x.1 * 260)
    clear x0 x1 x2 x3 xM hg
    gi_wp2
    gi_region_with_o (fail)
    all_goals gi_wp2
    all_goals exact allocX_end x (by omega) hbl HI.out
  case done =>
    rintro D xs W hD hxs hI hK
    obtain rfl : xs = [] := hI.1
    obtain ⟨-, ⟨x0, x1, x2, x3, xM⟩, hg⟩ := hI
    have d2 := x2.cell; have d3 := x3.cell; have f2 := x2.frozen; have f3 := x3.frozen
    have X2 := hid x2; have X3 := hid x3; have XM := hid xM; have HG := hid hg
    clear x0 x1 x2 x3 xM hg
    gi_wp2
    have hK' := ((KeepsOthers.setCell W ⟨w.heap.size + 1 + 1, 0, none⟩ (.int .i64 0)).trans (KeepsOthers.setCell _ ⟨w.heap.size + 1 + 1 + 1, 0, none⟩ (.int .i64 10))).same D _ hK rfl
    refine ⟨by simp, .inl ⟨_, _, rfl, run_takeDeferred hK', ?_⟩⟩
    have g5 := grownBy_putObj' ((W.setCell ⟨w.heap.size + 1 + 1, 0, none⟩ (.int .i64 0)).setCell ⟨w.heap.size + 1 + 1 + 1, 0, none⟩ (.int .i64 10)) D (.deferred none)
    have r5 : ∀ r, some D = some r → ∃ o : Obj, ((W.setCell ⟨w.heap.size + 1 + 1, 0, none⟩ (.int .i64 0)).setCell ⟨w.heap.size + 1 + 1 + 1, 0, none⟩ (.int .i64 10)).heap[r]? = some o ∧ o.isCells = false := fun r e => by cases e; exact ⟨_, hK', rfl⟩
    have z2 := box_kept ((X2.out.set (.int .i64 0)).kept (grownBy_setCell _ (w.heap.size + 1 + 1 + 1) 0 none (.int .i64 10)) (by simp)) g5 r5
    have z3 := box_kept ((X3.out.kept (grownBy_setCell _ (w.heap.size + 1 + 1) 0 none (.int .i64 0)) (by simp)).set (.int .i64 10)) g5 r5
    have zM := pm_kept ((XM.out.setOther ⟨w.heap.size + 1 + 1, 0, none⟩ (by simp; omega) (.int .i64 0)).setOther ⟨w.heap.size + 1 + 1 + 1, 0, none⟩ (by simp; omega) (.int .i64 10)) g5 r5
    have c2 := z2.cell; have c3 := z3.cell
    have hal : M.alloc o = (0, 10, M) := by
      have hl : M.ownedL (-1) = [] := by rw [← hxs]; rfl
      unfold Mach.alloc
      rw [if_neg HNA.out, hl]
    refine ⟨.tuple #[.int .i64 0, .int .i64 10], ?_, ?_⟩
    · simp [results, Try.f11, go_sem, c2, c3]
    · rw [hal]
      exact ⟨rfl, zM, (((HG.out.but (some b)).andThen (grownBy_setCell _ _ _ _ _) (fun j e => by cases e; exact .inl (by omega))).andThen (grownBy_setCell _ _ _ _ _) (fun j e => by cases e; exact .inl (by omega))).andThen g5 (fun j e => by cases e; exact .inl (by omega))⟩
  case stop =>
    rintro D c pre W hD hpre hX hK
    obtain ⟨rfl, k, hk, x2, x3, xM, hg⟩ := hX
    gi_wp2
    refine ⟨by simp, .inl ⟨_, _, rfl, run_takeDeferred hK, ?_⟩⟩
    have g5 := grownBy_putObj' W D (.deferred none)
    have r5 : ∀ r, some D = some r → ∃ o : Obj, W.heap[r]? = some o ∧ o.isCells = false := fun r e => by cases e; exact ⟨_, hK, rfl⟩
    have z2 := (box_kept x2 g5 r5).cell
    have z3 := (box_kept x3 g5 r5).cell
    have hal : M.alloc o = ((k : Int), (0 : Int), M.upd k { M.fr k with owner := o }) := by
      rw [hk] at hpre
      obtain ⟨t, ht⟩ := hpre
      unfold Mach.alloc
      rw [if_neg HNA.out, ← ht]
      rfl
    refine ⟨.tuple #[.int .i64 k, .int .i64 0], ?_, ?_⟩
    · simp [results, Try.f11, go_sem, z2, z3]
    · rw [hal]
      exact ⟨rfl, pm_kept xM g5 r5, hg.andThen g5 (fun j e => by cases e; exact .inl (by omega))⟩
theorem Alloc_any (b : Nat) (o : Int) (w : World) (M : Mach) (T : Int) (hM : PM w b M) (hok : M.ok T) :
    Calls Try.prog 11 #[.pointer (some ⟨b, 0, none⟩), .int .i64 o] w (Left2 b w (M.alloc o).1 (M.alloc o).2.1 (M.alloc o).2.2) := by
  by_cases h : o ≠ -2 ∧ (o < 0 ∨ 8 ≤ o)
  · refine (Alloc_bad b o w M hM hok.n1 h.1 h.2).mono ?_
    rintro e w' ⟨rfl, hg⟩
    rw [show M.alloc o = (0, 1, M) by unfold Mach.alloc; rw [if_pos h]]
    exact ⟨rfl, hM.grown hg (by simp), hg.but _⟩
  · by_cases h2 : o = -2
    · exact Alloc_hyper b o w M T hM hok h2
    · exact Alloc_dom b o w M T hM hok (by omega) (by omega)

end Go.Proofs.Ytbbaplcfhofeeaa
