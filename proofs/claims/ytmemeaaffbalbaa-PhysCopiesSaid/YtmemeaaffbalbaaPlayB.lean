/-
  Contract of play: both machines make the same call.
-/
import Derived.Test.YtmemeaaffbalbaaPlayA
import Derived.Deep.RegionHeld3
namespace Go.Proofs.Ytmemeaaffbalbaa
open Go.RowKit
set_option maxHeartbeats 1000000

/-- both machines are M -/
structure Pair (w : World) (B b : Nat) (M : Mach) (L : Lay) : Prop where
  m : PM w B M
  r : RM w b M L
theorem Pair.grown {w w' : World} {B b : Nat} {M : Mach} {L : Lay} (h : Pair w B b M L) (hg : w.grownBy w' none) : Pair w' B b M L := ⟨h.m.grown hg (by simp), h.r.grown hg⟩
def both (B b : Nat) (L : Lay) (k : Nat) : Prop := k = B ∨ L.foot b k
/-- what a play leaves -/
def Played (B b : Nat) (M : Mach) (L : Lay) (T : Int) (w w' : World) : Prop :=
  ∃ M' L', Pair w' B b M' L' ∧ M'.ok (T + 1) ∧ M'.n = M.n ∧ Chg (both B b L) w w' ∧ ∀ k, L'.foot b k → L.foot b k ∨ w.heap.size ≤ k
theorem Mach.free_n (M : Mach) (i : Int) : (M.free i).2.n = M.n := by unfold Mach.free; (repeat' split) <;> rfl
theorem Mach.give_n (M : Mach) (i t : Int) : (M.give i t).2.n = M.n := by unfold Mach.give; (repeat' split) <;> rfl
theorem Mach.get_n (M : Mach) (i o k : Int) : (M.get i o k).2.n = M.n := by unfold Mach.get Mach.take; (repeat' split) <;> rfl
theorem Mach.put_n (M : Mach) (i k : Int) : (M.put i k).2.n = M.n := by unfold Mach.put Mach.drop; (repeat' split) <;> rfl
theorem Mach.write_n (M : Mach) (i o : Int) (l : List UInt8) : (M.write i o l).2.n = M.n := by unfold Mach.write; (repeat' split) <;> rfl
theorem Mach.alloc_n (M : Mach) (o : Int) : (M.alloc o).2.2.n = M.n := by unfold Mach.alloc; (repeat' split) <;> rfl
/-- a phys call, then a ref call -/
theorem played_pr {w W w1 w2 : World} {B b : Nat} {M M' : Mach} {L L' : Lay} {T : Int} (h0 : w.grownBy W none) (hP : Pair W B b M L) (hok : M'.ok (T + 1)) (hn : M'.n = M.n) (h1 : PM w1 B M') (g1 : W.grownBy w1 (some B)) (h2 : RM w2 b M' L') (c2 : Chg (L.foot b) w1 w2)
    (f2 : ∀ k, L'.foot b k → L.foot b k ∨ w1.heap.size ≤ k) : Played B b M L T w w2 := by
  have hoff := hP.r.off hP.m
  refine ⟨M', L', ⟨h1.chg c2 hoff, h2⟩, hok, hn, ((Chg.of0 h0).trans (Chg.of (S := both B b L) g1 fun j e => .inl (.inl (Option.some.inj e).symm)) fun _ h => .inl h).trans c2 fun _ h => .inl (.inr h), fun k hk => ?_⟩
  rcases f2 k hk with h | h
  · exact .inl h
  · exact .inr (by have := h0.size; have := g1.size; omega)
/-- a ref call, then a phys call -/
theorem played_rp {w W w1 w2 : World} {B b : Nat} {M M' : Mach} {L L' : Lay} {T : Int} (h0 : w.grownBy W none) (hP : Pair W B b M L) (hok : M'.ok (T + 1)) (hn : M'.n = M.n) (h1 : RM w1 b M' L') (c1 : Chg (L.foot b) W w1) (f1 : ∀ k, L'.foot b k → L.foot b k ∨ W.heap.size ≤ k)
    (h2 : PM w2 B M') (g2 : w1.grownBy w2 (some B)) : Played B b M L T w w2 := by
  have hoff := hP.r.off hP.m
  have hm1 := hP.m.chg c1 hoff
  refine ⟨M', L', ⟨h2, h1.keep hm1 g2⟩, hok, hn, ((Chg.of0 h0).trans c1 fun _ h => .inl (.inr h)).trans (Chg.of (S := both B b L) g2 fun j e => .inl (.inl (Option.some.inj e).symm)) fun _ h => .inl h, fun k hk => ?_⟩
  rcases f1 k hk with h | h
  · exact .inl h
  · exact .inr (by have := h0.size; omega)
theorem box5 (w : World) (v0 v1 v2 v3 v4 : Value) : ∃ W, w.alloc (.cells #[v0, v1, v2, v3, v4] 33) = W ∧ w.grownBy W none ∧ W.heap.size = w.heap.size + 1 ∧ Row W w.heap.size 33 5 (fun k => [v0, v1, v2, v3, v4].getD k undef) := by
  have h := heap_alloc_new w (.cells #[v0, v1, v2, v3, v4] 33)
  refine ⟨_, rfl, World.grownBy_alloc w _ none, by simp, _, h, by simp, fun k hk => ?_⟩
  match k, hk with
  | 0, _ => rfl
  | 1, _ => rfl
  | 2, _ => rfl
  | 3, _ => rfl
  | 4, _ => rfl

set_option maxRecDepth 100000 in
theorem play_free (B b : Nat) (a c d : Int) (v : Value) (w : World) (M : Mach) (L : Lay) (T : Int) (hP : Pair w B b M L) (hok : M.ok T) :
    Calls Try.prog 17 #[.pointer (some ⟨B, 0, none⟩), .pointer (some ⟨b, 0, none⟩), .agg #[.int .i64 1, .int .i64 a, .int .i64 c, .int .i64 d, v]] w fun e w' => e = .returned (.bool true) ∧ Played B b M L T w w' := by
  obtain ⟨W, hW, hg, hs, hrow⟩ := box5 w (.int .i64 1) (.int .i64 a) (.int .i64 c) (.int .i64 d) v
  have HP := hid (hP.grown hg)
  have HG := hid hg
  have hBx : B ≠ w.heap.size := Nat.ne_of_lt hP.m.lt
  have hbx : ¬ L.foot b w.heap.size := fun h => Nat.lt_irrefl _ (hP.r.lt h)
  have hfr : ((M.free a).1 == (M.free a).1) = true := by simp
  have HO := hid (show (M.free a).2.ok (T + 1) from (Mach.free_ok hok a).mono (by omega))
  have c0 : W.cell? ⟨w.heap.size, 0, none⟩ = some (.int .i64 1) := hrow.cell (k := 0) (by omega)
  have c1 : W.cell? ⟨w.heap.size, 1, none⟩ = some (.int .i64 a) := hrow.cell (k := 1) (by omega)
  clear hP hg hrow
  go_enter Try.func17, Try.ntmps17
  go_wp2
  have HD := hid (HP.out.grown (grownBy_drew W none))
  have HGD := hid (HG.out.trans (grownBy_drew W none))
  go_region_held3 (fun w' => w'.cell? ⟨w.heap.size, 1, none⟩ = some (.int .i64 a)) (first | assumption | go_keep)
    (first
      | (go_at_call 42; first
          | (refine (Free_any B a _ M T HD.out.m hok).mono ?_; rintro e w1 ⟨rfl, h1, g1⟩; have k1 := g1.cell (a := ⟨w.heap.size, 1, none⟩) c1 (by simp; omega); have HM1 := hid h1; have HG1 := hid g1; have HR1 := hid (HD.out.r.keep HD.out.m g1); clear h1 g1)
          | (refine (Free_any B a _ M T HM2.out hok).mono ?_; rintro e w2 ⟨rfl, h1, g1⟩; have j1 := g1.cell (a := ⟨w.heap.size, 1, none⟩) k1 (by simp; omega); have HF := hid (played_rp (T := T) HGD.out HD.out HO.out (Mach.free_n M a) HR2.out HC2.out HF2.out h1 g1); clear h1 g1))
      | (go_at_call 43; first
          | (refine (rFree b a _ M L T HD.out.r hok).mono ?_; rintro e w1 ⟨rfl, L', h1, hn1, hc1, hf1⟩; have k1 := hc1.cell (a := ⟨w.heap.size, 1, none⟩) c1 hbx; have HM2 := hid (HD.out.m.chg hc1 (HD.out.r.off HD.out.m)); have HR2 := hid h1; have HC2 := hid hc1; have HF2 := hid hf1; clear h1 hn1 hc1 hf1)
          | (refine (rFree b a _ M L T HR1.out hok).mono ?_; rintro e w2 ⟨rfl, L', h1, hn1, hc1, hf1⟩; have j1 := hc1.cell (a := ⟨w.heap.size, 1, none⟩) k1 hbx; have HF := hid (played_pr (T := T) HGD.out HD.out HO.out (Mach.free_n M a) HM1.out HG1.out h1 hc1 hf1); clear h1 hn1 hc1 hf1)))
  all_goals go_wp2
  all_goals go_ret
  all_goals exact ⟨rfl, HF.out⟩
set_option maxRecDepth 100000 in
theorem play_give (B b : Nat) (a c d : Int) (v : Value) (w : World) (M : Mach) (L : Lay) (T : Int) (hP : Pair w B b M L) (hok : M.ok T) :
    Calls Try.prog 17 #[.pointer (some ⟨B, 0, none⟩), .pointer (some ⟨b, 0, none⟩), .agg #[.int .i64 2, .int .i64 a, .int .i64 c, .int .i64 d, v]] w fun e w' => e = .returned (.bool true) ∧ Played B b M L T w w' := by
  obtain ⟨W, hW, hg, hs, hrow⟩ := box5 w (.int .i64 2) (.int .i64 a) (.int .i64 c) (.int .i64 d) v
  have HP := hid (hP.grown hg)
  have HG := hid hg
  have hBx : B ≠ w.heap.size := Nat.ne_of_lt hP.m.lt
  have hbx : ¬ L.foot b w.heap.size := fun h => Nat.lt_irrefl _ (hP.r.lt h)
  have hfr : ((M.give a c).1 == (M.give a c).1) = true := by simp
  have HO := hid (show (M.give a c).2.ok (T + 1) from (Mach.give_ok hok a c).mono (by omega))
  have c0 : W.cell? ⟨w.heap.size, 0, none⟩ = some (.int .i64 2) := hrow.cell (k := 0) (by omega)
  have c1 : W.cell? ⟨w.heap.size, 1, none⟩ = some (.int .i64 a) := hrow.cell (k := 1) (by omega)
  have c2 : W.cell? ⟨w.heap.size, 2, none⟩ = some (.int .i64 c) := hrow.cell (k := 2) (by omega)
  clear hP hg hrow
  go_enter Try.func17, Try.ntmps17
  go_wp2
  have HD := hid (HP.out.grown (grownBy_drew W none))
  have HGD := hid (HG.out.trans (grownBy_drew W none))
  go_region_held3 (fun w' => w'.cell? ⟨w.heap.size, 1, none⟩ = some (.int .i64 a) ∧ w'.cell? ⟨w.heap.size, 2, none⟩ = some (.int .i64 c)) (first | assumption | go_keep)
    (first
      | (go_at_call 44; first
          | (refine (Give_any B a c _ M T HD.out.m hok).mono ?_; rintro e w1 ⟨rfl, h1, g1⟩; have k1 := g1.cell (a := ⟨w.heap.size, 1, none⟩) c1 (by simp; omega); have k2 := g1.cell (a := ⟨w.heap.size, 2, none⟩) c2 (by simp; omega); have HM1 := hid h1; have HG1 := hid g1; have HR1 := hid (HD.out.r.keep HD.out.m g1); clear h1 g1)
          | (refine (Give_any B a c _ M T HM2.out hok).mono ?_; rintro e w2 ⟨rfl, h1, g1⟩; have j1 := g1.cell (a := ⟨w.heap.size, 1, none⟩) k1 (by simp; omega); have j2 := g1.cell (a := ⟨w.heap.size, 2, none⟩) k2 (by simp; omega); have HF := hid (played_rp (T := T) HGD.out HD.out HO.out (Mach.give_n M a c) HR2.out HC2.out HF2.out h1 g1); clear h1 g1))
      | (go_at_call 45; first
          | (refine (rGive b a c _ M L HD.out.r).mono ?_; rintro e w1 ⟨rfl, L', h1, hn1, hc1, hf1⟩; have k1 := hc1.cell (a := ⟨w.heap.size, 1, none⟩) c1 hbx; have k2 := hc1.cell (a := ⟨w.heap.size, 2, none⟩) c2 hbx; have HM2 := hid (HD.out.m.chg hc1 (HD.out.r.off HD.out.m)); have HR2 := hid h1; have HC2 := hid hc1; have HF2 := hid hf1; clear h1 hn1 hc1 hf1)
          | (refine (rGive b a c _ M L HR1.out).mono ?_; rintro e w2 ⟨rfl, L', h1, hn1, hc1, hf1⟩; have j1 := hc1.cell (a := ⟨w.heap.size, 1, none⟩) k1 hbx; have j2 := hc1.cell (a := ⟨w.heap.size, 2, none⟩) k2 hbx; have HF := hid (played_pr (T := T) HGD.out HD.out HO.out (Mach.give_n M a c) HM1.out HG1.out h1 hc1 hf1); clear h1 hn1 hc1 hf1)))
  all_goals go_wp2
  all_goals go_ret
  all_goals exact ⟨rfl, HF.out⟩
set_option maxRecDepth 100000 in
theorem play_get (B b : Nat) (a c d : Int) (v : Value) (w : World) (M : Mach) (L : Lay) (T : Int) (hP : Pair w B b M L) (hok : M.ok T) (hT : T < 9223372036854775807) :
    Calls Try.prog 17 #[.pointer (some ⟨B, 0, none⟩), .pointer (some ⟨b, 0, none⟩), .agg #[.int .i64 3, .int .i64 a, .int .i64 c, .int .i64 d, v]] w fun e w' => e = .returned (.bool true) ∧ Played B b M L T w w' := by
  obtain ⟨W, hW, hg, hs, hrow⟩ := box5 w (.int .i64 3) (.int .i64 a) (.int .i64 c) (.int .i64 d) v
  have HP := hid (hP.grown hg)
  have HG := hid hg
  have hBx : B ≠ w.heap.size := Nat.ne_of_lt hP.m.lt
  have hbx : ¬ L.foot b w.heap.size := fun h => Nat.lt_irrefl _ (hP.r.lt h)
  have hfr : ((M.get a c d).1 == (M.get a c d).1) = true := by simp
  have HO := hid (show (M.get a c d).2.ok (T + 1) from Mach.get_ok hok a c d)
  have c0 : W.cell? ⟨w.heap.size, 0, none⟩ = some (.int .i64 3) := hrow.cell (k := 0) (by omega)
  have c1 : W.cell? ⟨w.heap.size, 1, none⟩ = some (.int .i64 a) := hrow.cell (k := 1) (by omega)
  have c2 : W.cell? ⟨w.heap.size, 2, none⟩ = some (.int .i64 c) := hrow.cell (k := 2) (by omega)
  have c3 : W.cell? ⟨w.heap.size, 3, none⟩ = some (.int .i64 d) := hrow.cell (k := 3) (by omega)
  clear hP hg hrow
  go_enter Try.func17, Try.ntmps17
  go_wp2
  have HD := hid (HP.out.grown (grownBy_drew W none))
  have HGD := hid (HG.out.trans (grownBy_drew W none))
  go_region_held3 (fun w' => w'.cell? ⟨w.heap.size, 1, none⟩ = some (.int .i64 a) ∧ w'.cell? ⟨w.heap.size, 2, none⟩ = some (.int .i64 c) ∧ w'.cell? ⟨w.heap.size, 3, none⟩ = some (.int .i64 d)) (first | assumption | go_keep)
    (first
      | (go_at_call 46; first
          | (refine (Get_any B a c d _ M T HD.out.m hok hT).mono ?_; rintro e w1 ⟨rfl, h1, g1⟩; have k1 := g1.cell (a := ⟨w.heap.size, 1, none⟩) c1 (by simp; omega); have k2 := g1.cell (a := ⟨w.heap.size, 2, none⟩) c2 (by simp; omega); have k3 := g1.cell (a := ⟨w.heap.size, 3, none⟩) c3 (by simp; omega); have HM1 := hid h1; have HG1 := hid g1; have HR1 := hid (HD.out.r.keep HD.out.m g1); clear h1 g1)
          | (refine (Get_any B a c d _ M T HM2.out hok hT).mono ?_; rintro e w2 ⟨rfl, h1, g1⟩; have j1 := g1.cell (a := ⟨w.heap.size, 1, none⟩) k1 (by simp; omega); have j2 := g1.cell (a := ⟨w.heap.size, 2, none⟩) k2 (by simp; omega); have j3 := g1.cell (a := ⟨w.heap.size, 3, none⟩) k3 (by simp; omega); have HF := hid (played_rp (T := T) HGD.out HD.out HO.out (Mach.get_n M a c d) HR2.out HC2.out HF2.out h1 g1); clear h1 g1))
      | (go_at_call 47; first
          | (refine (rGet b a c d _ M L T HD.out.r hok hT).mono ?_; rintro e w1 ⟨rfl, L', h1, hn1, hc1, hf1⟩; have k1 := hc1.cell (a := ⟨w.heap.size, 1, none⟩) c1 hbx; have k2 := hc1.cell (a := ⟨w.heap.size, 2, none⟩) c2 hbx; have k3 := hc1.cell (a := ⟨w.heap.size, 3, none⟩) c3 hbx; have HM2 := hid (HD.out.m.chg hc1 (HD.out.r.off HD.out.m)); have HR2 := hid h1; have HC2 := hid hc1; have HF2 := hid hf1; clear h1 hn1 hc1 hf1)
          | (refine (rGet b a c d _ M L T HR1.out hok hT).mono ?_; rintro e w2 ⟨rfl, L', h1, hn1, hc1, hf1⟩; have j1 := hc1.cell (a := ⟨w.heap.size, 1, none⟩) k1 hbx; have j2 := hc1.cell (a := ⟨w.heap.size, 2, none⟩) k2 hbx; have j3 := hc1.cell (a := ⟨w.heap.size, 3, none⟩) k3 hbx; have HF := hid (played_pr (T := T) HGD.out HD.out HO.out (Mach.get_n M a c d) HM1.out HG1.out h1 hc1 hf1); clear h1 hn1 hc1 hf1)))
  all_goals go_wp2
  all_goals go_ret
  all_goals exact ⟨rfl, HF.out⟩
set_option maxRecDepth 100000 in
theorem play_put (B b : Nat) (a c d : Int) (v : Value) (w : World) (M : Mach) (L : Lay) (T : Int) (hP : Pair w B b M L) (hok : M.ok T) (hT : T < 9223372036854775807) :
    Calls Try.prog 17 #[.pointer (some ⟨B, 0, none⟩), .pointer (some ⟨b, 0, none⟩), .agg #[.int .i64 4, .int .i64 a, .int .i64 c, .int .i64 d, v]] w fun e w' => e = .returned (.bool true) ∧ Played B b M L T w w' := by
  obtain ⟨W, hW, hg, hs, hrow⟩ := box5 w (.int .i64 4) (.int .i64 a) (.int .i64 c) (.int .i64 d) v
  have HP := hid (hP.grown hg)
  have HG := hid hg
  have hBx : B ≠ w.heap.size := Nat.ne_of_lt hP.m.lt
  have hbx : ¬ L.foot b w.heap.size := fun h => Nat.lt_irrefl _ (hP.r.lt h)
  have hfr : ((M.put a d).1 == (M.put a d).1) = true := by simp
  have HO := hid (show (M.put a d).2.ok (T + 1) from (Mach.put_ok hok a d).mono (by omega))
  have c0 : W.cell? ⟨w.heap.size, 0, none⟩ = some (.int .i64 4) := hrow.cell (k := 0) (by omega)
  have c1 : W.cell? ⟨w.heap.size, 1, none⟩ = some (.int .i64 a) := hrow.cell (k := 1) (by omega)
  have c3 : W.cell? ⟨w.heap.size, 3, none⟩ = some (.int .i64 d) := hrow.cell (k := 3) (by omega)
  clear hP hg hrow
  go_enter Try.func17, Try.ntmps17
  go_wp2
  have HD := hid (HP.out.grown (grownBy_drew W none))
  have HGD := hid (HG.out.trans (grownBy_drew W none))
  go_region_held3 (fun w' => w'.cell? ⟨w.heap.size, 1, none⟩ = some (.int .i64 a) ∧ w'.cell? ⟨w.heap.size, 3, none⟩ = some (.int .i64 d)) (first | assumption | go_keep)
    (first
      | (go_at_call 48; first
          | (refine (Put_any B a d _ M T HD.out.m hok hT).mono ?_; rintro e w1 ⟨rfl, h1, g1⟩; have k1 := g1.cell (a := ⟨w.heap.size, 1, none⟩) c1 (by simp; omega); have k3 := g1.cell (a := ⟨w.heap.size, 3, none⟩) c3 (by simp; omega); have HM1 := hid h1; have HG1 := hid g1; have HR1 := hid (HD.out.r.keep HD.out.m g1); clear h1 g1)
          | (refine (Put_any B a d _ M T HM2.out hok hT).mono ?_; rintro e w2 ⟨rfl, h1, g1⟩; have j1 := g1.cell (a := ⟨w.heap.size, 1, none⟩) k1 (by simp; omega); have j3 := g1.cell (a := ⟨w.heap.size, 3, none⟩) k3 (by simp; omega); have HF := hid (played_rp (T := T) HGD.out HD.out HO.out (Mach.put_n M a d) HR2.out HC2.out HF2.out h1 g1); clear h1 g1))
      | (go_at_call 49; first
          | (refine (rPut b a d _ M L T HD.out.r hok hT).mono ?_; rintro e w1 ⟨rfl, L', h1, hn1, hc1, hf1⟩; have k1 := hc1.cell (a := ⟨w.heap.size, 1, none⟩) c1 hbx; have k3 := hc1.cell (a := ⟨w.heap.size, 3, none⟩) c3 hbx; have HM2 := hid (HD.out.m.chg hc1 (HD.out.r.off HD.out.m)); have HR2 := hid h1; have HC2 := hid hc1; have HF2 := hid hf1; clear h1 hn1 hc1 hf1)
          | (refine (rPut b a d _ M L T HR1.out hok hT).mono ?_; rintro e w2 ⟨rfl, L', h1, hn1, hc1, hf1⟩; have j1 := hc1.cell (a := ⟨w.heap.size, 1, none⟩) k1 hbx; have j3 := hc1.cell (a := ⟨w.heap.size, 3, none⟩) k3 hbx; have HF := hid (played_pr (T := T) HGD.out HD.out HO.out (Mach.put_n M a d) HM1.out HG1.out h1 hc1 hf1); clear h1 hn1 hc1 hf1)))
  all_goals go_wp2
  all_goals go_ret
  all_goals exact ⟨rfl, HF.out⟩
end Go.Proofs.Ytmemeaaffbalbaa
