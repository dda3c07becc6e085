/-
  law08.play: one call on both sides (written by wip/tools/gen_rgplay.py).
-/
import Derived.Test.YtgnihllnjaagcaaRgE
import Derived.Test.YtgnihllnjaagcaaBg
import Derived.Test.YtgnihllnjaagcaaVOpen
import Derived.Test.YtgnihllnjaagcaaVStr
import Derived.Test.YtgnihllnjaagcaaRgOne
import Derived.Deep.QuietTactic
import Derived.BigQuiet
import Derived.Deep.RegionHeld3
set_option linter.unusedSimpArgs false
set_option linter.unusedVariables false
namespace Go.Proofs.Ytgnihllnjaagcaa
open Go.RowKit
set_option maxHeartbeats 2000000

theorem box4r (w : World) (v0 v1 v2 v3 : Value) : ∃ W, w.alloc (.cells #[v0, v1, v2, v3] 69) = W ∧ w.grownBy W none ∧ W.heap.size = w.heap.size + 1 ∧ Row W w.heap.size 69 4 (fun k => [v0, v1, v2, v3].getD k undef) := by
  have h := heap_alloc_new w (.cells #[v0, v1, v2, v3] 69)
  refine ⟨_, rfl, World.grownBy_alloc w _ none, by simp, _, h, by simp, fun k hk => ?_⟩
  match k, hk with
  | 0, _ => rfl
  | 1, _ => rfl
  | 2, _ => rfl
  | 3, _ => rfl
/-- what a call may do to the numbers -/
def RgStep (g g' : Rg) : Prop := (g'.tk = g.tk ∧ g'.ld = g.ld) ∨ (g'.tk = IntKind.u16.wrap (g.tk + 1) ∧ g'.ld = g.ld ∧ g.opn < 8) ∨ (g'.tk = g.tk ∧ g'.ld = IntKind.u16.wrap (g.ld + 1) ∧ g.opn ≠ 0)
/-- what a call of play leaves -/
def RgPlayed (w0 : World) (B b K C : Nat) (X : Int) (g : Rg) (w' : World) : Prop := ∃ M' g', RS w0 w' B b K C M' g' ∧ M'.ok X ∧ g'.ok ∧ g'.mfn = g.mfn ∧ RgStep g g'
theorem RX.start {w0 w w1 w2 : World} {B b K C : Nat} {M : Mach} {g : Rg} {l : List PokeV} {f : Int → Option Value} {pa : Option Addr} {cap : Nat} (h : RS w0 w B b K C M g)
    (hv : VV w1 (w.heap.size + 1) w.heap.size B (fun k => w.heap.size + 2 ≤ k ∧ k < w1.heap.size) l 0 l.length f) (g1 : w.grownBy w1 none) (hu : RV w2 w1.heap.size b pa l.length cap 0) (g2 : w1.grownBy w2 none) :
    RX w0 w2 (w.heap.size + 1) w.heap.size B (fun k => w.heap.size + 2 ≤ k ∧ k < w1.heap.size) l 0 M w1.heap.size b pa cap 0 M K C g g := by
  obtain ⟨L, hL, hf⟩ := h.r
  have hw := h.g.size
  have hk := h.k.lt
  have hc := h.c.lt
  have hs1 := g1.size
  have hV := hv.top.lt
  have hg := g1.trans g2
  refine ⟨⟨f, hv.grown g2⟩, h.m.grown hg (by simp), hu, ⟨L, hL.grown hg, fun q hq => ⟨hf q hq, ?_⟩⟩, h.k.grown hg (by simp), h.c.grown hg (by simp), h.far, ⟨by omega, by omega, by omega⟩, ?_, ?_, ?_, h.g.trans hg⟩
  · have := hL.lt hq
    rintro (e | e | e)
    · omega
    · omega
    · have := e.1; omega
  · rintro (e | e | e)
    · omega
    · omega
    · have := e.1; omega
  · rintro (e | e | e)
    · omega
    · omega
    · have := e.1; omega
  · rintro (e | e | e)
    · omega
    · omega
    · exact Nat.lt_irrefl _ e.2
section
variable (w0 w : World) (B b K C : Nat) (M : Mach) (g : Rg) (X : Int) (x off : Int) (bp : Option Addr) (bl : List UInt8) (bc : Nat) (pp : Option Addr) (ps : List PokeV) (pc : Nat)
set_option maxRecDepth 100000 in
theorem rgPlay_long (h : RS w0 w B b K C M g) (hok : M.ok X) (hg : g.ok) (hps : 64 < ps.length) :
    Calls Try.prog 32 #[.pointer (some ⟨B, 0, none⟩), .pointer (some ⟨b, 0, none⟩), .pointer (some ⟨K, 0, none⟩), .pointer (some ⟨C, 0, none⟩), .agg #[.int .i64 x, .int .i64 off, .slice bp bl.length bc, .slice pp ps.length pc]] w fun e w' => e = .returned (.bool true) ∧ RgPlayed w0 B b K C X g w' := by
  obtain ⟨W, hW, hgr, hs, hrow⟩ := box4r w (.int .i64 x) (.int .i64 off) (.slice bp bl.length bc) (.slice pp ps.length pc)
  have H := hid (h.more hgr); have HOk := hid hok; have HG := hid hg
  have c3 : W.cell? ⟨w.heap.size, 3, none⟩ = some (.slice pp ps.length pc) := hrow.cell (k := 3) (by omega)
  clear h hok hg hgr hs hrow
  go_enter Try.func32, Try.ntmps32
  go_wp2_with (first
    | (go_at_call 20; refine (vNew_long B pp ps.length pc _ M H.out.m HOk.out.n1 hps).mono ?_; rintro e w1 ⟨rfl, rfl⟩)
    | (go_at_call 21; refine (rvNew_long b pp ps.length pc _ hps).mono ?_; rintro e w2 ⟨rfl, rfl⟩))
  go_ret
  exact ⟨rfl, M, g, H.out, HOk.out, HG.out, rfl, .inl ⟨rfl, rfl⟩⟩
set_option maxRecDepth 100000 in
theorem rgPlay0 (h : RS w0 w B b K C M g) (hok : M.ok X) (hg : g.ok) (hp : PokesIn w0 pp ps) (hps : ps.length ≤ 64) (hin : InBytes w0 bp bl) (hbl : bl.length ≤ 140737488351232) (hoff : off ≤ 9223372036854775807) :
    Calls Try.prog 32 #[.pointer (some ⟨B, 0, none⟩), .pointer (some ⟨b, 0, none⟩), .pointer (some ⟨K, 0, none⟩), .pointer (some ⟨C, 0, none⟩), .agg #[.int .i64 0, .int .i64 off, .slice bp bl.length bc, .slice pp ps.length pc]] w fun e w' => e = .returned (.bool true) ∧ RgPlayed w0 B b K C X g w' := by
  obtain ⟨W, hW, hgr, hs, hrow⟩ := box4r w (.int .i64 0) (.int .i64 off) (.slice bp bl.length bc) (.slice pp ps.length pc)
  have H := hid (h.more hgr); have HOk := hid hok; have HG := hid hg; have HP := hid hp; have HFit := hid hp.fits; have HIn := hid hin
  have c0 : W.cell? ⟨w.heap.size, 0, none⟩ = some (.int .i64 0) := hrow.cell (k := 0) (by omega)
  have c1 : W.cell? ⟨w.heap.size, 1, none⟩ = some (.int .i64 off) := hrow.cell (k := 1) (by omega)
  have c2 : W.cell? ⟨w.heap.size, 2, none⟩ = some (.slice bp bl.length bc) := hrow.cell (k := 2) (by omega)
  have c3 : W.cell? ⟨w.heap.size, 3, none⟩ = some (.slice pp ps.length pc) := hrow.cell (k := 3) (by omega)
  have HSz := hid hs
  have HRow := hid hrow
  have HBx := hid (show w.heap.size ≠ B ∧ w.heap.size ≠ K ∧ w.heap.size ≠ C from by have := h.m.lt; have := h.k.lt; have := h.c.lt; omega)
  obtain ⟨r, hr⟩ : ∃ r, (M.rews (due ps ((0 : Nat) : Int))).read g.mfn 0 2 = r := ⟨_, rfl⟩
  have HR := hid hr
  obtain ⟨a, c, e, g2, hlk⟩ : ∃ a c e g2, g.look r = (a, c, e, g2) := ⟨_, _, _, _, rfl⟩
  have HLk := hid hlk
  have HGo := hid (show g2.ok from by have := Rg.look_ok hg r; rw [hlk] at this; exact this)
  have HSt := hid (show g2.mfn = g.mfn ∧ g2.tk = g.tk ∧ g2.ld = g.ld from by have := Rg.look_same g r; rw [hlk] at this; exact this)
  have t1 : (a == a) = true := by simp
  have t2 : (c == c) = true := by simp
  have t3 : (e == e) = true := by simp
  clear hr hlk
  clear h hok hg hgr hs hrow hp hin
  go_enter Try.func32, Try.ntmps32
  go_wp2_with (first
    | (go_at_call 20; refine (vNew B pp pc ps _ M H.out.m HOk.out.n1 hps (HP.out.grown H.out.g)).mono ?_; rintro e w1 ⟨rfl, ⟨f1, hv1⟩, g1⟩; have HV1 := hid hv1; have G1 := hid g1; replace c0 := g1.cell c0 (by simp); replace c1 := g1.cell c1 (by simp); replace c2 := g1.cell c2 (by simp); replace c3 := g1.cell c3 (by simp); clear hv1 g1)
    | (go_at_call 21; refine (rvNew b pp ps.length pc _ hps).mono ?_; rintro e w2 ⟨rfl, hu2, g2⟩; have HX := hid (RX.start H.out HV1.out G1.out hu2 g2); have G2 := hid (G1.out.trans g2); replace c0 := g2.cell c0 (by simp); replace c1 := g2.cell c1 (by simp); replace c2 := g2.cell c2 (by simp); replace c3 := g2.cell c3 (by simp); clear hu2 g2)
    | (go_at_call 44; obtain ⟨fv, hfv⟩ := HX.out.v; refine (rgLook _ _ B _ ps 0 _ fv K g _ M X hfv HX.out.m HOk.out HX.out.k HX.out.rgk HG.out HFit.out (by omega) hps).mono ?_; rw [HR.out, HLk.out]; rintro e1 w3 ⟨rfl, h3⟩; have HX3 := hid (HX.out.read h3); clear h3 hfv)
    | (go_at_call 80; obtain ⟨L, hL, hf⟩ := HX3.out.r; refine (rcLook _ b pp pc ps 0 w0 _ M L C g HX3.out.u hL HP.out hps (by omega) HX3.out.g (hL.offRow HX3.out.u (by decide) (by decide) (by decide) (by decide)) (fun k hk => (hf k hk).1) HX3.out.c).mono ?_; rw [HR.out, HLk.out]; rintro e1 w4 ⟨rfl, h4⟩; have HX4 := hid (HX3.out.right hL hf h4.v h4.m h4.c h4.chg); have u2 := h4.v.c2; clear h4 hL hf))
  have HRd := hid (fun n => (by obtain ⟨fv, hfv⟩ := (HX4.out.more (grownBy_drewN w4 n none)).v; exact (vReads _ _ _ _ _ _ _ fv _ hfv).mono fun e w' he => (⟨he.1, he.2.symm⟩ : e = .returned (.int .i64 1) ∧ w' = w4.drewN n) : Calls Try.prog 23 #[.pointer (some ⟨W.heap.size + 1, 0, none⟩)] (w4.drewN n) fun e w' => e = .returned (.int .i64 1) ∧ w' = w4.drewN n))
  go_quiet (first | (go_at_call 23; exact Calls.quiet_of_same (v := .int .i64 1) (HRd.out _)))
  all_goals go_wp2
  all_goals go_ret
  all_goals exact ⟨rfl, _, g2, (HX4.out.more (grownBy_drewN _ _ none)).rs, Mach.rews_ok _ HOk.out, HGo.out, HSt.out.1, .inl HSt.out.2⟩
set_option maxRecDepth 100000 in
theorem rgPlay1n (h : RS w0 w B b K C M g) (hok : M.ok X) (hg : g.ok) (hp : PokesIn w0 pp ps) (hps : ps.length ≤ 64) (hin : InBytes w0 bp bl) (hbl : bl.length ≤ 140737488351232) (hoff : off ≤ 9223372036854775807) (hc : g.can = false) :
    Calls Try.prog 32 #[.pointer (some ⟨B, 0, none⟩), .pointer (some ⟨b, 0, none⟩), .pointer (some ⟨K, 0, none⟩), .pointer (some ⟨C, 0, none⟩), .agg #[.int .i64 1, .int .i64 off, .slice bp bl.length bc, .slice pp ps.length pc]] w fun e w' => e = .returned (.bool true) ∧ RgPlayed w0 B b K C X g w' := by
  obtain ⟨W, hW, hgr, hs, hrow⟩ := box4r w (.int .i64 1) (.int .i64 off) (.slice bp bl.length bc) (.slice pp ps.length pc)
  have H := hid (h.more hgr); have HOk := hid hok; have HG := hid hg; have HP := hid hp; have HFit := hid hp.fits; have HIn := hid hin
  have c0 : W.cell? ⟨w.heap.size, 0, none⟩ = some (.int .i64 1) := hrow.cell (k := 0) (by omega)
  have c1 : W.cell? ⟨w.heap.size, 1, none⟩ = some (.int .i64 off) := hrow.cell (k := 1) (by omega)
  have c2 : W.cell? ⟨w.heap.size, 2, none⟩ = some (.slice bp bl.length bc) := hrow.cell (k := 2) (by omega)
  have c3 : W.cell? ⟨w.heap.size, 3, none⟩ = some (.slice pp ps.length pc) := hrow.cell (k := 3) (by omega)
  have HSz := hid hs
  have HRow := hid hrow
  have HBx := hid (show w.heap.size ≠ B ∧ w.heap.size ≠ K ∧ w.heap.size ≠ C from by have := h.m.lt; have := h.k.lt; have := h.c.lt; omega)
  have t1 : ((5 : Int) == 5) = true := by simp
  clear h hok hg hgr hs hrow hp hin
  go_enter Try.func32, Try.ntmps32
  go_wp2_with (first
    | (go_at_call 20; refine (vNew B pp pc ps _ M H.out.m HOk.out.n1 hps (HP.out.grown H.out.g)).mono ?_; rintro e w1 ⟨rfl, ⟨f1, hv1⟩, g1⟩; have HV1 := hid hv1; have G1 := hid g1; replace c0 := g1.cell c0 (by simp); replace c1 := g1.cell c1 (by simp); replace c2 := g1.cell c2 (by simp); replace c3 := g1.cell c3 (by simp); clear hv1 g1)
    | (go_at_call 21; refine (rvNew b pp ps.length pc _ hps).mono ?_; rintro e w2 ⟨rfl, hu2, g2⟩; have HX := hid (RX.start H.out HV1.out G1.out hu2 g2); have G2 := hid (G1.out.trans g2); replace c0 := g2.cell c0 (by simp); replace c1 := g2.cell c1 (by simp); replace c2 := g2.cell c2 (by simp); replace c3 := g2.cell c3 (by simp); clear hu2 g2)
    | (go_at_call 45; obtain ⟨fv, hfv⟩ := HX.out.v; refine (rgTake_no _ _ B _ ps 0 _ fv K g _ hfv HX.out.k hc).mono ?_; rintro e1 w3 ⟨rfl, h3⟩; have HX3 := hid (HX.out.more h3); clear h3 hfv)
    | (go_at_call 81; refine (rcTake_no _ _ C g HX3.out.c hc HG.out).mono ?_; rintro e1 w4 ⟨rfl, h4⟩; have HX4 := hid (HX3.out.more h4); have u2 := HX4.out.u.c2; clear h4))
  have kc := fun n => vconv_empty (w4.drewN n) none 0
  have HRd := hid (fun n => (by obtain ⟨fv, hfv⟩ := (HX4.out.more (grownBy_drewN w4 n none)).v; exact (vReads _ _ _ _ _ _ _ fv _ hfv).mono fun e w' he => (⟨he.1, he.2.symm⟩ : e = .returned (.int .i64 0) ∧ w' = w4.drewN n) : Calls Try.prog 23 #[.pointer (some ⟨W.heap.size + 1, 0, none⟩)] (w4.drewN n) fun e w' => e = .returned (.int .i64 0) ∧ w' = w4.drewN n))
  go_quiet (first | (go_at_call 23; exact Calls.quiet_of_same (v := .int .i64 0) (HRd.out _)))
  all_goals go_wp2
  all_goals go_ret
  all_goals exact ⟨rfl, _, g, (HX4.out.more (grownBy_drewN _ _ none)).rs, HOk.out, HG.out, rfl, .inl ⟨rfl, rfl⟩⟩
set_option maxRecDepth 100000 in
theorem rgPlay1y (h : RS w0 w B b K C M g) (hok : M.ok X) (hg : g.ok) (hp : PokesIn w0 pp ps) (hps : ps.length ≤ 64) (hin : InBytes w0 bp bl) (hbl : bl.length ≤ 140737488351232) (hoff : off ≤ 9223372036854775807) (hc : g.can = true) :
    Calls Try.prog 32 #[.pointer (some ⟨B, 0, none⟩), .pointer (some ⟨b, 0, none⟩), .pointer (some ⟨K, 0, none⟩), .pointer (some ⟨C, 0, none⟩), .agg #[.int .i64 1, .int .i64 off, .slice bp bl.length bc, .slice pp ps.length pc]] w fun e w' => e = .returned (.bool true) ∧ RgPlayed w0 B b K C X g w' := by
  obtain ⟨W, hW, hgr, hs, hrow⟩ := box4r w (.int .i64 1) (.int .i64 off) (.slice bp bl.length bc) (.slice pp ps.length pc)
  have H := hid (h.more hgr); have HOk := hid hok; have HG := hid hg; have HP := hid hp; have HFit := hid hp.fits; have HIn := hid hin
  have c0 : W.cell? ⟨w.heap.size, 0, none⟩ = some (.int .i64 1) := hrow.cell (k := 0) (by omega)
  have c1 : W.cell? ⟨w.heap.size, 1, none⟩ = some (.int .i64 off) := hrow.cell (k := 1) (by omega)
  have c2 : W.cell? ⟨w.heap.size, 2, none⟩ = some (.slice bp bl.length bc) := hrow.cell (k := 2) (by omega)
  have c3 : W.cell? ⟨w.heap.size, 3, none⟩ = some (.slice pp ps.length pc) := hrow.cell (k := 3) (by omega)
  have HSz := hid hs
  have HRow := hid hrow
  have HBx := hid (show w.heap.size ≠ B ∧ w.heap.size ≠ K ∧ w.heap.size ≠ C from by have := h.m.lt; have := h.k.lt; have := h.c.lt; omega)
  obtain ⟨r, hr⟩ : ∃ r, (M.rews (due ps ((0 : Nat) : Int))).read g.mfn g.reqAt 16 = r := ⟨_, rfl⟩
  have HR := hid hr
  have t1 : (r.2 == r.2) = true := by simp
  clear hr
  clear h hok hg hgr hs hrow hp hin
  go_enter Try.func32, Try.ntmps32
  go_wp2_with (first
    | (go_at_call 20; refine (vNew B pp pc ps _ M H.out.m HOk.out.n1 hps (HP.out.grown H.out.g)).mono ?_; rintro e w1 ⟨rfl, ⟨f1, hv1⟩, g1⟩; have HV1 := hid hv1; have G1 := hid g1; replace c0 := g1.cell c0 (by simp); replace c1 := g1.cell c1 (by simp); replace c2 := g1.cell c2 (by simp); replace c3 := g1.cell c3 (by simp); clear hv1 g1)
    | (go_at_call 21; refine (rvNew b pp ps.length pc _ hps).mono ?_; rintro e w2 ⟨rfl, hu2, g2⟩; have HX := hid (RX.start H.out HV1.out G1.out hu2 g2); have G2 := hid (G1.out.trans g2); replace c0 := g2.cell c0 (by simp); replace c1 := g2.cell c1 (by simp); replace c2 := g2.cell c2 (by simp); replace c3 := g2.cell c3 (by simp); clear hu2 g2)
    | (go_at_call 45; obtain ⟨fv, hfv⟩ := HX.out.v; obtain ⟨L, hL, hf⟩ := HX.out.r; have HF := hid hf; have HLt := hid (fun q (hq : L.foot b q) => (hL.lt hq : q < w2.heap.size)); refine (rgTake_yes _ _ B _ ps 0 _ fv K g _ M X hfv HX.out.m HOk.out HX.out.k HX.out.rgk HG.out HFit.out (by omega) hps hc).mono ?_; rw [HR.out]; rintro e1 w3 ⟨v3, rfl, ⟨q3, d3, rfl, hk3⟩, h3⟩; have HX3 := hid (HX.out.read h3); have HL3 := hid (HX.out.ref hL hf h3.chg); have HK3 := hid hk3; clear h3 hfv hk3 hL hf)
    | (go_at_call 81; refine (rcTake_yes _ b pp pc ps 0 w0 _ M L C g HX3.out.u HL3.out HP.out hps (by omega) HX3.out.g (HL3.out.offRow HX3.out.u (by decide) (by decide) (by decide) (by decide)) (fun k hk => (HF.out k hk).1) HX3.out.c hc HG.out).mono ?_; rw [HR.out]; rintro e1 w4 ⟨v4, rfl, ⟨q4, d4, rfl, hin4⟩, h4⟩; have HX4 := hid (HX3.out.right HL3.out HF.out h4.v h4.m h4.c h4.chg); have u2 := h4.v.c2; have kc2 := fun n => in_string hin4 d4 (w4.drewN n) (grownBy_drewN w4 n none); have HK4 := hid (HK3.out.chg h4.chg (fun q hq e => by rcases e with e | e | e; (have h := HX.out.u; have h := Row.lt h; omega); (have h := HLt.out q e; omega); (have h := HX.out.c.lt; omega))); have kc1 := fun n => kept_string HK4.out d3 (w4.drewN n) (grownBy_drewN w4 n none); clear h4 hin4))
  have HRd := hid (fun n => (by obtain ⟨fv, hfv⟩ := (HX4.out.more (grownBy_drewN w4 n none)).v; exact (vReads _ _ _ _ _ _ _ fv _ hfv).mono fun e w' he => (⟨he.1, he.2.symm⟩ : e = .returned (.int .i64 1) ∧ w' = w4.drewN n) : Calls Try.prog 23 #[.pointer (some ⟨W.heap.size + 1, 0, none⟩)] (w4.drewN n) fun e w' => e = .returned (.int .i64 1) ∧ w' = w4.drewN n))
  go_quiet (first | (go_at_call 23; exact Calls.quiet_of_same (v := .int .i64 1) (HRd.out _)))
  all_goals go_wp2
  all_goals go_ret
  all_goals exact ⟨rfl, _, g.took, (HX4.out.more (grownBy_drewN _ _ none)).rs, Mach.rews_ok _ HOk.out, Rg.took_ok HG.out hc, rfl, .inr (.inl ⟨rfl, rfl, Rg.can_lt HG.out hc⟩)⟩
set_option maxRecDepth 100000 in
theorem rgPlay2l (h : RS w0 w B b K C M g) (hok : M.ok X) (hg : g.ok) (hp : PokesIn w0 pp ps) (hps : ps.length ≤ 64) (hin : InBytes w0 bp bl) (hbl : bl.length ≤ 140737488351232) (hoff : off ≤ 9223372036854775807) (hl : bl.length ≠ 8) :
    Calls Try.prog 32 #[.pointer (some ⟨B, 0, none⟩), .pointer (some ⟨b, 0, none⟩), .pointer (some ⟨K, 0, none⟩), .pointer (some ⟨C, 0, none⟩), .agg #[.int .i64 2, .int .i64 off, .slice bp bl.length bc, .slice pp ps.length pc]] w fun e w' => e = .returned (.bool true) ∧ RgPlayed w0 B b K C X g w' := by
  obtain ⟨W, hW, hgr, hs, hrow⟩ := box4r w (.int .i64 2) (.int .i64 off) (.slice bp bl.length bc) (.slice pp ps.length pc)
  have H := hid (h.more hgr); have HOk := hid hok; have HG := hid hg; have HP := hid hp; have HFit := hid hp.fits; have HIn := hid hin
  have c0 : W.cell? ⟨w.heap.size, 0, none⟩ = some (.int .i64 2) := hrow.cell (k := 0) (by omega)
  have c1 : W.cell? ⟨w.heap.size, 1, none⟩ = some (.int .i64 off) := hrow.cell (k := 1) (by omega)
  have c2 : W.cell? ⟨w.heap.size, 2, none⟩ = some (.slice bp bl.length bc) := hrow.cell (k := 2) (by omega)
  have c3 : W.cell? ⟨w.heap.size, 3, none⟩ = some (.slice pp ps.length pc) := hrow.cell (k := 3) (by omega)
  have HSz := hid hs
  have HRow := hid hrow
  have HBx := hid (show w.heap.size ≠ B ∧ w.heap.size ≠ K ∧ w.heap.size ≠ C from by have := h.m.lt; have := h.k.lt; have := h.c.lt; omega)
  obtain ⟨i0, hi, hz0, hz1, hz2⟩ := info_parts info_u8
  have Hi := hid hi; have Hz0 := hid hz0; have Hz1 := hid hz1; have Hz2 := hid hz2
  clear hi hz0 hz1 hz2
  have HLn := hid hl
  clear hl
  clear h hok hg hgr hs hrow hp hin
  go_enter Try.func32, Try.ntmps32
  go_wp2_with (first
    | (go_at_call 20; refine (vNew B pp pc ps _ M H.out.m HOk.out.n1 hps (HP.out.grown H.out.g)).mono ?_; rintro e w1 ⟨rfl, ⟨f1, hv1⟩, g1⟩; have HV1 := hid hv1; have G1 := hid g1; replace c0 := g1.cell c0 (by simp); replace c1 := g1.cell c1 (by simp); replace c2 := g1.cell c2 (by simp); replace c3 := g1.cell c3 (by simp); clear hv1 g1)
    | (go_at_call 21; refine (rvNew b pp ps.length pc _ hps).mono ?_; rintro e w2 ⟨rfl, hu2, g2⟩; have HX := hid (RX.start H.out HV1.out G1.out hu2 g2); have G2 := hid (G1.out.trans g2); replace c0 := g2.cell c0 (by simp); replace c1 := g2.cell c1 (by simp); replace c2 := g2.cell c2 (by simp); replace c3 := g2.cell c3 (by simp); clear hu2 g2))
  have H0 := hid (HX.out.more (grownBy_drew w2 none))
  have HG0 := hid ((grownBy_drew w2 none).trans (World.grownBy_alloc w2.drew (.cells #[] 5) none))
  have H0a := hid (HX.out.more HG0.out)
  have HbA := hid (show w2.heap.size ≤ (w2.drew.alloc (.cells #[] 5)).heap.size by simp)
  have G2s := hid G2.out.size
  have q2 : w2.drew.cell? ⟨w.heap.size, 2, none⟩ = some (.slice bp bl.length bc) := c2
  have q2a : (w2.alloc (.cells #[] 5)).drew.cell? ⟨w.heap.size, 2, none⟩ = some (.slice bp bl.length bc) := (World.grownBy_alloc w2 (.cells #[] 5) none).cell c2 (by simp)
  clear c0 c1 c2 c3
  go_region_held3 (fun w' => w'.cell? ⟨w.heap.size, 2, none⟩ = some (.slice bp bl.length bc)) (first | exact (by assumption) | go_keep)
    (first
      | (go_at_call 46; obtain ⟨fv, hfv⟩ := HA.out.v; refine (rgAnswer_len _ _ B _ ps 0 _ fv K g _ hfv HA.out.k HG.out pv bl.length cv HLn.out).mono ?_; rintro e wp ⟨rfl, gp⟩; have HX3 := hid (HA.out.more gp); have q4 := gp.cell q3 (by simp); clear gp hfv)
      | (go_at_call 82; refine (rcAnswer_len _ _ C bp bl.length bc HLn.out).mono ?_; rintro e wq ⟨rfl, rfl⟩)
      | (refine step_ap_in (by rfl) _ _ (by rfl) w2.heap.size i0 Hi.out Hz0.out Hz1.out Hz2.out _ (by rfl) (World.ownsRow_made w2.drew #[] 0 (Nat.le_refl _) (by unfold maxLen; omega) (by simp)) bp bc bl (by rfl) (by omega) HbA.out (fun k hk => (HIn.out.grown H0a.out.g).at hk) ?_; intro v' wa hown hgrow; obtain ⟨pv, cv, rfl⟩ := ownsRow_slice hown; have hga := ((World.grownBy_alloc w2.drew (.cells #[] 5) none).andThen hgrow (fun j hj => by cases hj; exact .inl (Nat.le_refl _))); have HA := hid (H0.out.more hga); have HAo := hid hown; have q3 := hga.cell q2 (by simp); have HRwA := hid (Row.grown (Row.grown HRow.out G2.out (by simp)) ((grownBy_drew w2 none).trans hga) (by simp)); clear hown hgrow hga))
  all_goals go_wp2
  all_goals go_ret
  all_goals exact ⟨rfl, _, g, by first | exact HX3.out.rs | exact (HX3.out.more (grownBy_drewN _ _ none)).rs | exact (HX3.out.more (grownBy_drew _ none)).rs, HOk.out, HG.out, rfl, .inl ⟨rfl, rfl⟩⟩
set_option maxRecDepth 100000 in
theorem rgPlay2n (h : RS w0 w B b K C M g) (hok : M.ok X) (hg : g.ok) (hp : PokesIn w0 pp ps) (hps : ps.length ≤ 64) (hin : InBytes w0 bp bl) (hbl : bl.length ≤ 140737488351232) (hoff : off ≤ 9223372036854775807) (hl : bl.length = 8) (ho : g.opn = 0) :
    Calls Try.prog 32 #[.pointer (some ⟨B, 0, none⟩), .pointer (some ⟨b, 0, none⟩), .pointer (some ⟨K, 0, none⟩), .pointer (some ⟨C, 0, none⟩), .agg #[.int .i64 2, .int .i64 off, .slice bp bl.length bc, .slice pp ps.length pc]] w fun e w' => e = .returned (.bool true) ∧ RgPlayed w0 B b K C X g w' := by
  obtain ⟨W, hW, hgr, hs, hrow⟩ := box4r w (.int .i64 2) (.int .i64 off) (.slice bp bl.length bc) (.slice pp ps.length pc)
  have H := hid (h.more hgr); have HOk := hid hok; have HG := hid hg; have HP := hid hp; have HFit := hid hp.fits; have HIn := hid hin
  have c0 : W.cell? ⟨w.heap.size, 0, none⟩ = some (.int .i64 2) := hrow.cell (k := 0) (by omega)
  have c1 : W.cell? ⟨w.heap.size, 1, none⟩ = some (.int .i64 off) := hrow.cell (k := 1) (by omega)
  have c2 : W.cell? ⟨w.heap.size, 2, none⟩ = some (.slice bp bl.length bc) := hrow.cell (k := 2) (by omega)
  have c3 : W.cell? ⟨w.heap.size, 3, none⟩ = some (.slice pp ps.length pc) := hrow.cell (k := 3) (by omega)
  have HSz := hid hs
  have HRow := hid hrow
  have HBx := hid (show w.heap.size ≠ B ∧ w.heap.size ≠ K ∧ w.heap.size ≠ C from by have := h.m.lt; have := h.k.lt; have := h.c.lt; omega)
  obtain ⟨i0, hi, hz0, hz1, hz2⟩ := info_parts info_u8
  have Hi := hid hi; have Hz0 := hid hz0; have Hz1 := hid hz1; have Hz2 := hid hz2
  clear hi hz0 hz1 hz2
  have HLn := hid hl
  clear hl
  clear h hok hg hgr hs hrow hp hin
  go_enter Try.func32, Try.ntmps32
  go_wp2_with (first
    | (go_at_call 20; refine (vNew B pp pc ps _ M H.out.m HOk.out.n1 hps (HP.out.grown H.out.g)).mono ?_; rintro e w1 ⟨rfl, ⟨f1, hv1⟩, g1⟩; have HV1 := hid hv1; have G1 := hid g1; replace c0 := g1.cell c0 (by simp); replace c1 := g1.cell c1 (by simp); replace c2 := g1.cell c2 (by simp); replace c3 := g1.cell c3 (by simp); clear hv1 g1)
    | (go_at_call 21; refine (rvNew b pp ps.length pc _ hps).mono ?_; rintro e w2 ⟨rfl, hu2, g2⟩; have HX := hid (RX.start H.out HV1.out G1.out hu2 g2); have G2 := hid (G1.out.trans g2); replace c0 := g2.cell c0 (by simp); replace c1 := g2.cell c1 (by simp); replace c2 := g2.cell c2 (by simp); replace c3 := g2.cell c3 (by simp); clear hu2 g2))
  have H0 := hid (HX.out.more (grownBy_drew w2 none))
  have HG0 := hid ((grownBy_drew w2 none).trans (World.grownBy_alloc w2.drew (.cells #[] 5) none))
  have H0a := hid (HX.out.more HG0.out)
  have HbA := hid (show w2.heap.size ≤ (w2.drew.alloc (.cells #[] 5)).heap.size by simp)
  have G2s := hid G2.out.size
  have q2 : w2.drew.cell? ⟨w.heap.size, 2, none⟩ = some (.slice bp bl.length bc) := c2
  have q2a : (w2.alloc (.cells #[] 5)).drew.cell? ⟨w.heap.size, 2, none⟩ = some (.slice bp bl.length bc) := (World.grownBy_alloc w2 (.cells #[] 5) none).cell c2 (by simp)
  clear c0 c1 c2 c3
  go_region_held3 (fun w' => w'.cell? ⟨w.heap.size, 2, none⟩ = some (.slice bp bl.length bc)) (first | exact (by assumption) | go_keep)
    (first
      | (go_at_call 46; obtain ⟨fv, hfv⟩ := HA.out.v; refine (rgAnswer_none _ _ B _ ps 0 _ fv K g _ hfv HA.out.k HG.out pv bl.length cv HLn.out ho).mono ?_; rintro e wp ⟨rfl, gp⟩; have HX3 := hid (HA.out.more gp); have q4 := gp.cell q3 (by simp); clear gp hfv)
      | (go_at_call 82; refine (rcAnswer_none _ _ C g HX3.out.c HG.out ho bp bl.length bc HLn.out).mono ?_; rintro e wq ⟨rfl, gq⟩; have HX4 := hid (HX3.out.more gq); have q5 := gq.cell q4 (by simp); clear gq)
      | (refine step_ap_in (by rfl) _ _ (by rfl) w2.heap.size i0 Hi.out Hz0.out Hz1.out Hz2.out _ (by rfl) (World.ownsRow_made w2.drew #[] 0 (Nat.le_refl _) (by unfold maxLen; omega) (by simp)) bp bc bl (by rfl) (by omega) HbA.out (fun k hk => (HIn.out.grown H0a.out.g).at hk) ?_; intro v' wa hown hgrow; obtain ⟨pv, cv, rfl⟩ := ownsRow_slice hown; have hga := ((World.grownBy_alloc w2.drew (.cells #[] 5) none).andThen hgrow (fun j hj => by cases hj; exact .inl (Nat.le_refl _))); have HA := hid (H0.out.more hga); have HAo := hid hown; have q3 := hga.cell q2 (by simp); have HRwA := hid (Row.grown (Row.grown HRow.out G2.out (by simp)) ((grownBy_drew w2 none).trans hga) (by simp)); clear hown hgrow hga))
  all_goals go_wp2
  all_goals go_ret
  all_goals exact ⟨rfl, _, g, HX4.out.rs, HOk.out, HG.out, rfl, .inl ⟨rfl, rfl⟩⟩
set_option maxRecDepth 100000 in
theorem rgPlay2y (h : RS w0 w B b K C M g) (hok : M.ok X) (hg : g.ok) (hp : PokesIn w0 pp ps) (hps : ps.length ≤ 64) (hin : InBytes w0 bp bl) (hbl : bl.length ≤ 140737488351232) (hoff : off ≤ 9223372036854775807) (hl : bl.length = 8) (ho : g.opn ≠ 0) :
    Calls Try.prog 32 #[.pointer (some ⟨B, 0, none⟩), .pointer (some ⟨b, 0, none⟩), .pointer (some ⟨K, 0, none⟩), .pointer (some ⟨C, 0, none⟩), .agg #[.int .i64 2, .int .i64 off, .slice bp bl.length bc, .slice pp ps.length pc]] w fun e w' => e = .returned (.bool true) ∧ RgPlayed w0 B b K C X g w' := by
  obtain ⟨W, hW, hgr, hs, hrow⟩ := box4r w (.int .i64 2) (.int .i64 off) (.slice bp bl.length bc) (.slice pp ps.length pc)
  have H := hid (h.more hgr); have HOk := hid hok; have HG := hid hg; have HP := hid hp; have HFit := hid hp.fits; have HIn := hid hin
  have c0 : W.cell? ⟨w.heap.size, 0, none⟩ = some (.int .i64 2) := hrow.cell (k := 0) (by omega)
  have c1 : W.cell? ⟨w.heap.size, 1, none⟩ = some (.int .i64 off) := hrow.cell (k := 1) (by omega)
  have c2 : W.cell? ⟨w.heap.size, 2, none⟩ = some (.slice bp bl.length bc) := hrow.cell (k := 2) (by omega)
  have c3 : W.cell? ⟨w.heap.size, 3, none⟩ = some (.slice pp ps.length pc) := hrow.cell (k := 3) (by omega)
  have HSz := hid hs
  have HRow := hid hrow
  have HBx := hid (show w.heap.size ≠ B ∧ w.heap.size ≠ K ∧ w.heap.size ≠ C from by have := h.m.lt; have := h.k.lt; have := h.c.lt; omega)
  obtain ⟨i0, hi, hz0, hz1, hz2⟩ := info_parts info_u8
  have Hi := hid hi; have Hz0 := hid hz0; have Hz1 := hid hz1; have Hz2 := hid hz2
  clear hi hz0 hz1 hz2
  have HGo := hid (Rg.answer_ok hg M bl)
  have HMo := hid (Rg.answer_mok (g := g) hok bl)
  have HMf := hid (Rg.answer_mfn g M bl)
  have HSt := hid (show RgStep g (g.answer M bl).2.2 from by
    have e1 : (g.answer M bl).2.2 = g.laid := by unfold Rg.answer; rw [if_neg (by omega), if_neg ho]
    rw [e1]; exact .inr (.inr ⟨rfl, rfl, ho⟩))
  obtain ⟨M2, hM2⟩ : ∃ M2, (g.answer M bl).2.1 = M2 := ⟨_, rfl⟩
  obtain ⟨g2, hg2⟩ : ∃ g2, (g.answer M bl).2.2 = g2 := ⟨_, rfl⟩
  rw [hg2] at HGo HMf HSt
  rw [hM2] at HMo
  have HM2 := hid hM2; have HG2 := hid hg2
  clear hM2 hg2
  have HLn := hid hl
  clear hl
  clear h hok hg hgr hs hrow hp hin
  go_enter Try.func32, Try.ntmps32
  go_wp2_with (first
    | (go_at_call 20; refine (vNew B pp pc ps _ M H.out.m HOk.out.n1 hps (HP.out.grown H.out.g)).mono ?_; rintro e w1 ⟨rfl, ⟨f1, hv1⟩, g1⟩; have HV1 := hid hv1; have G1 := hid g1; replace c0 := g1.cell c0 (by simp); replace c1 := g1.cell c1 (by simp); replace c2 := g1.cell c2 (by simp); replace c3 := g1.cell c3 (by simp); clear hv1 g1)
    | (go_at_call 21; refine (rvNew b pp ps.length pc _ hps).mono ?_; rintro e w2 ⟨rfl, hu2, g2⟩; have HX := hid (RX.start H.out HV1.out G1.out hu2 g2); have G2 := hid (G1.out.trans g2); replace c0 := g2.cell c0 (by simp); replace c1 := g2.cell c1 (by simp); replace c2 := g2.cell c2 (by simp); replace c3 := g2.cell c3 (by simp); clear hu2 g2))
  have H0 := hid (HX.out.more (grownBy_drew w2 none))
  have HG0 := hid ((grownBy_drew w2 none).trans (World.grownBy_alloc w2.drew (.cells #[] 5) none))
  have H0a := hid (HX.out.more HG0.out)
  have HbA := hid (show w2.heap.size ≤ (w2.drew.alloc (.cells #[] 5)).heap.size by simp)
  have G2s := hid G2.out.size
  have q2 : w2.drew.cell? ⟨w.heap.size, 2, none⟩ = some (.slice bp bl.length bc) := c2
  have q2a : (w2.alloc (.cells #[] 5)).drew.cell? ⟨w.heap.size, 2, none⟩ = some (.slice bp bl.length bc) := (World.grownBy_alloc w2 (.cells #[] 5) none).cell c2 (by simp)
  clear c0 c1 c2 c3
  go_region_held3 (fun w' => w'.cell? ⟨w.heap.size, 2, none⟩ = some (.slice bp bl.length bc)) (first | exact (by assumption) | go_keep)
    (first
      | (go_at_call 46; obtain ⟨fv, hfv⟩ := HA.out.v; obtain ⟨L, hL, hf⟩ := HA.out.r; have HF := hid hf; have HLb := hid (hL.offRow HRwA.out (by decide) (by decide) (by decide) (by decide)); have hby := ap_isBytes HAo.out HA.out.m; rw [HLn.out] at hby; refine (rgAnswer_yes' _ _ B _ ps 0 _ fv K g _ M X hfv HA.out.m HOk.out HA.out.k HA.out.rgk HG.out pv cv bl hby HLn.out ho).mono ?_; rw [HM2.out, HG2.out]; rintro e wp ⟨rfl, hp⟩; have HX3 := hid (HA.out.ans hp); have HL3 := hid (HA.out.refAns hL hp); have q4 := hp.chg.cell q3 (by rintro (e | e); (exact HBx.out.1 e); (exact HBx.out.2.1 e)); clear hp hfv hL hf hby)
      | (go_at_call 82; refine (rcAnswer_yes' _ b pp pc ps 0 _ M L C g HX3.out.u HL3.out HX3.out.c HG.out ho bp bc bl HLn.out (HIn.out.apart HX3.out.g (fun k hk => (HF.out k hk).1))).mono ?_; rw [HM2.out, HG2.out]; rintro e wq ⟨rfl, hq⟩; have HX4 := hid (HX3.out.rans HL3.out HF.out hq); have q5 := hq.chg.cell q4 (by rintro (e | e); (exact HLb.out e); (exact HBx.out.2.2 e)); clear hq)
      | (refine step_ap_in (by rfl) _ _ (by rfl) w2.heap.size i0 Hi.out Hz0.out Hz1.out Hz2.out _ (by rfl) (World.ownsRow_made w2.drew #[] 0 (Nat.le_refl _) (by unfold maxLen; omega) (by simp)) bp bc bl (by rfl) (by omega) HbA.out (fun k hk => (HIn.out.grown H0a.out.g).at hk) ?_; intro v' wa hown hgrow; obtain ⟨pv, cv, rfl⟩ := ownsRow_slice hown; have hga := ((World.grownBy_alloc w2.drew (.cells #[] 5) none).andThen hgrow (fun j hj => by cases hj; exact .inl (Nat.le_refl _))); have HA := hid (H0.out.more hga); have HAo := hid hown; have q3 := hga.cell q2 (by simp); have HRwA := hid (Row.grown (Row.grown HRow.out G2.out (by simp)) ((grownBy_drew w2 none).trans hga) (by simp)); clear hown hgrow hga))
  all_goals go_wp2
  all_goals go_ret
  all_goals exact ⟨rfl, M2, g2, HX4.out.rs, HMo.out, HGo.out, HMf.out, HSt.out⟩
set_option maxRecDepth 100000 in
theorem rgPlay3 (h : RS w0 w B b K C M g) (hok : M.ok X) (hg : g.ok) (hp : PokesIn w0 pp ps) (hps : ps.length ≤ 64) (hin : InBytes w0 bp bl) (hbl : bl.length ≤ 140737488351232) (hoff : off ≤ 9223372036854775807) (x0 : (x == 0) = false) (x1 : (x == 1) = false) (x2 : (x == 2) = false) :
    Calls Try.prog 32 #[.pointer (some ⟨B, 0, none⟩), .pointer (some ⟨b, 0, none⟩), .pointer (some ⟨K, 0, none⟩), .pointer (some ⟨C, 0, none⟩), .agg #[.int .i64 x, .int .i64 off, .slice bp bl.length bc, .slice pp ps.length pc]] w fun e w' => e = .returned (.bool true) ∧ RgPlayed w0 B b K C X g w' := by
  obtain ⟨W, hW, hgr, hs, hrow⟩ := box4r w (.int .i64 x) (.int .i64 off) (.slice bp bl.length bc) (.slice pp ps.length pc)
  have H := hid (h.more hgr); have HOk := hid hok; have HG := hid hg; have HP := hid hp; have HFit := hid hp.fits; have HIn := hid hin
  have c0 : W.cell? ⟨w.heap.size, 0, none⟩ = some (.int .i64 x) := hrow.cell (k := 0) (by omega)
  have c1 : W.cell? ⟨w.heap.size, 1, none⟩ = some (.int .i64 off) := hrow.cell (k := 1) (by omega)
  have c2 : W.cell? ⟨w.heap.size, 2, none⟩ = some (.slice bp bl.length bc) := hrow.cell (k := 2) (by omega)
  have c3 : W.cell? ⟨w.heap.size, 3, none⟩ = some (.slice pp ps.length pc) := hrow.cell (k := 3) (by omega)
  have HSz := hid hs
  have HRow := hid hrow
  have HBx := hid (show w.heap.size ≠ B ∧ w.heap.size ≠ K ∧ w.heap.size ≠ C from by have := h.m.lt; have := h.k.lt; have := h.c.lt; omega)
  obtain ⟨M2, hM2⟩ : ∃ M2, (M.write 0 off bl).2 = M2 := ⟨_, rfl⟩
  obtain ⟨r, hr⟩ : ∃ r, (M.write 0 off bl).1 = r := ⟨_, rfl⟩
  have HMo := hid (show M2.ok X from hM2 ▸ Mach.write_ok hok 0 off bl)
  have HM2 := hid hM2; have HR := hid hr
  have t1 : (r == r) = true := by simp
  clear hM2 hr
  clear h hok hg hgr hs hrow hp hin
  go_enter Try.func32, Try.ntmps32
  go_wp2_with (first
    | (go_at_call 20; refine (vNew B pp pc ps _ M H.out.m HOk.out.n1 hps (HP.out.grown H.out.g)).mono ?_; rintro e w1 ⟨rfl, ⟨f1, hv1⟩, g1⟩; have HV1 := hid hv1; have G1 := hid g1; replace c0 := g1.cell c0 (by simp); replace c1 := g1.cell c1 (by simp); replace c2 := g1.cell c2 (by simp); replace c3 := g1.cell c3 (by simp); clear hv1 g1)
    | (go_at_call 21; refine (rvNew b pp ps.length pc _ hps).mono ?_; rintro e w2 ⟨rfl, hu2, g2⟩; have HX := hid (RX.start H.out HV1.out G1.out hu2 g2); have G2 := hid (G1.out.trans g2); replace c0 := g2.cell c0 (by simp); replace c1 := g2.cell c1 (by simp); replace c2 := g2.cell c2 (by simp); replace c3 := g2.cell c3 (by simp); clear hu2 g2))
  have H0 := hid (HX.out.more (grownBy_drew w2 none))
  have HRw := hid (Row.grown (Row.grown HRow.out G2.out (by simp)) (grownBy_drew w2 none) (by simp))
  have q1 : w2.drew.cell? ⟨w.heap.size, 1, none⟩ = some (.int .i64 off) := c1
  have q2 : w2.drew.cell? ⟨w.heap.size, 2, none⟩ = some (.slice bp bl.length bc) := c2
  clear c0 c1 c2 c3
  go_region_held3 (fun w' => w'.cell? ⟨w.heap.size, 1, none⟩ = some (.int .i64 off) ∧ w'.cell? ⟨w.heap.size, 2, none⟩ = some (.slice bp bl.length bc)) (first | exact ⟨by assumption, by assumption⟩ | go_keep)
    (first
      | (go_at_call 15; obtain ⟨L, hL, hf⟩ := H0.out.r; have HF := hid hf; have HLb := hid (hL.offRow HRw.out (by decide) (by decide) (by decide) (by decide)); refine (Write_any B 0 off (.slice bp bl.length bc) bl _ M X H0.out.m HOk.out hoff (HIn.out.far H0.out.g H0.out.far.1 bc) (by omega)).mono ?_; rw [HR.out, HM2.out]; rintro e wp ⟨rfl, hm, gp⟩; have hans := (⟨hm, H0.out.k.grown gp (by simpa using H0.out.kb), Chg.of gp fun j e => .inl (.inl (Option.some.inj e).symm)⟩ : RgAns w2.drew B K M2 g wp); have HX3 := hid (H0.out.ans hans); have HL3 := hid (H0.out.refAns hL hans); have k1 := gp.cell q1 (by simpa using HBx.out.1); have k2 := gp.cell q2 (by simpa using HBx.out.1); clear hm gp hans hL hf)
      | (go_at_call 66; refine (rWrite b 0 off bp bc bl _ M L HL3.out (by omega) (HIn.out.apart HX3.out.g (fun k hk => (HF.out k hk).1))).mono ?_; rw [HR.out, HM2.out]; rintro e wq ⟨rfl, L', h4, n4, ch4, f4⟩; have k3 := ch4.cell k1 HLb.out; have k4 := ch4.cell k2 HLb.out; have HX4 := hid (HX3.out.rans HL3.out HF.out (⟨⟨L', h4, n4, f4⟩, HX3.out.c.chg ch4 (HL3.out.offRow HX3.out.c (by decide) (by decide) (by decide) (by decide)), ch4.mono fun q e => .inl e⟩ : RcAns wp b L M2 C g wq)); clear h4 n4 ch4 f4))
  all_goals go_wp2
  all_goals go_ret
  all_goals exact ⟨rfl, M2, g, HX4.out.rs, HMo.out, HG.out, rfl, .inl ⟨rfl, rfl⟩⟩
theorem rgPlay (h : RS w0 w B b K C M g) (hok : M.ok X) (hg : g.ok) (hp : PokesIn w0 pp ps) (hin : InBytes w0 bp bl) (hbl : bl.length ≤ 140737488351232) (hoff : off ≤ 9223372036854775807) :
    Calls Try.prog 32 #[.pointer (some ⟨B, 0, none⟩), .pointer (some ⟨b, 0, none⟩), .pointer (some ⟨K, 0, none⟩), .pointer (some ⟨C, 0, none⟩), .agg #[.int .i64 x, .int .i64 off, .slice bp bl.length bc, .slice pp ps.length pc]] w fun e w' => e = .returned (.bool true) ∧ RgPlayed w0 B b K C X g w' := by
  by_cases h64 : 64 < ps.length
  · exact rgPlay_long w0 w B b K C M g X x off bp bl bc pp ps pc h hok hg h64
  have hps : ps.length ≤ 64 := by omega
  by_cases e0 : x = 0
  · subst e0
    exact rgPlay0 w0 w B b K C M g X off bp bl bc pp ps pc h hok hg hp hps hin hbl hoff
  by_cases e1 : x = 1
  · subst e1
    cases hc : g.can with
    | false => exact rgPlay1n w0 w B b K C M g X off bp bl bc pp ps pc h hok hg hp hps hin hbl hoff hc
    | true => exact rgPlay1y w0 w B b K C M g X off bp bl bc pp ps pc h hok hg hp hps hin hbl hoff hc
  by_cases e2 : x = 2
  · subst e2
    by_cases hl : bl.length = 8
    · by_cases ho : g.opn = 0
      · exact rgPlay2n w0 w B b K C M g X off bp bl bc pp ps pc h hok hg hp hps hin hbl hoff hl ho
      · exact rgPlay2y w0 w B b K C M g X off bp bl bc pp ps pc h hok hg hp hps hin hbl hoff hl ho
    · exact rgPlay2l w0 w B b K C M g X off bp bl bc pp ps pc h hok hg hp hps hin hbl hoff hl
  exact rgPlay3 w0 w B b K C M g X x off bp bl bc pp ps pc h hok hg hp hps hin hbl hoff (by simp [e0]) (by simp [e1]) (by simp [e2])
end
end Go.Proofs.Ytgnihllnjaagcaa
