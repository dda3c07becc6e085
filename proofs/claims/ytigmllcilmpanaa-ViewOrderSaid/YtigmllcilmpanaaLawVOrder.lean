/-
  ViewOrder: for every input the law returns true, and what was there stays. No condition.
-/
import Derived.Test.YtigmllcilmpanaaVOrd
import Derived.Test.YtigmllcilmpanaaVOpen
import Derived.Deep.Cut
import Derived.Deep.QuietTactic
import Derived.BigQuiet
import Derived.ProofKit
import Derived.OpenShut
namespace Go.Proofs.Ytigmllcilmpanaa.lawViewOrder
open Go.ChangeShapes Go.WideShapes Go.ChangeAt Go.RowKit
set_option maxHeartbeats 4000000

theorem u8_nat {n : Int} (h : (Lit.int .u8 n).wf = true) : ∃ k : Nat, n = k ∧ k < 256 := by
  simp only [Lit.wf, Bool.and_eq_true, decide_eq_true_eq] at h
  have h1 : IntKind.u8.min = 0 := rfl
  have h2 : IntKind.u8.max = 255 := rfl
  rw [h1, h2] at h
  exact ⟨n.toNat, by omega, by omega⟩
theorem pokes_new (w : World) (t : Nat) (f s : List UInt8) (pf ps : Option Addr) (cf cs : Nat) (ht : t < 256) (hf : InBytes w pf f) (hs : InBytes w ps s) (lf : f.length ≤ 8) (ls : s.length ≤ 8) :
    PokesIn (w.alloc (.cells #[.int .i64 t, .int .i64 0, .int .i64 0, .slice pf f.length cf, .int .i64 t, .int .i64 0, .int .i64 0, .slice ps s.length cs] 62)) (some ⟨w.heap.size, 0, none⟩) [⟨t, 0, 0, f⟩, ⟨t, 0, 0, s⟩] := fun j hj => by
  have hb := heap_alloc_new w (.cells #[.int .i64 t, .int .i64 0, .int .i64 0, .slice pf f.length cf, .int .i64 t, .int .i64 0, .int .i64 0, .slice ps s.length cs] 62)
  have wft : (Lit.int .i64 (t : Int)).wf = true := WalkArith.wf_i64 (by omega)
  have wf0 : (Lit.int .i64 0).wf = true := WalkArith.wf_i64 (by omega)
  have hj' : j < 2 := hj
  have hg := World.grownBy_alloc w (.cells #[.int .i64 t, .int .i64 0, .int .i64 0, .slice pf f.length cf, .int .i64 t, .int .i64 0, .int .i64 0, .slice ps s.length cs] 62) none
  rcases (show j = 0 ∨ j = 1 by omega) with rfl | rfl
  · exact ⟨w.heap.size, 0, pf, cf, rfl, by simp, by rw [cell_of_row _ _ _ _ _ _ hb]; rfl, by rw [cell_of_row _ _ _ _ _ _ hb]; rfl, by rw [cell_of_row _ _ _ _ _ _ hb]; rfl, by rw [cell_of_row _ _ _ _ _ _ hb]; rfl, ⟨wft, wf0, wf0, by show f.length ≤ _; omega⟩, hf.grown hg⟩
  · exact ⟨w.heap.size, 0, ps, cs, rfl, by simp, by rw [cell_of_row _ _ _ _ _ _ hb]; rfl, by rw [cell_of_row _ _ _ _ _ _ hb]; rfl, by rw [cell_of_row _ _ _ _ _ _ hb]; rfl, by rw [cell_of_row _ _ _ _ _ _ hb]; rfl, ⟨wft, wf0, wf0, by show s.length ≤ _; omega⟩, hs.grown hg⟩
theorem New_one (w : World) : Calls Try.prog 11 #[.int .i64 1] w fun e w' => ∃ v, e = .returned (.tuple #[v, .int .i64 0]) ∧ NewMach w (upTo 1 1) v w' := New_yes 1 w (by omega) (by omega)
theorem Alloc_five (b : Nat) (w : World) (h : PM w b (upTo 1 1)) : Calls Try.prog 16 #[.pointer (some ⟨b, 0, none⟩), .int .i64 5] w (Left2 b w 0 0 five) := by
  have := Alloc_any b 5 w (upTo 1 1) 0 h (upTo_ok' 1 (by omega) (by omega))
  rwa [alloc_five] at this
set_option maxRecDepth 100000 in
theorem long (a : Nat) (f s : List UInt8) (pf ps : Option Addr) (cf cs : Nat) (w : World) (hfl : f.length ≤ 140737488351232) (hsl : s.length ≤ 140737488351232) (h : 8 < f.length ∨ 8 < s.length) :
    Calls Try.prog 10 #[.slice pf f.length cf, .slice ps s.length cs, .int .u8 a] w fun e w' => e = .returned (.bool true) ∧ w.grownBy w' none := by
  have hl : ∀ B W, PM W B five → Calls Try.prog 34 #[.pointer (some ⟨B, 0, none⟩)] W fun e w' => e = .returned (.int .i64 0) ∧ W.grownBy w' none := fun B W hM => by
    have := Left_any (some ⟨B, 0, none⟩) five W (hM.stops (by decide) (by decide)) (by decide)
    rwa [five_left] at this
  have HL := hid hl
  have hh : ((8 : Int) < f.length) ∨ (¬ (8 : Int) < f.length ∧ (8 : Int) < s.length) := by omega
  clear h hl
  rcases hh with h | ⟨h, h'⟩
  all_goals
    go_enter Try.func10, Try.ntmps10
    go_wp2_with (first
      | (go_at_call 11; refine (New_one _).mono ?_; rintro e w1 ⟨v, rfl, B, rfl, hB, hM1, hg1⟩; have HM1 := hid hM1; have HG1 := hid hg1; have HB := hid hB; clear hM1 hg1 hB)
      | (go_at_call 16; refine (Alloc_five _ _ HM1.out).mono ?_; rintro e w2 ⟨rfl, h2, g2⟩; have HM2 := hid h2; have HG2 := hid (grown_own HG1.out g2 HB.out); clear h2 g2)
      | (go_at_call 34; refine (HL.out _ _ HM2.out).mono ?_; rintro e w3 ⟨rfl, hg⟩; have HG3 := hid (HG2.out.trans hg); clear hg))
    go_ret
    exact ⟨rfl, HG3.out⟩
/-- the view stands in new memory -/
structure VS (w wr : World) (V G B : Nat) (S : Nat → Prop) (l : List PokeV) (k : Nat) (M : Mach) : Prop where
  v : ∃ f, VV wr V G B S l k 2 f
  m : PM wr B M
  g : w.grownBy wr none
  V : w.heap.size ≤ V
  G : w.heap.size ≤ G
  B : w.heap.size ≤ B
theorem VS.more {w wr W : World} {V G B : Nat} {S : Nat → Prop} {l : List PokeV} {k : Nat} {M : Mach} (h : VS w wr V G B S l k M) (hg : wr.grownBy W none) : VS w W V G B S l k M := by
  obtain ⟨f, hf⟩ := h.v
  exact ⟨⟨f, hf.grown hg⟩, h.m.grown hg (by simp), h.g.trans hg, h.V, h.G, h.B⟩
theorem VS.read {w wr W : World} {V G B : Nat} {S : Nat → Prop} {l : List PokeV} {k : Nat} {M : Mach} (h : VS w wr V G B S l k M) (hr : VRead wr V G B S l k 2 M W) : VS w W V G B S l (k + 1) (M.rews (due l k)) :=
  ⟨hr.view, hr.mach, hr.chg.grown h.g (fun j hj => by rcases hj with rfl | rfl | rfl; exact h.V; exact h.G; exact h.B), h.V, h.G, h.B⟩
theorem VS.lt {w wr : World} {V G B : Nat} {S : Nat → Prop} {l : List PokeV} {k : Nat} {M : Mach} (h : VS w wr V G B S l k M) : V < wr.heap.size ∧ G < wr.heap.size ∧ B < wr.heap.size := by
  obtain ⟨f, hf⟩ := h.v
  exact ⟨hf.foot_lt (.inl rfl), hf.foot_lt (.inr (.inl rfl)), h.m.lt⟩
theorem zs8_get (k : Nat) (h : k < 8) : zs8.getD k 0 = 0 := by
  have h' : ∀ k, k < 8 → zs8.getD k 0 = 0 := by decide
  exact h' k h
/-- the row behind a round -/
def wRow (f s : List UInt8) (j q : Nat) : Value := .int .u8 (if q < j then wantB f s q else zs8.getD q 0).toNat
theorem wRow_zero (f s : List UInt8) (q : Nat) : wRow f s 0 q = .int .u8 (zs8.getD q 0).toNat := by simp [wRow]
theorem wRow_at (f s : List UInt8) (j : Nat) : wRow f s j j = .int .u8 (zs8.getD j 0).toNat := by simp [wRow]
theorem wRow_s (f s : List UInt8) (j : Nat) (h : j < s.length) : wRow f s (j + 1) j = .int .u8 (s.getD j 0).toNat := by simp [wRow, wantB, h]
theorem wRow_f (f s : List UInt8) (j : Nat) (h : ¬ j < s.length) (h2 : j < f.length) : wRow f s (j + 1) j = .int .u8 (f.getD j 0).toNat := by simp [wRow, wantB, h, h2]
theorem wRow_o (f s : List UInt8) (j q : Nat) (h : q ≠ j) : wRow f s (j + 1) q = wRow f s j q := by
  unfold wRow
  by_cases hq : q < j
  · rw [if_pos hq, if_pos (by omega)]
  · rw [if_neg hq, if_neg (by omega)]
theorem wRow_n (f s : List UInt8) (j q : Nat) (hq : q < 8) (h : ¬ j < s.length) (h2 : ¬ j < f.length) : wRow f s (j + 1) q = wRow f s j q := by
  by_cases e : q = j
  · subst e; rw [wRow_at, zs8_get q hq]; simp [wRow, wantB, h, h2]
  · exact wRow_o f s j q e
theorem wRow_end (f s : List UInt8) (q : Nat) (hq : q < 8) : .int .u8 ((wantL f s).getD q 0).toNat = wRow f s 8 q := by unfold wRow; rw [wantL_getD f s q hq, if_pos hq]
theorem make8 (w : World) : (Instr.makeSlice 31 (.int .i64 8) (.int .i64 8)).run Try.prog w = .ok (.slice (some ⟨w.heap.size, 0, none⟩) 8 8) (w.alloc (.cells (madeCells #[.int .u8 0] 8) 5)) := u8_make w 8 (by omega)
theorem wpList_make8 {ops : Array Oper} {rest : List Oper} {o : Oper} {a : Act} {w : World} {Q : Exit → Act → World → Prop} (hgd : o.guard = none) (ho : o.op = .makeSlice 31 (.const (.int .i64 8)) (.const (.int .i64 8)))
    (h : ∀ w', Row w' w.heap.size 5 8 (fun k => .int .u8 (zs8.getD k 0).toNat) → w.grownBy w' none → wpList Try.prog ops Q rest (a.put o.dst (.slice (some ⟨w.heap.size, 0, none⟩) 8 8)) w') : wpList Try.prog ops Q (o :: rest) a w :=
  wpList_exec hgd (v := .slice (some ⟨w.heap.size, 0, none⟩) 8 8) (w' := w.alloc (.cells (madeCells #[.int .u8 0] 8) 5)) (by unfold execOp; simp [ho, Act.eval]; rw [make8 w]; rfl)
    (h _ ⟨_, heap_alloc_new w _, by rw [size_madeCells]; exact Nat.le_refl _, fun k hk => by
      have := made_row w k hk
      rw [cell_of_row _ _ _ _ _ _ (heap_alloc_new w _)] at this
      exact this⟩ (World.grownBy_alloc w _ none))
theorem VS.foot {w wr : World} {V G B : Nat} {S : Nat → Prop} {l : List PokeV} {k : Nat} {M : Mach} (h : VS w wr V G B S l k M) {g : Nat} (hg : wr.heap.size ≤ g) : (∀ k, vfoot V G S k → k < g) ∧ B < g ∧ w.heap.size ≤ g := by
  obtain ⟨f, hf⟩ := h.v
  exact ⟨fun k hk => Nat.lt_of_lt_of_le (hf.foot_lt hk) hg, Nat.lt_of_lt_of_le h.m.lt hg, Nat.le_trans h.g.size hg⟩
theorem VS.cell {w wr : World} {V G B : Nat} {S : Nat → Prop} {l : List PokeV} {k : Nat} {M : Mach} (h : VS w wr V G B S l k M) {g : Nat} (hg : (∀ k, vfoot V G S k → k < g) ∧ B < g ∧ w.heap.size ≤ g) (o : Nat) (v : Value) : VS w (wr.setCell ⟨g, o, none⟩ v) V G B S l k M := by
  obtain ⟨f, hf⟩ := h.v
  obtain ⟨h1, h2, h3⟩ := hg
  exact ⟨⟨f, hf.chg (S' := fun j => j = g) (Chg.of (grownBy_setCell wr g o none v) (fun j e => .inl (Option.some.inj e).symm)) (fun k hk e => by have := h1 k hk; omega)⟩,
    h.m.grown (grownBy_setCell wr g o none v) (by simp; omega), h.g.andThen (grownBy_setCell wr g o none v) (fun j e => by cases e; exact .inl h3), h.V, h.G, h.B⟩
theorem VS.wrote {w wr W : World} {V G B : Nat} {S : Nat → Prop} {l : List PokeV} {k : Nat} {M M' : Mach} (h : VS w wr V G B S l k M) (hm : PM W B M') (hg : wr.grownBy W (some B)) : VS w W V G B S l k M' := by
  obtain ⟨f, hf⟩ := h.v
  exact ⟨⟨f, hf.mach hg⟩, hm, h.g.andThen hg (fun j e => by cases e; exact .inl h.B), h.V, h.G, h.B⟩
theorem row_is {w : World} {g B : Nat} (h : Row w g 5 8 (fun k => .int .u8 (zs8.getD k 0).toNat)) (hB : g ≠ B) : IsBytes w B (.slice (some ⟨g, 0, none⟩) 8 8) zs8 :=
  .inr ⟨⟨g, 0, none⟩, 8, rfl, hB, fun k x hx => by
    obtain ⟨hk, rfl⟩ := List.getElem?_eq_some_iff.1 hx
    have e : (⟨g, 0, none⟩ : Addr).add k = ⟨g, k, none⟩ := by unfold Addr.add; split <;> simp_all
    rw [e, h.cell hk]
    simp [List.getD, List.getElem?_eq_getElem hk]⟩
theorem zs8_string {w : World} {q : Option Addr} {S : Nat → Prop} (h : KeptBytes w S q zs8) (c : Nat) (W : World) (hg : w.grownBy W none) : (convert 31 9 (.slice q 8 c)).run Try.prog W = .ok (.string ⟨zs8.toArray⟩) W := kept_string h c W hg
theorem read0 (V G B : Nat) (S : Nat → Prop) (l : List PokeV) (k : Nat) (f : Int → Option Value) (w : World) (M : Mach) (h : VV w V G B S l k 2 f) (hM : PM w B M) (hok : M.ok 0) (hf : ∀ p ∈ l, p.fits) (hk : k < 300) (hll : l.length ≤ 64) :
    Calls Try.prog 29 #[.pointer (some ⟨V, 0, none⟩), .int .i64 0, .int .i64 0, .int .i64 8] w fun e w' => ∃ v, e = .returned (.tuple #[v, .int .i64 ((M.rews (due l k)).read 0 0 8).2]) ∧ FreshB w ((M.rews (due l k)).read 0 0 8).1 v w' ∧ VRead w V G B S l k 2 M w' :=
  vRead V G B S l k 2 f 0 0 8 w M 0 h hM hok hf (by omega) hll (by omega)
set_option maxRecDepth 100000 in
theorem short (a : Nat) (f s : List UInt8) (pf ps : Option Addr) (cf cs : Nat) (w : World) (ha : a < 256) (hf : InBytes w pf f) (hs : InBytes w ps s) (lf : f.length ≤ 8) (ls : s.length ≤ 8) :
    Calls Try.prog 10 #[.slice pf f.length cf, .slice ps s.length cs, .int .u8 a] w fun e w' => e = .returned (.bool true) ∧ w.grownBy w' none := by
  obtain ⟨t, ht⟩ : ∃ t, a % 4 = t := ⟨_, rfl⟩
  have ht' : (a : Int) % 4 = (t : Int) := by omega
  have htl : t < 4 := by omega
  obtain ⟨l, hl⟩ : ∃ l, ([⟨t, 0, 0, f⟩, ⟨t, 0, 0, s⟩] : List PokeV) = l := ⟨_, rfl⟩
  have hl2 : l.length = 2 := by rw [← hl]; rfl
  have HP := hid (fun W (hg : w.grownBy W none) => hl ▸ pokes_new W t f s pf ps cf cs (by omega) (hf.grown hg) (hs.grown hg) lf ls)
  have HN := hid (fun B W pa cap (hM : PM W B five) (hp : PokesIn W pa l) => hl2 ▸ vNew B pa cap l W five hM (by decide) (by omega) hp)
  have hfit0 := fun (W : World) (pa : Option Addr) (hp : PokesIn W pa l) => hp.fits
  have HD0 := hid (fun (k : Nat) (hk : k ≠ t) => hl ▸ due_none (t := t) (f := f) (s := s) (k := k) (by omega))
  have HD1 := hid (hl ▸ due_both (t := t) (f := f) (s := s) (k := t) rfl)
  have HD2 := hid (show five.rews (due l t) = ord f s by rw [HD1.out]; exact hl ▸ rews_ord t f s lf ls)
  have HRest := hid (show restN l (t + 2) = 0 by rw [← hl]; exact rest_none (by omega))
  have HOrd := hid (ord_ok t f s lf ls)
  have HF := hid hf; have HS := hid hs
  clear hl ht hf hs
  have hd1 : ¬ (8 : Int) < f.length := by omega
  have hd2 : ¬ (8 : Int) < s.length := by omega
  go_enter Try.func10, Try.ntmps10
  go_wp2_with (first
    | (go_at_call 11; refine (New_one _).mono ?_; rintro e w1 ⟨v, rfl, B, rfl, hB, hM1, hg1⟩; have HM1 := hid hM1; have HG1 := hid hg1; have HB := hid hB; clear hM1 hg1 hB)
    | (go_at_call 16; refine (Alloc_five _ _ HM1.out).mono ?_; rintro e w2 ⟨rfl, h2, g2⟩; have HM2 := hid h2; have HG2 := hid (grown_own HG1.out g2 HB.out); clear h2 g2)
    | (go_at_call 21; refine (HN.out _ _ _ _ (HM2.out.alloc _) (HP.out _ HG2.out)).mono ?_; rintro e w3 ⟨rfl, hv, hg⟩; have HV := hid hv; have HG3 := hid hg; clear hv hg))
  obtain ⟨V, hVe⟩ : ∃ V, (w2.alloc (.cells #[.int .i64 t, .int .i64 0, .int .i64 0, .slice pf f.length cf, .int .i64 t, .int .i64 0, .int .i64 0, .slice ps s.length cs] 62)).heap.size + 1 = V := ⟨_, rfl⟩
  have hVs : V = w2.heap.size + 1 + 1 := by rw [← hVe]; simp
  obtain ⟨G, hGe⟩ : ∃ G, (w2.alloc (.cells #[.int .i64 t, .int .i64 0, .int .i64 0, .slice pf f.length cf, .int .i64 t, .int .i64 0, .int .i64 0, .slice ps s.length cs] 62)).heap.size = G := ⟨_, rfl⟩
  have hGs : G = w2.heap.size + 1 := by rw [← hGe]; simp
  obtain ⟨S, hSe⟩ : ∃ S : Nat → Prop, (fun k => (w2.alloc (.cells #[.int .i64 t, .int .i64 0, .int .i64 0, .slice pf f.length cf, .int .i64 t, .int .i64 0, .int .i64 0, .slice ps s.length cs] 62)).heap.size + 2 ≤ k ∧ k < w3.heap.size) = S := ⟨_, rfl⟩
  have hsz := HG2.out.size
  have HV0 : Hid (VS w w3 V G B S l 0 five) := hid ⟨by rw [← hVe, ← hGe, ← hSe]; exact HV.out, (HM2.out.alloc _).grown HG3.out (by simp), (HG2.out.trans (World.grownBy_alloc w2 _ none)).trans HG3.out, by omega, by omega, HB.out⟩
  have HFt := hid (hfit0 _ _ (HP.out _ HG2.out))
  rw [← hVs]
  clear hVe hGe hSe hVs hGs hsz HV HG3 HM2 HN HP hfit0
  go_loopw [12] (fun x wr => ∃ k : Nat, x = .int .i64 k ∧ k ≤ t ∧ VS w wr V G B S l k five) (fun x _ => t - (intOf x).toNat)
  case atStart => exact ⟨0, rfl, by omega, HV0.out⟩
  case round =>
    obtain ⟨k, rfl, hk, hv⟩ := hrel
    have HV := hid hv
    clear hv HV0
    have hk0 : (0 : Int) ≤ k := by omega
    by_cases hkt : k < t
    · have hkt' : (k : Int) < t := by omega
      have hd0 := HD0.out k (by omega)
      go_upto_region 15 with (go_at_call 29; obtain ⟨fv, hfv⟩ := HV.out.v; refine (read0 _ _ _ _ _ _ fv _ _ hfv HV.out.m five_ok HFt.out (by omega) (by omega)).mono ?_; rw [hd0]; rw [show five.rews [] = five from rfl, five_read]; rintro e w5 ⟨v5, rfl, ⟨p5, c5, rfl, hk5⟩, hr5⟩; have HV5 := hid (HV.out.read hr5); rw [hd0] at HV5; have HK5 := hid hk5; clear hk5 hr5 hfv)
      have m0 := make8
      have hl8 : zs8.length = 8 := rfl
      have k1 := zs8_string HK5.out c5 w5 (World.grownBy.refl _ _)
      have k2 := zs8_string HK5.out c5 w5.drew (grownBy_drew _ _)
      have k3 := zs8_string HK5.out c5 (w5.alloc (.cells (madeCells #[.int .u8 0] 8) 5)) (World.grownBy_alloc _ _ _)
      have k4 := zs8_string HK5.out c5 (w5.alloc (.cells (madeCells #[.int .u8 0] 8) 5)).drew ((World.grownBy_alloc _ _ _).trans (grownBy_drew _ _))
      have j1 := made_string w5 (w5.alloc (.cells (madeCells #[.int .u8 0] 8) 5)) (World.grownBy.refl _ _)
      have j2 := made_string w5 (w5.alloc (.cells (madeCells #[.int .u8 0] 8) 5)).drew (grownBy_drew _ _)
      rw [hl8]
      go_region
      clear m0 k1 k2 k3 k4 j1 j2
      go_wp2
      go_roundw
      case rel => exact ⟨k + 1, by go_num, by omega, HV5.out.more ((World.grownBy_alloc w5 _ none).trans (grownBy_drew _ none))⟩
      case measure => simp [intOf]; omega
    · obtain rfl : k = t := by omega
      have hge : ¬ (k : Int) < k := by omega
      have HS4 := hid (HV.out.foot (Nat.le_refl _))
      obtain ⟨g, hge⟩ : ∃ g, wr.heap.size = g := ⟨_, rfl⟩
      rw [hge] at HS4
      go_wp2_with (refine wpList_make8 rfl rfl ?_; intro w4 hr4 hg4; rw [hge] at hr4; rw [hge]; have HR4 := hid hr4; have HV4 := hid (HV.out.more hg4); clear hr4 hg4)
      clear HV hge
      go_loopw [16] (fun x wr => ∃ j : Nat, x = .int .i64 j ∧ j ≤ 8 ∧ Row wr g 5 8 (wRow f s j) ∧ VS w wr V G B S l k five) (fun x _ => 8 - (intOf x).toNat)
      case atStart => exact ⟨0, rfl, by omega, HR4.out.congr (fun q _ => wRow_zero f s q), HV4.out⟩
      case round =>
        obtain ⟨j, rfl, hj, hr, hv⟩ := hrel
        have HR := hid hr; have HV := hid hv
        clear hr hv HR4 HV4
        have hj0 : (0 : Int) ≤ j := by omega
        by_cases hj8 : j < 8
        · have hj8' : (j : Int) < 8 := by omega
          have hc0 := HR.out.cell hj8
          have hz0 := HR.out.frozen j
          rw [wRow_at] at hc0
          by_cases hjs : j < s.length
          · have hjs' : (j : Int) < s.length := by omega
            obtain ⟨sb, so, hpe, hcs⟩ := (HS.out.grown HV.out.g).at hjs
            go_wp2
            go_roundw
            case rel => exact ⟨j + 1, by go_num, by omega, HR.out.set (by rw [wRow_s f s j hjs]; simp [List.getD, hjs]) (fun q _ hne => wRow_o f s j q hne), HV.out.cell HS4.out _ _⟩
            case measure => simp [intOf]; omega
          · have hjs' : ¬ (j : Int) < s.length := by omega
            by_cases hjf : j < f.length
            · have hjf' : (j : Int) < f.length := by omega
              obtain ⟨sb, so, hpe, hcs⟩ := (HF.out.grown HV.out.g).at hjf
              go_wp2
              go_roundw
              case rel => exact ⟨j + 1, by go_num, by omega, HR.out.set (by rw [wRow_f f s j hjs hjf]; simp [List.getD, hjf]) (fun q _ hne => wRow_o f s j q hne), HV.out.cell HS4.out _ _⟩
              case measure => simp [intOf]; omega
            · have hjf' : ¬ (j : Int) < f.length := by omega
              go_wp2
              go_roundw
              case rel => exact ⟨j + 1, by go_num, by omega, HR.out.congr (fun q hq => wRow_n f s j q hq hjs hjf), HV.out⟩
              case measure => simp [intOf]; omega
        · obtain rfl : j = 8 := by omega
          have hj8' : ¬ ((8 : Nat) : Int) < 8 := by omega
          clear hj8 hj8'
          have HRow := hid (HR.out.congr (X' := fun q => .int .u8 ((wantL f s).getD q 0).toNat) (fun q hq => wRow_end f s q hq))
          clear HR
          have hd0 := HD2.out
          go_upto_region 26 with (go_at_call 29; obtain ⟨fv, hfv⟩ := HV.out.v; refine (read0 _ _ _ _ _ _ fv _ _ hfv HV.out.m five_ok HFt.out (by omega) (by omega)).mono ?_; rw [hd0, ord_read]; rintro e w5 ⟨v5, rfl, ⟨p5, c5, rfl, hk5⟩, hr5⟩; have HV5 := hid (HV.out.read hr5); rw [hd0] at HV5; have HK5 := hid hk5; have HG5 := hid hr5.chg; clear hk5 hr5 hfv)
          have HRow5 := hid (HRow.out.chg HG5.out (fun e => by have h1 := HS4.out.1; have h2 := HS4.out.2.1; rcases e with e | e | e; (have := h1 _ (.inl rfl); omega); (have := h1 _ (.inr (.inl rfl)); omega); omega))
          have k1 := kept_string HK5.out c5 w5 (World.grownBy.refl _ _)
          rw [wantL_len] at k1
          have k2 := vconv_row w5 g 0 8 8 (wantL f s) (wantL_len f s) (fun q hq => by rw [Nat.zero_add]; exact HRow5.out.cell hq)
          rw [wantL_len]
          clear HRow HRow5 HK5 HG5 HV
          obtain ⟨M6, hM6⟩ : ∃ M6, ((ord f s).write 0 0 zs8).2 = M6 := ⟨_, rfl⟩
          obtain ⟨hz1, hz2⟩ := ord_zero f s
          have ho6 : M6.ok 0 := hM6 ▸ Mach.write_ok HOrd.out _ _ _
          rw [hM6] at hz2
          have hd1 := HD0.out (k + 1) (by omega)
          have HOr := HOrd.out
          have hre := HRest.out
          go_upto_region 30 with (first
            | (refine wpList_make8 rfl rfl ?_; intro w6 hr6 hg6; have HR6 := hid hr6; have HV6 := hid (HV5.out.more hg6); clear hr6 hg6 k1 k2)
            | (go_at_call 33; obtain ⟨fv, hfv⟩ := HV6.out.v; refine (vWrite _ _ _ _ _ _ _ fv 0 0 _ zs8 _ _ 0 hfv HV6.out.m HOr (by omega) (row_is HR6.out (by have := HV5.out.m.lt; omega)) (by show (8 : Nat) ≤ _; omega)).mono ?_; rw [hM6]; rintro e w7 ⟨rfl, hm7, hg7⟩; have HV7 := hid (HV6.out.wrote hm7 hg7); clear hm7 hg7 hfv)
            | (go_at_call 29; obtain ⟨fv, hfv⟩ := HV7.out.v; refine (read0 _ _ _ _ _ _ fv _ _ hfv HV7.out.m ho6 HFt.out (by omega) (by omega)).mono ?_; rw [hd1, show M6.rews [] = M6 from rfl, hz2]; rintro e w8 ⟨v8, rfl, ⟨p8, c8, rfl, hk8⟩, hr8⟩; have HV8 := hid (HV7.out.read hr8); have HK8 := hid hk8; clear hk8 hr8 hfv))
          have m0 := make8
          have hl8 : zs8.length = 8 := rfl
          have k1 := zs8_string HK8.out c8 w8 (World.grownBy.refl _ _)
          have k2 := zs8_string HK8.out c8 w8.drew (grownBy_drew _ _)
          have k3 := zs8_string HK8.out c8 (w8.alloc (.cells (madeCells #[.int .u8 0] 8) 5)) (World.grownBy_alloc _ _ _)
          have k4 := zs8_string HK8.out c8 (w8.alloc (.cells (madeCells #[.int .u8 0] 8) 5)).drew ((World.grownBy_alloc _ _ _).trans (grownBy_drew _ _))
          have j1 := made_string w8 (w8.alloc (.cells (madeCells #[.int .u8 0] 8) 5)) (World.grownBy.refl _ _)
          have j2 := made_string w8 (w8.alloc (.cells (madeCells #[.int .u8 0] 8) 5)).drew (grownBy_drew _ _)
          have HGa := hid (World.grownBy_alloc w8 (.cells (madeCells #[.int .u8 0] 8) 5) none)
          have HGb := hid (HGa.out.trans (grownBy_drew _ none))
          rw [hl8]
          go_region_with (go_at_call 25; obtain ⟨fv, hfv⟩ := HV8.out.v; refine (vRest _ _ _ _ _ _ _ fv _ (hfv.grown HGb.out) (by omega)).mono ?_; rw [hre]; rintro e w9 ⟨rfl, hg9⟩; have HG9 := hid (HV8.out.g.trans (HGb.out.trans hg9)); clear hg9 hfv)
          clear m0 k1 k2 k3 k4 j1 j2
          all_goals go_wp2
          all_goals go_ret
          all_goals exact ⟨rfl, HG9.out⟩
theorem main {H : Type} {enc : TypeId × Value → H} (v0 v1 v2 : Value) (w : World) (c0 : Flat.Came enc Try.prog w 0 (fun _ => true) true 31 v0) (c1 : Flat.Came enc Try.prog w 0 (fun _ => true) true 31 v1) (c2 : Flat.Came enc Try.prog w 0 (fun _ => true) true 5 v2) :
    Calls Try.prog 10 #[v0, v1, v2] w fun e w' => e = .returned (.bool true) ∧ w.grownBy w' none := by
  obtain ⟨a', rfl, wf⟩ := c2.int Try.underlying5
  obtain ⟨a, rfl, ha⟩ := u8_nat wf
  obtain ⟨pf, f, cf, rfl, hf, lf⟩ := came_bytes c0
  obtain ⟨ps, s, cs, rfl, hs, ls⟩ := came_bytes c1
  by_cases h : 8 < f.length ∨ 8 < s.length
  · exact long a f s pf ps cf cs w lf ls h
  · exact short a f s pf ps cf cs w ha hf hs (by omega) (by omega)

theorem own : ownKnob Try.prog.godebug = none := by kernel_rfl
theorem laidOut : laidOutB Try.prog = true := by kernel_rfl

set_option maxRecDepth 100000 in
theorem lifted (os : Os) (started : os.Started) (H : Type) (enc : TypeId × Value → H) :
    ReturnsInHanded {} Try.checked os 10 .any (Rows.viewOrderSpec.pre6 enc Try.prog Try.f10 Rows.viewOrderRow.domain false) (Rows.viewOrderSpec.post enc Try.prog Try.f10 false true false false) := by
  refine returnsInHanded_of_change_sized (C := Try.checked) own started (by kernel_rfl) Try.func10
    (ChangeSpec.witness6 (enc := enc) (C := Try.checked) false ⟨#[], #[.slice none 0 0, .slice none 0 0, .int .u8 0], []⟩ 8 (by kernel_rfl) (by kernel_rfl) (by kernel_rfl) (by kernel_rfl)) ?_
  intro W base args ds gs before hval0 hW _ hsz0 _
  have hsz : (DataW.weightsEach Try.prog (Try.f10.params.toList ++ Rows.viewOrderSpec.plain.varTypes Try.prog) (ds ++ gs)).all (· ≤ reachBytes) = true := hsz0
  clear hsz0
  have hval : ∀ (j : Nat) t v, Try.f10.params[j]? = some t → args[j]? = some v → Value.okWide Try.prog W .any base t v := hval0
  have hW' := hW
  obtain ⟨p, q, hA0, hV, rfl, hfz, hnd⟩ := hW
  have hA : DataW.TrodAll enc Try.prog W 0 (fun _ => true) true Try.f10.params.toList args.toList ds p := hA0
  rw [Try.params10] at hA hval hsz
  obtain ⟨v0, vs0, d0, ds0, p0, q0, hargs, rfl, rfl, h0, r0⟩ := trodAll_cons hA
  obtain ⟨v1, vs1, d1, ds1, p1, q1, rfl, rfl, rfl, h1, r1⟩ := trodAll_cons r0
  obtain ⟨v2, vs2, d2, ds2, p2, q2, rfl, rfl, rfl, h2, r2⟩ := trodAll_cons r1
  obtain ⟨rfl, rfl, rfl⟩ := trodAll_nil r2
  obtain rfl : args = #[v0, v1, v2] := by cases args; simp_all
  obtain ⟨rfl, rfl⟩ := trodVars_none hV
  obtain ⟨ps0, ln0, cp0, rfl⟩ := okWide_slice Try.underlying31 (hval 0 31 v0 rfl rfl)
  have k0 := h0
  have lt0 : ∀ x ∈ p0, x.block < W.heap.size := by obtain ⟨m, hm⟩ := k0; exact DataW.trod_lt m _ _ _ hm
  have c0 : Flat.Came enc Try.prog W 0 (fun _ => true) true 31 (.slice ps0 ln0 cp0) := by
    obtain ⟨fuel, hf⟩ := h0
    exact ⟨fuel, _, hf, fun n hn => by
      have := List.all_eq_true.1 hsz n (DataW.weights_mem_each (j := 0) rfl rfl n hn)
      simpa using this⟩
  obtain ⟨ps1, ln1, cp1, rfl⟩ := okWide_slice Try.underlying31 (hval 1 31 v1 rfl rfl)
  have k1 := h1
  have lt1 : ∀ x ∈ p1, x.block < W.heap.size := by obtain ⟨m, hm⟩ := k1; exact DataW.trod_lt m _ _ _ hm
  have c1 : Flat.Came enc Try.prog W 0 (fun _ => true) true 31 (.slice ps1 ln1 cp1) := by
    obtain ⟨fuel, hf⟩ := h1
    exact ⟨fuel, _, hf, fun n hn => by
      have := List.all_eq_true.1 hsz n (DataW.weights_mem_each (j := 1) rfl rfl n hn)
      simpa using this⟩
  obtain ⟨a2, rfl, rfl, rfl, w2⟩ := open_int Try.underlying5 (hval 2 5 v2 rfl rfl) h2
  have k2 := h2
  have lt2 : ∀ x ∈ ([] : List MemPlace), x.block < W.heap.size := by obtain ⟨m, hm⟩ := k2; exact DataW.trod_lt m _ _ _ hm
  have c2 : Flat.Came enc Try.prog W 0 (fun _ => true) true 5 (.int .u8 a2) := by
    obtain ⟨fuel, hf⟩ := h2
    exact ⟨fuel, _, hf, fun n hn => by
      have := List.all_eq_true.1 hsz n (DataW.weights_mem_each (j := 2) rfl rfl n hn)
      simpa using this⟩
  clear hA0 hval0
  refine (main (.slice ps0 ln0 cp0) (.slice ps1 ln1 cp1) (.int .u8 a2) W c0 c1 c2).mono fun e W' ⟨he, hg⟩ => ?_
  subst he
  have bel := below_grown hg
  simp only [List.append_nil, List.nil_append] at hW'
  exact ⟨_, rfl, _, _, _, [], _, [], hW', trodAll_mk1 (shut_bool Try.underlying4 _), (trodAll_cons_mk (Below.trod laidOut (by kernel_rfl) (of_decide_eq_true (by kernel_rfl)) k0 bel lt0) (trodAll_cons_mk (Below.trod laidOut (by kernel_rfl) (of_decide_eq_true (by kernel_rfl)) k1 bel lt1) (trodAll_cons_mk (Below.trod laidOut (by kernel_rfl) (of_decide_eq_true (by kernel_rfl)) k2 bel lt2) trodAll_mk0))), rfl, bel.frame _, fun h => by cases h⟩

theorem proved : Rows.ViewOrderSaid :=
  OpenClaim.holds_of_wide 10 Try.f10 rfl rfl rfl rfl rfl rfl rfl ⟨rfl, rfl, rfl, rfl, rfl⟩ rfl rfl rfl rfl rfl (by kernel_rfl) Try.func10 (by kernel_rfl)
    (of_decide_eq_true (by kernel_rfl)) (by unfold Func.isWrapper; first | (rw [if_pos (by decide +kernel)]; kernel_rfl) | (rw [if_neg (by decide +kernel)]; exact ⟨rfl, rfl⟩))
    (fun os started H enc _ => lifted os started H enc)
#print axioms proved

end Go.Proofs.Ytigmllcilmpanaa.lawViewOrder
