/-
  The reference's switch: direct, where there is room.
-/
import Derived.Test.YtakofhhfdgankaaBrY
import Derived.Lib.AppendZeros
import Derived.Deep.RegionHeld3
set_option linter.unusedSimpArgs false
set_option linter.unusedVariables false
namespace Go.Proofs.Ytakofhhfdgankaa.Br
open Go.RowKit Gen Bk
set_option maxHeartbeats 8000000

section
variable {C : Nat → Prop} {lab lab' lab1 : Nat → Nat} {w w' w1 : World} {y r a ca : Nat} {lq : Nat → Lq} {S : Sw} {k : Nat} {s s' : Sd} {T : Nat}
theorem Row.set13 {t : TypeId} {N : Nat} {X : Nat → Value} (h : Row w r t N X) (s' : Sd) (L : Lq) : Row (Br.set13 w r (k * 13) s' L) r t N (fun j => if j / 13 = k then s'.rcell L (j % 13) else X j) := by
  have st : ∀ {w : World} {X : Nat → Value} (o : Nat) (v : Value), Row w r t N X → Row (w.setCell ⟨r, o, none⟩ v) r t N (fun j => if j = o then v else X j) := fun o v h => h.set (k := o) (if_pos rfl) fun j _ hj => if_neg hj
  have h13 := st (k * 13 + 12) (.int .i64 s'.full) (st (k * 13 + 11) (.int .i64 s'.noBuf) (st (k * 13 + 10) (.int .i64 0) (st (k * 13 + 9) (.int .i64 s'.del) (st (k * 13 + 8) (.int .i64 s'.dir) (st (k * 13 + 7) (.int .i64 s'.noCr) (st (k * 13 + 6) (.int .i64 s'.mal) (st (k * 13 + 5) (.int .i64 s'.fw) (st (k * 13 + 4) (.int .i64 s'.taken) (st (k * 13 + 3) (.slice L.p s'.q.length L.c) (st (k * 13 + 2) (.int .i64 s'.rate) (st (k * 13 + 1) (.int .i64 s'.burst) (st (k * 13) (.int .i64 s'.credit) h))))))))))))
  refine h13.congr fun j hj => ?_
  by_cases e : j / 13 = k
  · obtain ⟨f, hf, rfl⟩ : ∃ f, f < 13 ∧ j = k * 13 + f := ⟨j % 13, by omega, by omega⟩
    rw [if_pos e, show (k * 13 + f) % 13 = f by omega]
    simp only [Nat.add_left_cancel_iff, show ∀ a : Nat, (k * 13 + a = k * 13) = (a = 0) from fun a => by simp]
    match f, hf with | 0, _ => rfl | 1, _ => rfl | 2, _ => rfl | 3, _ => rfl | 4, _ => rfl | 5, _ => rfl | 6, _ => rfl | 7, _ => rfl | 8, _ => rfl | 9, _ => rfl | 10, _ => rfl | 11, _ => rfl | 12, _ => rfl
  · rw [if_neg e]
    simp only [show j ≠ k * 13 + 12 by omega, show j ≠ k * 13 + 11 by omega, show j ≠ k * 13 + 10 by omega, show j ≠ k * 13 + 9 by omega, show j ≠ k * 13 + 8 by omega, show j ≠ k * 13 + 7 by omega, show j ≠ k * 13 + 6 by omega, show j ≠ k * 13 + 5 by omega, show j ≠ k * 13 + 4 by omega, show j ≠ k * 13 + 3 by omega, show j ≠ k * 13 + 2 by omega, show j ≠ k * 13 + 1 by omega, show j ≠ k * 13 by omega, if_false]
theorem set13_grown (w : World) (b o : Nat) (s : Sd) (L : Lq) : w.grownBy (Br.set13 w b o s L) (some b) := by
  unfold Br.set13
  exact ((((((((((((grownBy_setCell w b o none _).trans (grownBy_setCell _ b _ none _)).trans (grownBy_setCell _ b _ none _)).trans (grownBy_setCell _ b _ none _)).trans (grownBy_setCell _ b _ none _)).trans (grownBy_setCell _ b _ none _)).trans (grownBy_setCell _ b _ none _)).trans (grownBy_setCell _ b _ none _)).trans (grownBy_setCell _ b _ none _)).trans (grownBy_setCell _ b _ none _)).trans (grownBy_setCell _ b _ none _)).trans (grownBy_setCell _ b _ none _)).trans (grownBy_setCell _ b _ none _)
/-- as RS.setAll, where a block of the call's own has changed too -/
theorem RS.setAllC (h : RS lab w y r a ca lq (S.set k s)) (hn : S.n ≤ 8) (hk : k < S.n) (st : St C lab w lab1 w1) (hC : ∀ l, C l → l = 48 + k ∨ l = 63) {L : Lq} {ys : List Value} (hq : QSl lab1 w1 (48 + k) L.p L.c ys) (hf : Frs lab1 w1 ys s'.q) {w2 : World}
    (hg : w1.grownBy w2 (some r)) (hrow : Row w2 r 81 (S.n * 13) (fun j => if j / 13 = k then s'.rcell L (j % 13) else rgcell (S.set k s) lq j)) :
    RS lab1 w2 y r a ca (updL lq k L) (S.set k s') ∧ St CR lab w lab1 w2 := by
  have nC : ∀ l, l ≠ 48 + k → l ≠ 63 → ¬ C l := fun l h1 h2 h3 => by rcases hC l h3 with h | h <;> omega
  have top := st.row h.top (by rw [h.ly]; exact nC _ (by omega) (by omega))
  have adr := st.row h.adr (by rw [h.la]; exact nC _ (by omega) (by omega))
  have ly := (st.keep _ h.top.lt).trans h.ly
  have lr := (st.keep _ h.ports.lt).trans h.lr
  have la := (st.keep _ h.adr.lt).trans h.la
  have s2 : St (fun l => l = 34) lab1 w1 lab1 w2 := St.one hg lr
  refine ⟨⟨top.grown hg (by simp; exact fun e => h.ry e.symm), hrow.congr fun j hj => ?_, adr.grown hg (by simp; exact h.ar), fun i hi => ?_, ly, lr, la, h.ca⟩, (st.mono fun l e => ?_).tr (s2.mono fun l e => ⟨by omega, by omega⟩)⟩
  · unfold rgcell updL
    by_cases e : j / 13 = k
    · subst e
      rw [Sw.set_at, if_pos rfl, if_pos rfl]
    · rw [Sw.set_ne _ _ e, if_neg e, if_neg e, Sw.set_ne _ _ e]
  · have hn' : i < S.n := hi
    by_cases e : i = k
    · subst e
      rw [Sw.set_at]
      unfold updL
      rw [if_pos rfl]
      exact ⟨ys, hq.st s2 (by omega), hf.st s2 (by omega)⟩
    · obtain ⟨xs, h1, h2⟩ := h.qs i hi
      rw [Sw.set_ne _ _ e] at h2 ⊢
      unfold updL
      rw [if_neg e]
      exact ⟨xs, (h1.st st (nC _ (by omega) (by omega))).st s2 (by omega), (h2.st st (nC _ (by omega) (by omega))).st s2 (by omega)⟩
  · rcases hC l e with h | h
    · exact ⟨by omega, by omega⟩
    · exact ⟨by omega, by omega⟩
/-- labels behind a call that made B and bytes -/
def labB (lab : Nat → Nat) (w : World) : Nat → Nat := upd (lab0 lab w) w.heap.size 63
theorem labB_old (lab : Nat → Nat) (w : World) {j : Nat} (h : j < w.heap.size) : labB lab w j = lab j := by
  unfold labB
  rw [upd_other _ (by omega)]
  exact if_pos h
theorem labB_st {C : Nat → Prop} (lab : Nat → Nat) {w w' : World} (hg : w.grownBy w' none) : St C lab w (labB lab w) w' := ⟨fun j hj => labB_old lab w hj, Chg.of0 hg⟩
theorem newB_buB {w0 w w' : World} {l : List UInt8} {v : Value} (lab : Nat → Nat) (hs : w0.heap.size < w.heap.size) (h : NewB w l v w') : ∃ p c, v = .slice p l.length c ∧ BU (labB lab w0) w' p l := by
  obtain ⟨p, c, rfl, hb, hc, hn⟩ := h.ba
  refine ⟨p, c, rfl, hb, fun a e => ?_⟩
  subst e
  rcases h.1.2 with ⟨e, _⟩ | ⟨g, cap, cur, e, hlo, hg, _⟩
  · cases e
  · simp only [Value.slice.injEq, Option.some.injEq] at e
    rw [e.1]
    refine ⟨?_, (Array.getElem?_eq_some_iff.1 hg).1⟩
    unfold labB
    rw [upd_other _ (by show g ≠ w0.heap.size; omega)]
    exact if_neg (by show ¬ g < w0.heap.size; omega)
set_option maxRecDepth 100000 in
theorem ydirect_room (h : RS lab w y r a ca lq (S.set k s)) (n8 : S.n ≤ 8) (hk : k < S.n) (fb fo : Nat) (f : List UInt8) (fc : Nat) (hb : BA w (some ⟨fb, fo, none⟩) f) (hf2 : 2 ≤ f.length) (hf128 : f.length ≤ 128) (h1 : s.dir ≤ 2305843009213693952) (hq : s.q.length < 4) :
    Calls Try.prog 46 #[.pointer (some ⟨y, 0, none⟩), .int .i64 (k : Int), .slice (some ⟨fb, fo, none⟩) f.length fc] w fun e w' => e = .returned (.tuple #[]) ∧ AftR lab w y r a ca (S.set k { s with dir := s.dir + 1, q := s.q ++ [f] }) w' := by
  have k0 : (0 : Int) ≤ k := by omega
  have k1 : (k : Int) < S.n := by omega
  have hq4 : ¬ (4 : Int) ≤ (s.q.length : Nat) := by omega
  have c0 : w.cell? ⟨y, 0, none⟩ = some (.slice (some ⟨r, 0, none⟩) S.n S.n) := h.c0
  have e0 := h.at_credit hk
  have e1 := h.at_burst hk
  have e2 := h.at_rate hk
  have e3 := h.at_q hk
  have e4 := h.at_taken hk
  have e5 := h.at_fw hk
  have e6 := h.at_mal hk
  have e7 := h.at_noCr hk
  have e8 := h.at_dir hk
  have e9 := h.at_del hk
  have e10 := h.at_10 hk
  have e11 := h.at_noBuf hk
  have e12 := h.at_full hk
  have HBA := hid hb
  obtain ⟨xs, hxq, hxf⟩ := h.qat hk
  have hlen := hxf.len
  obtain ⟨i0, hi, hz0, hz1, hz2⟩ := info_parts info_sl
  have HPm := hid (fun (W : World) (hg : w.grownBy W none) => h.st n8 (labB_st (C := fun _ => False) lab hg) fun _ _ e => e)
  have HQx := hid (fun (W : World) (hg : w.grownBy W none) => hxq.st (labB_st (C := fun _ => False) lab hg) fun e => e)
  have HFx := hid (fun (W : World) (hg : w.grownBy W none) => hxf.st (labB_st (C := fun _ => False) lab hg) fun e => e)
  have HApp := hid (fun (W5 : World) (fp : Option Addr) (fc : Nat) (hg : w.grownBy W5 none) (hB : w.heap.size < W5.heap.size) => (HQx.out _ (hg.trans (World.grownBy_alloc W5 (.cells #[.slice fp f.length fc] 31) none))).app (P := Try.prog) 79 31 i0 (.slice none 0 0) Try.underlying79 hi hz0 rfl hz1 (by omega) ⟨W5.heap.size, 0, none⟩ (.slice fp f.length fc) (by rw [cell_of_row _ _ _ _ _ _ (heap_alloc_new W5 _)]; rfl) rfl (by omega) (fun l => l = 48 + k) rfl)
  rw [hlen] at HApp
  clear hxq hxf hi hz0 hz1 hz2 h hb
  obtain ⟨bu, ra, cr, q, tk, fw, mal, nc, dr, dl, nb, fl⟩ := s
  obtain ⟨n, hn⟩ : ∃ n, q.length = n := ⟨_, rfl⟩
  simp only at e0 e1 e2 e3 e4 e5 e6 e7 e8 e9 e10 e11 e12 h1 hq hq4 HApp HFx ⊢
  have HNq := hid hn
  rw [hn] at e3 hq hq4 HApp
  obtain ⟨L, hL⟩ : ∃ L, lq k = L := ⟨_, rfl⟩
  rw [hL] at e3 HApp
  obtain ⟨fl', hfl⟩ : ∃ n, f.length = n := ⟨_, rfl⟩
  have HFl := hid hfl
  have HF2 := hid (And.intro hf2 hf128)
  rw [hfl]
  clear hn hL hlen hfl hf2 hf128
  go_enter Try.func46, Try.ntmps46
  go_wp2_with (first
    | (refine wpList_alloc_pt (w := w) rfl rfl ?_; intro W1 hs1 hb1 hg1; have B1 := hid hb1; have G1 := hid hg1; have Z1 := hid hs1; clear e0 e1 e2 e3 e4 e5 e6 e7 e8 e9 e10 e11 e12 c0 hs1 hb1 hg1)
    | (refine wpList_store_pt (w := W1) rfl (.tmp 6) (.tmp 13) rfl _ (ptC cr bu ra (.slice L.p n L.c) tk fw mal nc dr dl nb fl) rfl (ptC_one _ _ _ _ _ _ _ _ _ _ _ _ _ _) rfl rfl _ B1.out ?_; intro W2 hs2 hb2 hg2; have f8 := hb2.cell 8; have fz8 := hb2.fz 8; obtain ⟨W3, hW3⟩ : ∃ W, W2.setCell ⟨w.heap.size, 8, none⟩ (.int .i64 ((dr : Int) + 1)) = W := ⟨_, rfl⟩; have hb3 := hW3 ▸ hb2.set 8 (.int .i64 ((dr : Int) + 1)); have f3 := hb3.cell 3; have G3 := hid ((G1.out.andThen hg2 fun j hj => by cases hj; exact .inl (Nat.le_refl _)).andThen (hW3 ▸ grownBy_setCell W2 w.heap.size 8 none (.int .i64 ((dr : Int) + 1))) fun j hj => by cases hj; exact .inl (Nat.le_refl _)); have Z3 := hid (show w.heap.size < W3.heap.size by rw [← hW3]; simp; rw [hs2, Z1.out]; omega); have B3 := hid hb3; clear hs2 hb2 hg2 hb3; simp only [ptC, List.getElem?_toArray, List.getElem?_cons_zero, List.getElem?_cons_succ, List.setIfInBounds_toArray, List.set_cons_zero, List.set_cons_succ] at f8 f3))
  clear f8 fz8 hW3
  have HG3d := hid (G3.out.trans (grownBy_drew W3 none))
  have HB3d := hid (HBA.out.grown HG3d.out)
  have HBd := hid (B3.out.grown (grownBy_drew W3 none) (by simp))
  have f3d : W3.drew.cell? ⟨w.heap.size, 3, none⟩ = some (.slice L.p n L.c) := f3
  have f3a := (World.grownBy_alloc W3.drew (.cells #[] 5) none).cell f3d (by simp)
  have f3c : (W3.alloc (.cells #[] 5)).cell? ⟨w.heap.size, 3, none⟩ = some (.slice L.p n L.c) := f3a
  have f3b : (W3.alloc (.cells #[] 5)).drew.cell? ⟨w.heap.size, 3, none⟩ = some (.slice L.p n L.c) := f3a
  have HB3x := hid (show w.heap.size < W3.drew.heap.size from Z3.out)
  go_region_law (first
    | (refine step_append_new (w0 := W3.drew) (by rfl) (.tmp 32) (.tmp 33) (by rfl) (by simp [Act.eval, Act.put]) ⟨fb, fo, none⟩ f fc fl' HFl.out (by have := HF2.out; omega) (by simp [Act.eval, Act.put]) HB3d.out ?_; intro v5 w5 hv5; have HG5 := hid (HG3d.out.trans hv5.2); have HZ5 := hid (show w.heap.size < w5.heap.size from Nat.lt_of_lt_of_le HB3x.out hv5.2.size); obtain ⟨fp, fc5, rfl, hbu⟩ := newB_buB lab HB3x.out hv5; have HBU := hid hbu; obtain ⟨p6, c6, lab6, w6, hr6, hq6, st6⟩ := HApp.out w5 fp fc5 HG5.out HZ5.out; have HR6 := hid hr6; have HQ6 := hid hq6; have ST6 := hid st6; have HB5 := hid (HBd.out.grown hv5.2 (by simp)); have f35 := hv5.2.cell f3d (by simp); have f35a := (World.grownBy_alloc w5 (.cells #[.slice fp f.length fc5] 31) none).cell f35 (by simp); have HB6 := hid (show PtAt w6 w.heap.size _ from ⟨(ST6.out.block (Nat.lt_of_lt_of_le HZ5.out (World.grownBy_alloc w5 _ none).size) (by rw [show labB lab w w.heap.size = 63 from upd_same _ _ _]; omega)).trans (HB5.out.grown (World.grownBy_alloc w5 _ none) (by simp)).1, HB5.out.2⟩); have g3 := HB6.out.cell 3; have gz3 := HB6.out.fz 3; simp only [ptC, List.getElem?_toArray, List.getElem?_cons_zero, List.getElem?_cons_succ, List.setIfInBounds_toArray, List.set_cons_zero, List.set_cons_succ] at g3; clear hv5 hbu hr6 hq6 st6)
    | (refine step_append_run (by rfl) (.tmp 31) (.tmp 35) 79 79 (by rfl) (.slice L.p n L.c) (.slice (some ⟨w5.heap.size, 0, none⟩) 1 1) (by simp [Act.eval, Act.put]) (by simp [Act.eval, Act.put]) (.slice p6 (n + 1) c6) w6 (HR6.out _ _) ?_))
  all_goals
    go_wp2_with fail
    have hA5 := World.grownBy_alloc w5 (.cells #[.slice fp f.length fc5] 31) none
    have hlB : lab6 w.heap.size = 63 := (ST6.out.keep _ (Nat.lt_of_lt_of_le HZ5.out hA5.size)).trans (upd_same _ _ _)
    obtain ⟨W7, hW7⟩ : ∃ W, w6.setCell ⟨w.heap.size, 3, none⟩ (.slice p6 (n + 1) c6) = W := ⟨_, rfl⟩
    rw [hW7]
    have gW7 : w6.grownBy W7 (some w.heap.size) := hW7 ▸ grownBy_setCell w6 w.heap.size 3 none (.slice p6 (n + 1) c6)
    have sW7 : St (fun l => l = 63) lab6 w6 lab6 W7 := St.one gW7 hlB
    have st7 : St (fun l => l = 48 + k ∨ l = 63) (labB lab w) (w5.alloc (.cells #[.slice fp f.length fc5] 31)) lab6 W7 := (ST6.out.mono fun l e => .inl e).tr (sW7.mono fun l e => .inr e)
    have hP5 := HPm.out _ (HG5.out.trans hA5)
    have hports := st7.row hP5.ports (by rw [hP5.lr]; omega)
    have htop := st7.row hP5.top (by rw [hP5.ly]; omega)
    have hb7 := hW7 ▸ HB6.out.set 3 (.slice p6 (n + 1) c6)
    have hq7 := HQ6.out.st sW7 (by omega)
    have hf7 := ((HFx.out _ (HG5.out.trans hA5)).st st7 (by omega)).snoc ⟨fp, fc5, rfl, ((HBU.out.st (C := fun _ => False) (St.grown hA5) (fun e => e)).st st7 (by omega))⟩
    have hall := hP5.setAllC n8 hk st7 (fun l e => e) (s' := ⟨bu, ra, cr, q ++ [f], tk, fw, mal, nc, dr + 1, dl, nb, fl⟩) (L := ⟨p6, c6⟩) hq7 hf7 (set13_grown W7 r (k * 13) ⟨bu, ra, cr, q ++ [f], tk, fw, mal, nc, dr + 1, dl, nb, fl⟩ ⟨p6, c6⟩) (Row.set13 hports _ _)
    have HF := hid (show AftR lab w y r a ca _ _ from ⟨lab6, _, hall.1, ((labB_st lab (HG5.out.trans hA5)).tr hall.2)⟩)
    have y0 : W7.drew.cell? ⟨y, 0, none⟩ = some (.slice (some ⟨r, 0, none⟩) S.n S.n) := htop.cell (k := 0) (by omega)
    have hb : PtAt W7.drew w.heap.size _ := hb7.grown (grownBy_drew W7 none) (by simp)
    have hr : ∀ j, j < 13 → (∃ v, W7.drew.cell? ⟨r, k * 13 + j, none⟩ = some v) ∧ W7.drew.frozen? ⟨r, k * 13 + j, none⟩ = false := fun j hj => ⟨⟨_, hports.cell (k := k * 13 + j) (by show k * 13 + j < S.n * 13; omega)⟩, hports.frozen _⟩
    clear st7 hP5 hports htop hb7 hq7 hf7 hall sW7 gW7 hlB hA5 hW7 g3 gz3
    have b0 := hb.cell 0
    have b1 := hb.cell 1
    have b2 := hb.cell 2
    have b3 := hb.cell 3
    have b4 := hb.cell 4
    have b5 := hb.cell 5
    have b6 := hb.cell 6
    have b7 := hb.cell 7
    have b8 := hb.cell 8
    have b9 := hb.cell 9
    have b10 := hb.cell 10
    have b11 := hb.cell 11
    have b12 := hb.cell 12
    simp only [ptC, List.getElem?_toArray, List.getElem?_cons_zero, List.getElem?_cons_succ, List.setIfInBounds_toArray, List.set_cons_zero, List.set_cons_succ] at b0 b1 b2 b3 b4 b5 b6 b7 b8 b9 b10 b11 b12
    obtain ⟨⟨v0, r0⟩, z0⟩ := hr 0 (by omega)
    obtain ⟨⟨v1, r1⟩, z1⟩ := hr 1 (by omega)
    obtain ⟨⟨v2, r2⟩, z2⟩ := hr 2 (by omega)
    obtain ⟨⟨v3, r3⟩, z3⟩ := hr 3 (by omega)
    obtain ⟨⟨v4, r4⟩, z4⟩ := hr 4 (by omega)
    obtain ⟨⟨v5, r5⟩, z5⟩ := hr 5 (by omega)
    obtain ⟨⟨v6, r6⟩, z6⟩ := hr 6 (by omega)
    obtain ⟨⟨v7, r7⟩, z7⟩ := hr 7 (by omega)
    obtain ⟨⟨v8, r8⟩, z8⟩ := hr 8 (by omega)
    obtain ⟨⟨v9, r9⟩, z9⟩ := hr 9 (by omega)
    obtain ⟨⟨v10, r10⟩, z10⟩ := hr 10 (by omega)
    obtain ⟨⟨v11, r11⟩, z11⟩ := hr 11 (by omega)
    obtain ⟨⟨v12, r12⟩, z12⟩ := hr 12 (by omega)
    simp only [Nat.add_zero] at r0 z0
    clear hb hr
    have s0 : W7.cell? ⟨r, k * 13, none⟩ = some v0 := r0
    have s1 : W7.cell? ⟨r, k * 13 + 1, none⟩ = some v1 := r1
    have s2 : W7.cell? ⟨r, k * 13 + 2, none⟩ = some v2 := r2
    have s3 : W7.cell? ⟨r, k * 13 + 3, none⟩ = some v3 := r3
    have s4 : W7.cell? ⟨r, k * 13 + 4, none⟩ = some v4 := r4
    have s5 : W7.cell? ⟨r, k * 13 + 5, none⟩ = some v5 := r5
    have s6 : W7.cell? ⟨r, k * 13 + 6, none⟩ = some v6 := r6
    have s7 : W7.cell? ⟨r, k * 13 + 7, none⟩ = some v7 := r7
    have s8 : W7.cell? ⟨r, k * 13 + 8, none⟩ = some v8 := r8
    have s9 : W7.cell? ⟨r, k * 13 + 9, none⟩ = some v9 := r9
    have s10 : W7.cell? ⟨r, k * 13 + 10, none⟩ = some v10 := r10
    have s11 : W7.cell? ⟨r, k * 13 + 11, none⟩ = some v11 := r11
    have s12 : W7.cell? ⟨r, k * 13 + 12, none⟩ = some v12 := r12
    have t0 : W7.frozen? ⟨r, k * 13, none⟩ = false := z0
    have t1 : W7.frozen? ⟨r, k * 13 + 1, none⟩ = false := z1
    have t2 : W7.frozen? ⟨r, k * 13 + 2, none⟩ = false := z2
    have t3 : W7.frozen? ⟨r, k * 13 + 3, none⟩ = false := z3
    have t4 : W7.frozen? ⟨r, k * 13 + 4, none⟩ = false := z4
    have t5 : W7.frozen? ⟨r, k * 13 + 5, none⟩ = false := z5
    have t6 : W7.frozen? ⟨r, k * 13 + 6, none⟩ = false := z6
    have t7 : W7.frozen? ⟨r, k * 13 + 7, none⟩ = false := z7
    have t8 : W7.frozen? ⟨r, k * 13 + 8, none⟩ = false := z8
    have t9 : W7.frozen? ⟨r, k * 13 + 9, none⟩ = false := z9
    have t10 : W7.frozen? ⟨r, k * 13 + 10, none⟩ = false := z10
    have t11 : W7.frozen? ⟨r, k * 13 + 11, none⟩ = false := z11
    have t12 : W7.frozen? ⟨r, k * 13 + 12, none⟩ = false := z12
    clear r0 r1 r2 r3 r4 r5 r6 r7 r8 r9 r10 r11 r12 z0 z1 z2 z3 z4 z5 z6 z7 z8 z9 z10 z11 z12
    go_region
    go_end0
    have hl := HF.out.grow0 n8 (grownBy_drew _ none)
    unfold Br.set13 at hl
    simp only [List.length_append, List.length_cons, List.length_nil, HNq.out] at hl
    exact ⟨rfl, hl⟩
end
end Go.Proofs.Ytakofhhfdgankaa.Br
