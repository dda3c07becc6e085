/-
  The reference's switch: direct.
-/
import Derived.Test.YtakofhhfdgankaaBrV
set_option linter.unusedSimpArgs false
set_option linter.unusedVariables false
namespace Go.Proofs.Ytakofhhfdgankaa.Br
open Go.RowKit Gen Bk
set_option maxHeartbeats 4000000

/-- 'append([]byte{}, s...)' at a step of a region that draws its order -/
theorem step_append_new {ops : Array Oper} {o : Oper} {a : Act} {w0 : World} {K : Act → World → Prop} {Q : Exit → Act → World → Prop} {E : Prop} (hgd : o.guard = none) (x y : Operand)
    (hop : o.op = .call { callee := .builtin .append, args := #[x, y], argTypes := #[31, 31] })
    (hx : a.eval x = .slice (some ⟨w0.heap.size, 0, none⟩) 0 0) (ad : Addr) (l : List UInt8) (c n : Nat) (hn : l.length = n) (hl : l.length ≤ 140737488351232) (hy : a.eval y = .slice (some ad) n c) (hb : BA w0 (some ad) l)
    (h : ∀ v w', NewB w0 l v w' → K (a.put o.dst v) w') : if Region.wanted o (yielded ops a.tmps) = true then Oper.wp Try.prog o a (w0.alloc (.cells #[] 5)) K Q else E := by
  subst hn
  have hw' : Region.wanted o (yielded ops a.tmps) = true := by simp [Region.wanted, hgd]
  rw [if_pos hw']
  obtain ⟨i0, hi, hz0, hz1, hz2⟩ := info_parts info_u8
  have HG0 := World.grownBy_alloc w0 (.cells #[] 5) none
  have HOn := World.ownsRow_made (base := w0.heap.size) (e := 5) (size := 1) w0 #[] 0 (Nat.le_refl _) (by unfold maxLen; omega) (by simp)
  refine wp_append_own _ x y 31 hop w0.heap.size 5 i0 (.int .u8 0) 1 1 Try.underlying31 hi hz0 hz1 hz2 rfl (by decide) _ 0 [] hx HOn ad l.length c (bcells l) hy (by rw [bcells_len, Nat.mul_one]) (news_ba (hb.grown HG0)) (bcells_one l) (by unfold maxLen; omega) (by omega) (by simp) ?_
  intro v' w1 hown' hgrow _
  simp only [Nat.zero_add, List.nil_append] at hown'
  exact h _ _ ⟨hown', HG0.andThen hgrow (fun j hj => .inl (HOn.lt j hj).1)⟩
/-- a port in a block of its own -/
def ptC (cr bu ra : Nat) (q : Value) (tk fw mal nc dr dl nb fl : Nat) : Array Value := #[.int .i64 cr, .int .i64 bu, .int .i64 ra, q, .int .i64 tk, .int .i64 fw, .int .i64 mal, .int .i64 nc, .int .i64 dr, .int .i64 dl, .int .i64 0, .int .i64 nb, .int .i64 fl]
theorem pt_size : (Try.prog.info? 81).map (·.size) = some 13 := by kernel_rfl
def PtAt (w : World) (g : Nat) (cs : Array Value) : Prop := w.heap[g]? = some (.cells cs 81 (0, 0)) ∧ cs.size = 13
theorem zero_pt (w : World) : (zeroValue 81).run Try.prog w = .ok (.agg (ptC 0 0 0 (.slice none 0 0) 0 0 0 0 0 0 0 0)) w := by rw [Try.zeroValue81]; rfl
theorem PtAt.grown {w w' : World} {g : Nat} {l : Array Value} {row : Option Nat} (h : PtAt w g l) (hg : w.grownBy w' row) (hr : some g ≠ row) : PtAt w' g l :=
  ⟨(hg.block g (Array.getElem?_eq_some_iff.1 h.1).1 hr).trans h.1, h.2⟩
theorem PtAt.cell {w : World} {g : Nat} {cs : Array Value} (h : PtAt w g cs) (k : Nat) : w.cell? ⟨g, k, none⟩ = cs[k]? := cell_of_row w g k _ _ _ h.1
theorem PtAt.fz {w : World} {g : Nat} {cs : Array Value} (h : PtAt w g cs) (k : Nat) : w.frozen? ⟨g, k, none⟩ = false := frozen_of_row w g k _ _ h.1
theorem PtAt.set {w : World} {g : Nat} {cs : Array Value} (h : PtAt w g cs) (k : Nat) (v : Value) : PtAt (w.setCell ⟨g, k, none⟩ v) g (cs.setIfInBounds k v) := ⟨heap_setCell_same w g k cs _ v h.1, by simp [h.2]⟩
theorem wpList_alloc_pt {ops : Array Oper} {rest : List Oper} {o : Oper} {a : Act} {w : World} {Q : Exit → Act → World → Prop} (hgd : o.guard = none) (ho : o.op = .alloc 81)
    (h : ∀ w', w'.heap.size = w.heap.size + 1 → PtAt w' w.heap.size (ptC 0 0 0 (.slice none 0 0) 0 0 0 0 0 0 0 0) → w.grownBy w' none → wpList Try.prog ops Q rest (a.put o.dst (.pointer (some ⟨w.heap.size, 0, none⟩))) w') : wpList Try.prog ops Q (o :: rest) a w :=
  wpList_exec hgd (w' := w.alloc (.cells (ptC 0 0 0 (.slice none 0 0) 0 0 0 0 0 0 0 0) 81)) (by have hz := zero_pt; clear h; unfold execOp; simp [ho, Instr.alloc, hz, newVar, newRow, Value.cells, run_newObj_alloc, -Try.zeroValue81]) (h _ (by simp) ⟨heap_alloc_new w _, rfl⟩ (World.grownBy_alloc w _ none))
theorem wpList_store_pt {ops : Array Oper} {rest : List Oper} {o : Oper} {a : Act} {w : World} {Q : Exit → Act → World → Prop} (hgd : o.guard = none) (x y : Operand) (ho : o.op = .store 81 x y)
    (g : Nat) (cs : Array Value) (hcs : cs.size = 13) (h1 : cs.all (·.oneCell') = true) (hx : a.eval x = .pointer (some ⟨g, 0, none⟩)) (hy : a.eval y = .agg cs) (old : Array Value) (hg : PtAt w g old)
    (h : ∀ w', w'.heap.size = w.heap.size → PtAt w' g cs → w.grownBy w' (some g) → wpList Try.prog ops Q rest (a.put o.dst undef) w') : wpList Try.prog ops Q (o :: rest) a w :=
  wpList_store_row hgd 81 x y ho g cs hx hy _ old hg.1 (by rw [hcs]; exact pt_size) (by rw [hcs, hg.2]) h1
    (h _ (by simp) ⟨setRow_heap _ _ _ _ _ _ hg.1, hcs⟩ (grownBy_setRow _ _ _))
theorem ptC_one (cr bu ra : Nat) (p : Option Addr) (n c : Nat) (tk fw mal nc dr dl nb fl : Nat) : (ptC cr bu ra (.slice p n c) tk fw mal nc dr dl nb fl).all (·.oneCell') = true := by simp [ptC, Value.oneCell']
section
variable {C : Nat → Prop} {lab lab' lab1 : Nat → Nat} {w w' w1 : World} {y r a ca : Nat} {lq : Nat → Lq} {S : Sw} {k : Nat} {s s' : Sd} {T : Nat}
theorem RS.set_ten (h : RS lab w y r a ca lq (S.set k s)) (hn : S.n ≤ 8) (hk : k < S.n) : RS lab (w.setCell ⟨r, k * 13 + 10, none⟩ (.int .i64 0)) y r a ca lq (S.set k s) ∧ w.grownBy (w.setCell ⟨r, k * 13 + 10, none⟩ (.int .i64 0)) (some r) :=
  ⟨h.setc (f := 10) hn hk (by omega) rfl (fun _ _ _ => rfl) rfl, grownBy_setCell _ _ _ _ _⟩
/-- a whole port is laid, cell by cell -/
def set13 (w : World) (b o : Nat) (s : Sd) (L : Lq) : World := ((((((((((((w.setCell ⟨b, o, none⟩ (.int .i64 s.credit)).setCell ⟨b, o + 1, none⟩ (.int .i64 s.burst)).setCell ⟨b, o + 2, none⟩ (.int .i64 s.rate)).setCell ⟨b, o + 3, none⟩ (.slice L.p s.q.length L.c)).setCell ⟨b, o + 4, none⟩ (.int .i64 s.taken)).setCell ⟨b, o + 5, none⟩ (.int .i64 s.fw)).setCell ⟨b, o + 6, none⟩ (.int .i64 s.mal)).setCell ⟨b, o + 7, none⟩ (.int .i64 s.noCr)).setCell ⟨b, o + 8, none⟩ (.int .i64 s.dir)).setCell ⟨b, o + 9, none⟩ (.int .i64 s.del)).setCell ⟨b, o + 10, none⟩ (.int .i64 0)).setCell ⟨b, o + 11, none⟩ (.int .i64 s.noBuf)).setCell ⟨b, o + 12, none⟩ (.int .i64 s.full)
theorem RS.lay13 (h : RS lab w y r a ca lq (S.set k s)) (hn : S.n ≤ 8) (hk : k < S.n) {L : Lq} {ys : List Value} (hq : QSl lab w (48 + k) L.p L.c ys) (hf : Frs lab w ys s'.q) :
    RS lab (set13 w r (k * 13) s' L) y r a ca (updL lq k L) (S.set k s') ∧ w.grownBy (set13 w r (k * 13) s' L) (some r) := by
  obtain ⟨q0, g0⟩ := h.set_credit hn hk s'.credit rfl
  obtain ⟨q1, g1⟩ := q0.set_burst hn hk s'.burst rfl
  obtain ⟨q2, g2⟩ := q1.set_rate hn hk s'.rate rfl
  have gg := (g0.trans g1).trans g2
  have st : St (fun l => l = 34) lab w lab (((w.setCell ⟨r, k * 13, none⟩ (.int .i64 s'.credit)).setCell ⟨r, k * 13 + 1, none⟩ (.int .i64 s'.burst)).setCell ⟨r, k * 13 + 2, none⟩ (.int .i64 s'.rate)) := St.one gg h.lr
  obtain ⟨q3, s3⟩ := q2.setq hn hk (L := L) (hq.st st (by omega)) (hf.st st (by omega)) (v := .slice L.p s'.q.length L.c) rfl
  have g3 := grownBy_setCell (((w.setCell ⟨r, k * 13, none⟩ (.int .i64 s'.credit)).setCell ⟨r, k * 13 + 1, none⟩ (.int .i64 s'.burst)).setCell ⟨r, k * 13 + 2, none⟩ (.int .i64 s'.rate)) r (k * 13 + 3) none (.slice L.p s'.q.length L.c)
  obtain ⟨q4, g4⟩ := q3.set_taken hn hk s'.taken rfl
  obtain ⟨q5, g5⟩ := q4.set_fw hn hk s'.fw rfl
  obtain ⟨q6, g6⟩ := q5.set_mal hn hk s'.mal rfl
  obtain ⟨q7, g7⟩ := q6.set_noCr hn hk s'.noCr rfl
  obtain ⟨q8, g8⟩ := q7.set_dir hn hk s'.dir rfl
  obtain ⟨q9, g9⟩ := q8.set_del hn hk s'.del rfl
  obtain ⟨q10, g10⟩ := q9.set_ten hn hk
  obtain ⟨q11, g11⟩ := q10.set_noBuf hn hk s'.noBuf rfl
  obtain ⟨q12, g12⟩ := q11.set_full hn hk s'.full rfl
  exact ⟨q12, ((((((((((gg.trans g3).trans g4).trans g5).trans g6).trans g7).trans g8).trans g9).trans g10).trans g11).trans g12)⟩
/-- what the region that lays the port wants: the cells of p's own block, those of the port -/
def Ready (W : World) (y r B k n : Nat) (cs : Array Value) : Prop :=
  W.cell? ⟨y, 0, none⟩ = some (.slice (some ⟨r, 0, none⟩) n n) ∧ PtAt W B cs ∧ ∀ j, j < 13 → (∃ v, W.cell? ⟨r, k * 13 + j, none⟩ = some v) ∧ W.frozen? ⟨r, k * 13 + j, none⟩ = false
theorem RS.ready (h : RS lab w y r a ca lq (S.set k s)) (hk : k < S.n) {B : Nat} {cs : Array Value} (hb : PtAt w B cs) : Ready w y r B k S.n cs :=
  ⟨h.c0, hb, fun j hj => ⟨⟨_, h.ats hk hj⟩, h.fz _⟩⟩
set_option maxRecDepth 100000 in
theorem ydirect_full (h : RS lab w y r a ca lq (S.set k s)) (n8 : S.n ≤ 8) (hk : k < S.n) (v : Value) (h1 : s.dir ≤ 2305843009213693952) (h2 : s.full ≤ 2305843009213693952) (hq : ¬ s.q.length < 4) :
    Calls Try.prog 46 #[.pointer (some ⟨y, 0, none⟩), .int .i64 (k : Int), v] w fun e w' => e = .returned (.tuple #[]) ∧ AftR lab w y r a ca (S.set k { s with dir := s.dir + 1, full := s.full + 1 }) w' := by
  have k0 : (0 : Int) ≤ k := by omega
  have k1 : (k : Int) < S.n := by omega
  have hq4 : (4 : Int) ≤ (s.q.length : Nat) := by omega
  have c0 : w.cell? ⟨y, 0, none⟩ = some (.slice (some ⟨r, 0, none⟩) S.n S.n) := h.c0
  have e0 := h.at_credit hk
  have e1 := h.at_burst hk
  have e2 := h.at_rate hk
  have e3 := h.at_q hk
  have e4 := h.at_taken hk
  have e5 := h.at_fw hk
  have e6 := h.at_mal hk
  have e7 := h.at_noCr hk
  have e8 := h.at_dir hk
  have e9 := h.at_del hk
  have e10 := h.at_10 hk
  have e11 := h.at_noBuf hk
  have e12 := h.at_full hk
  have H := hid h
  have HE := hid (fun (W : World) (cs : Array Value) (hg : w.grownBy W none) (hb : PtAt W w.heap.size cs) => (show Ready W y r w.heap.size k S.n cs from (h.grown n8 hg).ready hk hb))
  have HL := hid (fun (W : World) (hg : w.grownBy W none) (s' : Sd) (e : s'.q = s.q) => (by
    have hp := h.grown n8 hg
    obtain ⟨xs, hx, hf⟩ := hp.qat hk
    obtain ⟨q, gg⟩ := hp.lay13 (s' := s') n8 hk hx (by rw [e]; exact hf)
    exact ⟨lab, _, q, (St.grown hg).tr (hp.str gg)⟩ : AftR lab w y r a ca (S.set k s') (set13 W r (k * 13) s' (lq k))))
  obtain ⟨bu, ra, cr, q, tk, fw, mal, nc, dr, dl, nb, fl⟩ := s
  obtain ⟨n, hn⟩ : ∃ n, q.length = n := ⟨_, rfl⟩
  simp only at e0 e1 e2 e3 e4 e5 e6 e7 e8 e9 e10 e11 e12 h1 h2 hq hq4 HL ⊢
  have HNq := hid hn
  rw [hn] at e3 hq hq4
  obtain ⟨L, hL⟩ : ∃ L, lq k = L := ⟨_, rfl⟩
  rw [hL] at e3 HL
  clear h hn hL
  go_enter Try.func46, Try.ntmps46
  go_wp2_with (first
    | (refine wpList_alloc_pt (w := w) rfl rfl ?_; intro W1 hs1 hb1 hg1; have B1 := hid hb1; have G1 := hid hg1; clear e0 e1 e2 e3 e4 e5 e6 e7 e8 e9 e10 e11 e12 c0 hs1 hb1 hg1)
    | (refine wpList_store_pt (w := W1) rfl (.tmp 6) (.tmp 13) rfl _ (ptC cr bu ra (.slice L.p n L.c) tk fw mal nc dr dl nb fl) rfl (ptC_one _ _ _ _ _ _ _ _ _ _ _ _ _ _) rfl rfl _ B1.out ?_; intro W2 hs2 hb2 hg2; have f8 := hb2.cell 8; have fz8 := hb2.fz 8; obtain ⟨W3, hW3⟩ : ∃ W, W2.setCell ⟨w.heap.size, 8, none⟩ (.int .i64 ((dr : Int) + 1)) = W := ⟨_, rfl⟩; have hb3 := hW3 ▸ hb2.set 8 (.int .i64 ((dr : Int) + 1)); have f3 := hb3.cell 3; have f12 := hb3.cell 12; have fz12 := hb3.fz 12; obtain ⟨W4, hW4⟩ : ∃ W, W3.setCell ⟨w.heap.size, 12, none⟩ (.int .i64 ((fl : Int) + 1)) = W := ⟨_, rfl⟩; have hb4 := hW4 ▸ hb3.set 12 (.int .i64 ((fl : Int) + 1)); have G4 := hid (((G1.out.andThen hg2 fun j hj => by cases hj; exact .inl (Nat.le_refl _)).andThen (hW3 ▸ grownBy_setCell W2 w.heap.size 8 none (.int .i64 ((dr : Int) + 1))) fun j hj => by cases hj; exact .inl (Nat.le_refl _)).andThen (hW4 ▸ grownBy_setCell W3 w.heap.size 12 none (.int .i64 ((fl : Int) + 1))) fun j hj => by cases hj; exact .inl (Nat.le_refl _)); have B4 := hid hb4; clear hs2 hb2 hg2 hb3 hb4; simp only [ptC, List.getElem?_toArray, List.getElem?_cons_zero, List.getElem?_cons_succ, List.setIfInBounds_toArray, List.set_cons_zero, List.set_cons_succ] at f8 f3 f12))
  clear f8 fz8 f3 f12 fz12 hW3 hW4
  have hE := HE.out _ _ (G4.out.trans (grownBy_drew W4 none)) (B4.out.grown (grownBy_drew W4 none) (by simp))
  obtain ⟨y0, hb, hr⟩ := hE
  have b0 := hb.cell 0
  have b1 := hb.cell 1
  have b2 := hb.cell 2
  have b3 := hb.cell 3
  have b4 := hb.cell 4
  have b5 := hb.cell 5
  have b6 := hb.cell 6
  have b7 := hb.cell 7
  have b8 := hb.cell 8
  have b9 := hb.cell 9
  have b10 := hb.cell 10
  have b11 := hb.cell 11
  have b12 := hb.cell 12
  simp only [ptC, List.getElem?_toArray, List.getElem?_cons_zero, List.getElem?_cons_succ, List.setIfInBounds_toArray, List.set_cons_zero, List.set_cons_succ] at b0 b1 b2 b3 b4 b5 b6 b7 b8 b9 b10 b11 b12
  obtain ⟨⟨v0, r0⟩, z0⟩ := hr 0 (by omega)
  obtain ⟨⟨v1, r1⟩, z1⟩ := hr 1 (by omega)
  obtain ⟨⟨v2, r2⟩, z2⟩ := hr 2 (by omega)
  obtain ⟨⟨v3, r3⟩, z3⟩ := hr 3 (by omega)
  obtain ⟨⟨v4, r4⟩, z4⟩ := hr 4 (by omega)
  obtain ⟨⟨v5, r5⟩, z5⟩ := hr 5 (by omega)
  obtain ⟨⟨v6, r6⟩, z6⟩ := hr 6 (by omega)
  obtain ⟨⟨v7, r7⟩, z7⟩ := hr 7 (by omega)
  obtain ⟨⟨v8, r8⟩, z8⟩ := hr 8 (by omega)
  obtain ⟨⟨v9, r9⟩, z9⟩ := hr 9 (by omega)
  obtain ⟨⟨v10, r10⟩, z10⟩ := hr 10 (by omega)
  obtain ⟨⟨v11, r11⟩, z11⟩ := hr 11 (by omega)
  obtain ⟨⟨v12, r12⟩, z12⟩ := hr 12 (by omega)
  simp only [Nat.add_zero] at r0 z0
  clear hb hr HE
  have s0 : W4.cell? ⟨r, k * 13, none⟩ = some v0 := r0
  have s1 : W4.cell? ⟨r, k * 13 + 1, none⟩ = some v1 := r1
  have s2 : W4.cell? ⟨r, k * 13 + 2, none⟩ = some v2 := r2
  have s3 : W4.cell? ⟨r, k * 13 + 3, none⟩ = some v3 := r3
  have s4 : W4.cell? ⟨r, k * 13 + 4, none⟩ = some v4 := r4
  have s5 : W4.cell? ⟨r, k * 13 + 5, none⟩ = some v5 := r5
  have s6 : W4.cell? ⟨r, k * 13 + 6, none⟩ = some v6 := r6
  have s7 : W4.cell? ⟨r, k * 13 + 7, none⟩ = some v7 := r7
  have s8 : W4.cell? ⟨r, k * 13 + 8, none⟩ = some v8 := r8
  have s9 : W4.cell? ⟨r, k * 13 + 9, none⟩ = some v9 := r9
  have s10 : W4.cell? ⟨r, k * 13 + 10, none⟩ = some v10 := r10
  have s11 : W4.cell? ⟨r, k * 13 + 11, none⟩ = some v11 := r11
  have s12 : W4.cell? ⟨r, k * 13 + 12, none⟩ = some v12 := r12
  have t0 : W4.frozen? ⟨r, k * 13, none⟩ = false := z0
  have t1 : W4.frozen? ⟨r, k * 13 + 1, none⟩ = false := z1
  have t2 : W4.frozen? ⟨r, k * 13 + 2, none⟩ = false := z2
  have t3 : W4.frozen? ⟨r, k * 13 + 3, none⟩ = false := z3
  have t4 : W4.frozen? ⟨r, k * 13 + 4, none⟩ = false := z4
  have t5 : W4.frozen? ⟨r, k * 13 + 5, none⟩ = false := z5
  have t6 : W4.frozen? ⟨r, k * 13 + 6, none⟩ = false := z6
  have t7 : W4.frozen? ⟨r, k * 13 + 7, none⟩ = false := z7
  have t8 : W4.frozen? ⟨r, k * 13 + 8, none⟩ = false := z8
  have t9 : W4.frozen? ⟨r, k * 13 + 9, none⟩ = false := z9
  have t10 : W4.frozen? ⟨r, k * 13 + 10, none⟩ = false := z10
  have t11 : W4.frozen? ⟨r, k * 13 + 11, none⟩ = false := z11
  have t12 : W4.frozen? ⟨r, k * 13 + 12, none⟩ = false := z12
  clear r0 r1 r2 r3 r4 r5 r6 r7 r8 r9 r10 r11 r12 z0 z1 z2 z3 z4 z5 z6 z7 z8 z9 z10 z11 z12
  go_region
  go_end0
  have hl := (HL.out W4 G4.out ⟨bu, ra, cr, q, tk, fw, mal, nc, dr + 1, dl, nb, fl + 1⟩ rfl).grow0 n8 (grownBy_drew _ none)
  unfold set13 at hl
  simp only [HNq.out] at hl
  exact ⟨rfl, hl⟩
end
end Go.Proofs.Ytakofhhfdgankaa.Br
