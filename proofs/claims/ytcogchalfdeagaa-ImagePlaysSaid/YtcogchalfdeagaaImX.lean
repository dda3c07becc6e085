/-
  The laws of image: what an Op writes, awake.
-/
import Derived.Test.YtcogchalfdeagaaImW
import Derived.Laws.OwnMore
import Derived.Laws.AppendOwnNone
set_option linter.unusedSimpArgs false
set_option linter.unusedVariables false
namespace Go.Proofs.Ytcogchalfdeagaa
open Go.RowKit Gen CM
set_option maxHeartbeats 1000000

/-- a call that came in -/
structure OpV where
  what : Int
  a : Int
  b : Int
  fill : UInt8
  p : Option Addr
  l : List UInt8
  c : Nat
def OpV.val (o : OpV) : Value := .agg #[.int .i64 o.what, .int .i64 o.a, .int .i64 o.b, .int .u8 o.fill.toNat, .slice o.p o.l.length o.c]
def OpV.out (o : OpV) : List UInt8 := if o.l = [] then List.replicate 64 o.fill else o.l
structure OpV.fits (o : OpV) (w : World) : Prop where
  what : I64 o.what
  a : I64 o.a
  b : I64 o.b
  ba : BA w o.p o.l
  len : o.l.length ≤ 140737488351232
  nil : o.p = none → o.c = 0
  cap : o.l.length ≤ o.c
theorem OpV.fits.grown {o : OpV} {w w' : World} (h : o.fits w) (hg : w.grownBy w' none) : o.fits w' := ⟨h.what, h.a, h.b, h.ba.grown hg, h.len, h.nil, h.cap⟩
theorem OpV.out_len {o : OpV} (h : o.l.length ≤ 140737488351232) : o.out.length ≤ 140737488351232 := by
  unfold OpV.out
  split
  · simp
  · exact h
/-- the first k bytes are x, the others 0 -/
def fillC (x : UInt8) (k : Nat) : List Value := bcells (List.replicate k x ++ List.replicate (64 - k) 0)
theorem fillC_len (x : UInt8) (k : Nat) (hk : k ≤ 64) : (fillC x k).length = 64 := by unfold fillC; rw [bcells_len]; simp; omega
theorem fillC_set (x : UInt8) (k : Nat) (hk : k < 64) : (fillC x k).set k (.int .u8 x.toNat) = fillC x (k + 1) := by
  apply List.ext_getElem?
  intro j
  unfold fillC
  rw [List.getElem?_set, bcells_get, bcells_get, bcells_len]
  by_cases h : k = j
  · subst h
    rw [if_pos rfl, if_pos (by simp; omega), List.getElem?_append_left (by simp)]
    simp
  · rw [if_neg h]
    by_cases h2 : j < k
    · rw [List.getElem?_append_left (by simpa using h2), List.getElem?_append_left (by simp; omega)]
      simp [List.getElem?_replicate, h2, show j < k + 1 by omega]
    · rw [List.getElem?_append_right (by simp; omega), List.getElem?_append_right (by simp; omega)]
      simp only [List.length_replicate, List.getElem?_replicate]
      by_cases h3 : j < 64
      · rw [if_pos (by omega), if_pos (by omega)]
      · rw [if_neg (by omega), if_neg (by omega)]
theorem make_z (w : World) (n : Nat) (hn : n ≤ 16777216) : ∃ w', (Instr.makeSlice 22 (.int .i64 n) (.int .i64 n)).run Try.prog w = .ok (.slice (some ⟨w.heap.size, 0, none⟩) n n) w' ∧
    w'.ownsRow w.heap.size 5 1 (.slice (some ⟨w.heap.size, 0, none⟩) n n) n (bcells (List.replicate n 0)) ∧ w.grownBy w' none := by
  obtain ⟨i0, hi, hz0, hz1, hz2⟩ := info_parts info_u8
  obtain ⟨w', h1, h2, h3⟩ := run_makeSlice_full w w.heap.size 22 5 i0 (.int .u8 0) 1 Try.underlying22 hi hz0 hz1 .i64 .i64 n (by omega) (by rw [hz2]; omega) (by unfold maxLen; omega) (Nat.le_refl _)
  refine ⟨w', h1, ?_, h3⟩
  have e : (madeCells (Value.cells (.int .u8 0)) (n * 1)).toList = bcells (List.replicate n 0) := by
    apply List.ext_getElem?
    intro j
    rw [bcells_get, List.getElem?_replicate]
    simp only [madeCells, Value.cells]
    by_cases h : j < n <;> simp [h, Nat.mod_one]
  rw [e] at h2
  exact h2
set_option maxRecDepth 100000 in
theorem lBytes_fill (o : OpV) (w : World) (h0 : o.l = []) : Calls Try.prog 12 #[o.val] w fun e w' => ∃ v, e = .returned v ∧ NewB w (List.replicate 64 o.fill) v w' := by
  obtain ⟨what, a, b, x, p, l, c⟩ := o
  simp only at h0
  subst h0
  simp only [OpV.val, List.length_nil]
  obtain ⟨W, hW, hg, c3⟩ : ∃ W, w.alloc (.cells #[.int .i64 what, .int .i64 a, .int .i64 b, .int .u8 x.toNat, .slice p 0 c] 32) = W ∧ w.grownBy W none ∧ W.cell? ⟨w.heap.size, 3, none⟩ = some (.int .u8 x.toNat) ∧ W.cell? ⟨w.heap.size, 4, none⟩ = some (.slice p 0 c) :=
    ⟨_, rfl, World.grownBy_alloc _ _ _, by simp [go_sem], by simp [go_sem]⟩
  obtain ⟨c3, c4⟩ := c3
  obtain ⟨W1, hmk, hown, hg1⟩ := make_z W 64 (by omega)
  simp only [Int.cast_ofNat_Int] at hmk
  have HO := hid hown
  have HG := hid (hg.trans hg1)
  have HS := hid hg.size
  have d3 := hid (hg1.cell c3 (by simp))
  have HX := hid (show w.heap.size < W.heap.size by rw [← hW]; simp)
  clear hown hg hg1 c3
  go_enter Try.func12, Try.ntmps12
  go_wp2
  clear hmk hW c4
  obtain ⟨G, hG⟩ : ∃ G, W.heap.size = G := ⟨_, rfl⟩
  rw [hG] at HO HX HS
  rw [hG]
  clear hG
  go_loopw [4] (fun i wr => ∃ k : Nat, i = .int .i64 k ∧ k ≤ 64 ∧ wr.ownsRow G 5 1 (.slice (some ⟨G, 0, none⟩) 64 64) 64 (fillC x k) ∧ w.grownBy wr none ∧ wr.cell? ⟨w.heap.size, 3, none⟩ = some (.int .u8 x.toNat)) (fun i _ => 64 - (intOf i).toNat)
  case atStart => exact ⟨0, rfl, by omega, by have := HO.out; simpa [fillC] using this, HG.out, d3.out⟩
  case round =>
    obtain ⟨k, rfl, hk, ho, hg, c3⟩ := hrel
    have HO1 := hid ho
    have HG1 := hid hg
    have hcell0 := ho.cellAt k
    have hfz := ho.frozenAt k
    clear ho hg HO HG
    have hk0 : (0 : Int) ≤ k := by omega
    by_cases hlt : k < 64
    · have hlt' : (k : Int) < 64 := by omega
      obtain ⟨u, hu⟩ : ∃ u, wr.cell? ⟨G, k, none⟩ = some u := by
        rw [hcell0 (by omega), List.getElem?_eq_getElem (by rw [fillC_len x k hk]; exact hlt)]
        exact ⟨_, rfl⟩
      clear hcell0
      have HT := hid (HO1.out.stored k (.int .u8 x.toNat))
      go_wp2
      go_roundw
      case rel =>
        refine ⟨k + 1, by go_num, by omega, by rw [← fillC_set x k hlt]; exact HT.out.1, HG1.out.andThen HT.out.2 (fun j hj => by cases hj; exact .inl HS.out), ?_⟩
        exact HT.out.2.cell c3 (by have := HX.out; simp; omega)
      case measure => simp [intOf]; omega
    · obtain rfl : k = 64 := by omega
      clear hcell0 hfz
      go_wp2
      go_ret
      refine ⟨_, rfl, own_lower (base := G) ?_ HS.out, HG1.out⟩
      have := HO1.out
      simpa [fillC] using this
/-- 'append([]byte{}, s...)' -/
theorem wpList_append_empty {ops : Array Oper} {rest : List Oper} {o : Oper} {a : Act} {w0 : World} {Q : Exit → Act → World → Prop} (hgd : o.guard = none) (x y : Operand)
    (hop : o.op = .call { callee := .builtin .append, args := #[x, y], argTypes := #[22, 22] })
    (hx : a.eval x = .slice (some ⟨w0.heap.size, 0, none⟩) 0 0) (p : Option Addr) (l : List UInt8) (c : Nat) (hy : a.eval y = .slice p l.length c) (hb : BA w0 p l) (hl : l.length ≤ 140737488351232) (hn : p = none → c = 0)
    (h : ∀ v w', NewB w0 l v w' → wpList Try.prog ops Q rest (a.put o.dst v) w') : wpList Try.prog ops Q (o :: rest) a (w0.alloc (.cells #[] 5)) := by
  obtain ⟨i0, hi, hz0, hz1, hz2⟩ := info_parts info_u8
  have HG0 := World.grownBy_alloc w0 (.cells #[] 5) none
  have HOn := World.ownsRow_made (base := w0.heap.size) (e := 5) (size := 1) w0 #[] 0 (Nat.le_refl _) (by unfold maxLen; omega) (by simp)
  cases p with
  | none =>
    have hz : l = [] := by
      cases l with
      | nil => rfl
      | cons x l => obtain ⟨_, _, e, _⟩ := hb 0 (by simp); cases e
    subst hz
    rw [hn rfl] at hy
    refine wpList_append_own_none hgd x y 22 hop w0.heap.size 5 i0 1 Try.underlying22 hi _ 0 [] hx HOn hy ?_
    exact h _ _ ⟨by simpa [bcells] using HOn, HG0⟩
  | some ad =>
    refine wpList_append_own _ hgd x y 22 hop w0.heap.size 5 i0 (.int .u8 0) 1 1 Try.underlying22 hi hz0 hz1 hz2 rfl (by decide) _ 0 [] hx HOn ad l.length c (bcells l) hy (by rw [bcells_len, Nat.mul_one]) (fun j u hu => ?_) (bcells_one l) (by unfold maxLen; omega) (by omega) (by simp) ?_
    · have hj := (List.getElem?_eq_some_iff.1 hu).1
      rw [bcells_len] at hj
      obtain ⟨b, oo, e, hc⟩ := hb j hj
      cases e
      have e : (⟨b, oo, none⟩ : Addr).add j = ⟨b, oo + j, none⟩ := by unfold Addr.add; split <;> simp_all
      rw [bcells_at hj] at hu
      cases hu
      rw [e]
      exact HG0.cell hc (by simp)
    · intro v' w1 hown' hgrow _
      simp only [Nat.zero_add, List.nil_append] at hown'
      exact h _ _ ⟨hown', HG0.andThen hgrow (fun j hj => .inl (HOn.lt j hj).1)⟩
set_option maxRecDepth 100000 in
theorem lBytes (o : OpV) (w : World) (h : o.fits w) : Calls Try.prog 12 #[o.val] w fun e w' => ∃ v, e = .returned v ∧ NewB w o.out v w' := by
  by_cases h0 : o.l = []
  · unfold OpV.out
    rw [if_pos h0]
    exact lBytes_fill o w h0
  · have ho : o.out = o.l := by unfold OpV.out; rw [if_neg h0]
    rw [ho]
    obtain ⟨what, a, b, x, p, l, c⟩ := o
    have hl0 : (0 : Int) < l.length := by have : 0 < l.length := List.length_pos_iff.2 h0; omega
    simp only [OpV.val]
    obtain ⟨W, hW, hg, c4⟩ : ∃ W, w.alloc (.cells #[.int .i64 what, .int .i64 a, .int .i64 b, .int .u8 x.toNat, .slice p l.length c] 32) = W ∧ w.grownBy W none ∧ W.cell? ⟨w.heap.size, 4, none⟩ = some (.slice p l.length c) :=
      ⟨_, rfl, World.grownBy_alloc _ _ _, by simp [go_sem]⟩
    have c5 := fun ob => (World.grownBy_alloc W ob none).cell c4 (by simp)
    have HB := hid (h.ba.grown hg)
    have HL := hid h.len
    have HN := hid h.nil
    have HG := hid hg
    clear h h0 ho hg
    go_enter Try.func12, Try.ntmps12
    go_wp2_with (at_builtin; refine wpList_append_empty rfl (.tmp 9) (.tmp 11) rfl rfl p l c rfl HB.out HL.out HN.out ?_; intro v w1 hv; have HV := hid (hv.first HG.out); clear hv)
    go_ret
    exact ⟨v, rfl, HV.out⟩
set_option maxRecDepth 100000 in
theorem make_128 (w : World) : ∃ w', (Instr.makeSlice 22 (.int .i64 128) (.int .i64 128)).run Try.prog w = .ok (.slice (some ⟨w.heap.size, 0, none⟩) 128 128) w' ∧
    w'.ownsRow w.heap.size 5 1 (.slice (some ⟨w.heap.size, 0, none⟩) 128 128) 128 (bcells (List.replicate 128 0)) ∧ w.grownBy w' none := make_z w 128 (by omega)
set_option maxRecDepth 100000 in
/-- awake -/
theorem lAwake (w : World) : Calls Try.prog 19 #[] w fun e w' => e = .returned (.bool true) ∧ w.grownBy w' none := by
  obtain ⟨W1, hmk, hown, hg1⟩ := make_128 w
  have hnb : NewB w (List.replicate 128 0) (.slice (some ⟨w.heap.size, 0, none⟩) 128 128) W1 := ⟨by simpa using hown, hg1⟩
  obtain ⟨p, c, e, hba, _⟩ := hnb.ba
  simp only [List.length_replicate, Value.slice.injEq, true_and] at e
  obtain ⟨rfl, rfl⟩ := e
  have HN := hid (iNew_yes (some ⟨w.heap.size, 0, none⟩) (List.replicate 128 0) 128 1 W1 (by decide) hba (by simp))
  rw [List.length_replicate] at HN
  have HG := hid hg1
  have hok : (newI (List.replicate 128 0) 1).ok := newI_ok (by decide)
  have HOK := hid hok
  have en : (newI (List.replicate 128 0) 1).n = 2 := by simp [newI]
  have em : (newI (List.replicate 128 0) 1).most = 1 := by simp [newI]
  have eu : (newI (List.replicate 128 0) 1).used = 0 := by simp [newI]
  have HS := hid (fun (w' : World) (b g m : Nat) (h : PI w' b g m (newI (List.replicate 128 0) 1)) => iSectors h)
  have HF := hid (fun (w' : World) (b g m : Nat) (h : PI w' b g m (newI (List.replicate 128 0) 1)) => iFree h hok)
  rw [en] at HS
  rw [em, eu] at HF
  clear hown hg1 hnb hba hok en em eu
  go_enter Try.func19, Try.ntmps19
  go_wp2_with (first
    | (go_at_call 8; refine HN.out.mono ?_; rintro e w2 ⟨b, g, m, rfl, hi, _, _, _, hg⟩; have HI := hid hi; have HG2 := hid (HG.out.trans hg); clear hi hg)
    | (go_at_call 15; refine (HS.out _ _ _ _ HI.out).mono ?_; rintro e w' ⟨rfl, rfl⟩)
    | (go_at_call 14; refine (HF.out _ _ _ _ HI.out).mono ?_; rintro e w' ⟨rfl, n, rfl⟩))
  go_ret
  exact ⟨rfl, HG2.out.trans (grown_drewN _ _)⟩
end Go.Proofs.Ytcogchalfdeagaa
