/-
  Package image: Write.
-/
import Derived.Test.YtpjlhiagifoogaaGreatImR
import Derived.StillTailTactics
import Derived.Deep.MidRow
set_option linter.unusedSimpArgs false
set_option linter.unusedVariables false
namespace Go.Proofs.YtpjlhiagifoogaaGreat.Imx
open Go.RowKit Gen CM
set_option maxHeartbeats 1000000

theorem wpList_copy_blk {ops : Array Oper} {rest : List Oper} {o : Oper} {a : Act} {w : World} {Q : Exit → Act → World → Prop} (hgd : o.guard = none) (d s : Operand)
    (ho : o.op = .call { callee := .builtin .copy, args := #[d, s], argTypes := #[30, 30] })
    (g : Nat) (hd : a.eval d = .slice (some ⟨g, 0, none⟩) 64 64) (p : Option Addr) (cap : Nat) (l : List UInt8) (hl : l.length = 64) (hs : a.eval s = .slice p 64 cap) (old : List UInt8) (hg : BlkAt w g old) (hb : BA w p l)
    (h : ∀ w', w'.heap.size = w.heap.size → BlkAt w' g l → w.grownBy w' (some g) → wpList Tryz.prog ops Q rest (a.put o.dst (goInt (bcells l).length)) w') : wpList Tryz.prog ops Q (o :: rest) a w := by
  have hbl := bcells_len l
  obtain ⟨b0, o0, rfl, -⟩ := hb 0 (by omega)
  refine wpList_copy_own hgd d s 30 30 ho 5 Tryz.underlying30 u8_size g 0 64 64 ⟨b0, o0, none⟩ 64 cap hd hs (blkC old) 191 hg.1 (bcells l) (by rw [hbl, hl]; rfl) ?_ (by rw [hbl, hl, blkC_size, hg.2]; decide) (bcells_one l) ?_
  · intro j v hv
    have hj := (List.getElem?_eq_some_iff.1 hv).1
    rw [hbl] at hj
    rw [bcells_at hj] at hv
    obtain ⟨b1, o1, e, hc⟩ := hb j hj
    cases e
    have e : (⟨b0, o0, none⟩ : Addr).add j = ⟨b0, o0 + j, none⟩ := by unfold Addr.add; split <;> simp_all
    rw [e, hc]
    exact hv
  · refine h _ (by simp) ⟨?_, hl⟩ (grownBy_setRow _ _ _)
    rw [setRow_heap _ _ _ _ _ _ hg.1]
    congr 2
    have h2 := blkC_size old
    rw [hg.2] at h2
    simp [hbl, hl, h2, blkC]
    rw [bcells_len, hg.2]
    exact Nat.le_refl _
theorem run_load_blk {w : World} {g : Nat} {l : List UInt8} (h : BlkAt w g l) (n : Nat) : (Instr.loadAt 191 (.pointer (some ⟨g, 0, none⟩))).run Tryz.prog (w.drewN n) = .ok (.agg (blkC l)) (w.drewN n) := by
  have e := run_loadAt_mid (P := Tryz.prog) (w.drewN n) g 0 191 (bcells l) _ (fun j v hv => by
    have hj := (List.getElem?_eq_some_iff.1 hv).1
    rw [bcells_len, h.2] at hj
    rw [bcells_at (by rw [h.2]; exact hj)] at hv
    cases hv
    rw [Nat.zero_add]
    exact h.cell hj) Tryz.underlying191 rfl (by rw [bcells_len, h.2]; exact blk_size)
  unfold blkC
  exact e
theorem wpStill_load_blk {ops : Array Oper} {o : Oper} {rest : List Oper} {a : Act} {w : World} {Q : Act → Prop} (hw : Region.wanted o (yielded ops a.tmps) = true) (x : Operand) (ho : o.op = .load 191 x)
    {g : Nat} {l : List UInt8} (hx : a.eval x = .pointer (some ⟨g, 0, none⟩)) (hg : BlkAt w g l) (h : wpStill Tryz.prog ops w Q rest (a.put o.dst (.agg (blkC l)))) : wpStill Tryz.prog ops w Q (o :: rest) a := by
  refine wpStill_step fun K hK => ?_
  rw [if_pos hw]
  unfold Oper.still
  have e : (execOp a.eval o).run Tryz.prog w = .ok (.value (.agg (blkC l))) w := by
    have e0 := run_load_blk hg 0
    rw [show w.drewN 0 = w from rfl] at e0
    unfold execOp
    simp [ho, hx, e0, Result.andThen]
  rw [e, Oper.stillUpon_value]
  exact hK _ h
theorem wpList_mapUpdate_run {ops : Array Oper} {rest : List Oper} {o : Oper} {a : Act} {w w' : World} {Q : Exit → Act → World → Prop} (hg : o.guard = none) (m x v : Operand) (t : TypeId) (hop : o.op = Op.mapUpdate t m x v) {mv xv vv : Value}
    (hm : a.eval m = mv) (hx : a.eval x = xv) (hv : a.eval v = vv) (hrun : (Instr.mapUpdate t mv xv vv).run Tryz.prog w = .ok () w') (hK : wpList Tryz.prog ops Q rest (a.put o.dst undef) w') : wpList Tryz.prog ops Q (o :: rest) a w := by
  refine wpList_plain hg fun K' hK' => ?_
  unfold Oper.wp
  simp [execOp, hop, hm, hx, hv, hrun, Result.andThen]
  exact hK' _ _ hK
theorem iWrite_none (p q : Option Addr) (n c : Nat) (s : Int) (w : World) (h : NoI w p) : Calls Tryz.prog 143 #[.pointer p, .int .i64 s, .slice q n c] w fun e w' => e = .returned (.int .i64 7) ∧ w = w' := by
  have H := hid h
  clear h
  go_enter Tryz.func143, Tryz.ntmps143
  go_wp2_with (go_at_call 110; refine (ilook_none _ _ _ H.out).mono ?_; rintro e w' ⟨rfl, rfl⟩)
  go_ret
  exact ⟨rfl, rfl⟩
section
variable {w : World} {b g m : Nat} {I : Im}
theorem PI.set (H : PI w b g m I) {w' : World} {s : Int} {l : List UInt8} (hm : IMb w' m (if (blkF I.own s).isSome = true then I.used else I.used + 1) (fun i => if i = s then some (.agg (blkC l)) else blkF I.own i)) (hg : w.grownBy w' (some m)) : PI w' b g m (I.set s l) := by
  rw [has_eq] at hm
  refine ⟨H.top.grown hg (by have := H.mb; simp; omega), H.base.grown hg (by have := H.mg; simp; omega), ?_⟩
  refine hm.congr fun x => ?_
  unfold blkF Im.set
  by_cases e : x = s <;> simp [e]
theorem grown_drewN (w : World) (n : Nat) : w.grownBy (w.drewN n) none := ⟨rfl, rfl, rfl, Nat.le_refl _, fun _ _ _ => rfl⟩
set_option maxRecDepth 100000 in
theorem iWrite_set (h : PI w b g m I) (hok : I.ok) (s : Int) (p : Option Addr) (l : List UInt8) (c : Nat) (hl : l.length = 64) (hb : BA w p l) (hs : I.is s = true) (hr : I.has s = true ∨ (I.has s = false ∧ I.used ≠ I.most)) :
    Calls Tryz.prog 143 #[.pointer (some ⟨b, 0, none⟩), .int .i64 s, .slice p 64 c] w fun e w' => e = .returned (.int .i64 0) ∧ IL w b g m (I.set s l) w' := by
  have H := hid h
  have hI := is_i64 hok hs
  have HI := hid hI
  have HS := hid hs
  have HX := hid (ihas h hok s hI)
  have HF := hid (fun (w' : World) (hg : w.grownBy w' none) => iFree (h.grown hg) hok)
  have HT := hid (show I.used < maxLen by have := hok.le; have := hok.most256; unfold maxLen; omega)
  have HB := hid (fun (w' : World) (hg : w.grownBy w' none) => hb.grown hg)
  have HL := hid hl
  have HU := hid (show I.has s = false → (((I.most : Int) - I.used) == 0) = false from fun hh => by
    rcases hr with hr | hr
    · rw [hh] at hr; cases hr
    · have := hr.2; have := hok.le; simp; omega)
  clear h hs hr hb hl hI hok
  cases hh : I.has s with
  | true =>
    rw [hh] at HX
    clear HU HF hh
    go_enter Tryz.func143, Tryz.ntmps143
    go_wp2_with (first
      | (go_at_call 110; refine (ilook_yes H.out _ HS.out).mono ?_; rintro e w' ⟨rfl, rfl⟩)
      | (go_at_call 211; refine HX.out.mono ?_; rintro e w1 ⟨rfl, g1⟩; have G1 := hid g1; clear g1)
      | (refine wpList_alloc_blk rfl rfl ?_; intro w2 hs2 hb2 hg2; have HB2 := hid hb2; have HG2 := hid (G1.out.trans hg2); clear hs2 hb2 hg2)
      | (refine wpList_slice_blk rfl (.tmp 8) rfl _ 0 rfl ?_)
      | (refine wpList_copy_blk rfl (.tmp 27) (.tmp 28) rfl _ rfl p c l HL.out rfl zs64 HB2.out (HB.out _ HG2.out) ?_; intro w3 hs3 hb3 hg3; have HB3 := hid hb3; have HG3 := hid hg3; clear hs3 hb3 hg3))
    have H4 := hid (H.out.grown (HG2.out.andThen HG3.out fun j hj => by cases hj; exact .inl G1.out.size))
    have HG4 := hid (HG2.out.andThen HG3.out fun j hj => by cases hj; exact .inl G1.out.size)
    have c1 := H4.out.c1
    clear HG3 HB2 HG2 G1 HX HB
    go_still_tail 6, (by kernel_rfl)
    refine wpStill_load_blk (by rfl) (.tmp 8) rfl rfl (show BlkAt w3.drew _ l from HB3.out) ?_
    refine wpStill_nil ?_
    change wpList _ _ _ _ _ w3.drew
    go_wp2_with (at_mapUpdate; obtain ⟨w5, hrun, h5, g5⟩ := H4.out.drew.map.put w3.drew int_key Tryz.underlying3 Tryz.underlying187 HT.out HI.out (.agg (blkC l)); refine wpList_mapUpdate_run rfl (.tmp 33) (.tmp 34) (.tmp 35) 187 rfl rfl rfl rfl hrun ?_; have H5 := hid (H4.out.drew.set h5 g5); have G5 := hid g5; clear hrun h5 g5)
    go_ret
    exact ⟨rfl, H5.out, ((Chg.of0 (S := fun k => k = m) (HG4.out.trans (grownBy_drew _ _))).trans (Chg.one G5.out (S := fun k => k = m) rfl) fun _ e => .inl e)⟩
  | false =>
    rw [hh] at HX
    have hu := HU.out hh
    clear HU hh
    go_enter Tryz.func143, Tryz.ntmps143
    go_wp2_with (first
      | (go_at_call 110; refine (ilook_yes H.out _ HS.out).mono ?_; rintro e w' ⟨rfl, rfl⟩)
      | (go_at_call 211; refine HX.out.mono ?_; rintro e w1 ⟨rfl, g1⟩; have G1 := hid g1; clear g1)
      | (go_at_call 104; refine (HF.out _ G1.out).mono ?_; rintro e w' ⟨rfl, n, rfl⟩; have G2 := hid (G1.out.trans (grown_drewN w1 n)))
      | (refine wpList_alloc_blk rfl rfl ?_; intro w2 hs2 hb2 hg2; have HB2 := hid hb2; have HG2 := hid (G2.out.trans hg2); clear hs2 hb2 hg2)
      | (refine wpList_slice_blk rfl (.tmp 8) rfl _ 0 rfl ?_)
      | (refine wpList_copy_blk rfl (.tmp 27) (.tmp 28) rfl _ rfl p c l HL.out rfl zs64 HB2.out (HB.out _ HG2.out) ?_; intro w3 hs3 hb3 hg3; have HB3 := hid hb3; have HG3 := hid hg3; clear hs3 hb3 hg3))
    have H4 := hid (H.out.grown (HG2.out.andThen HG3.out fun j hj => by cases hj; exact .inl G2.out.size))
    have HG4 := hid (HG2.out.andThen HG3.out fun j hj => by cases hj; exact .inl G2.out.size)
    have c1 := H4.out.c1
    clear HG3 HB2 HG2 G1 G2 HX HB HF hu
    go_still_tail 6, (by kernel_rfl)
    refine wpStill_load_blk (by rfl) (.tmp 8) rfl rfl (show BlkAt w3.drew _ l from HB3.out) ?_
    refine wpStill_nil ?_
    change wpList _ _ _ _ _ w3.drew
    go_wp2_with (at_mapUpdate; obtain ⟨w5, hrun, h5, g5⟩ := H4.out.drew.map.put w3.drew int_key Tryz.underlying3 Tryz.underlying187 HT.out HI.out (.agg (blkC l)); refine wpList_mapUpdate_run rfl (.tmp 33) (.tmp 34) (.tmp 35) 187 rfl rfl rfl rfl hrun ?_; have H5 := hid (H4.out.drew.set h5 g5); have G5 := hid g5; clear hrun h5 g5)
    go_ret
    exact ⟨rfl, H5.out, ((Chg.of0 (S := fun k => k = m) (HG4.out.trans (grownBy_drew _ _))).trans (Chg.one G5.out (S := fun k => k = m) rfl) fun _ e => .inl e)⟩
theorem PI.far (H : PI w b g m I) {w' : World} (hg : w.grownBy w' none) : IL w b g m I w' := ⟨H.grown hg, Chg.of0 hg⟩
set_option maxRecDepth 100000 in
theorem iWrite (h : PI w b g m I) (hok : I.ok) (s : Int) (p : Option Addr) (l : List UInt8) (c : Nat) (hll : l.length ≤ 9223372036854775807) (hb : BA w p l) :
    Calls Tryz.prog 143 #[.pointer (some ⟨b, 0, none⟩), .int .i64 s, .slice p l.length c] w fun e w' => e = .returned (.int .i64 (I.writeE s l).2) ∧ IL w b g m (I.writeE s l).1 w' := by
  rcases I.write_cases s l with ⟨hs, e⟩ | ⟨hs, hl, e⟩ | ⟨hs, hl, hh, hu, e⟩ | ⟨hs, hl, hh, e⟩ | ⟨hs, hl, hh, hu, e⟩ <;> rw [e]
  · have H := hid h
    have HS := hid hs
    clear h hok hs e hb
    go_enter Tryz.func143, Tryz.ntmps143
    go_wp2_with (go_at_call 110; refine (ilook_no H.out _ HS.out).mono ?_; rintro e w' ⟨rfl, rfl⟩)
    go_ret
    exact ⟨rfl, H.out.far (grownBy_refl _ _)⟩
  · have H := hid h
    have HS := hid hs
    have hne : ((l.length : Int) == 64) = false := by simp; omega
    have hne' : ¬ (l.length : Int) = 64 := by omega
    clear h hok hs e hb hl
    go_enter Tryz.func143, Tryz.ntmps143
    go_wp2_with (go_at_call 110; refine (ilook_yes H.out _ HS.out).mono ?_; rintro e w' ⟨rfl, rfl⟩)
    go_ret
    exact ⟨rfl, H.out.far (grownBy_refl _ _)⟩
  · have H := hid h
    have HS := hid hs
    have HX := hid (ihas h hok s (is_i64 hok hs))
    have HF := hid (fun (w' : World) (hg : w.grownBy w' none) => iFree (h.grown hg) hok)
    rw [hh] at HX
    have hz : (((I.most : Int) - I.used) == 0) = true := by rw [hu]; simp
    rw [hl]
    clear h hok hs e hb hl hh hu hll
    go_enter Tryz.func143, Tryz.ntmps143
    go_wp2_with (first
      | (go_at_call 110; refine (ilook_yes H.out _ HS.out).mono ?_; rintro e w' ⟨rfl, rfl⟩)
      | (go_at_call 211; refine HX.out.mono ?_; rintro e w1 ⟨rfl, g1⟩; have G1 := hid g1; clear g1)
      | (go_at_call 104; refine (HF.out _ G1.out).mono ?_; rintro e w' ⟨rfl, n, rfl⟩; have G2 := hid (G1.out.trans (grown_drewN w1 n))))
    go_ret
    exact ⟨rfl, H.out.far G2.out⟩
  · rw [hl]; exact iWrite_set h hok s p l c hl hb hs (.inl hh)
  · rw [hl]; exact iWrite_set h hok s p l c hl hb hs (.inr ⟨hh, hu⟩)
end
end Go.Proofs.YtpjlhiagifoogaaGreat.Imx
