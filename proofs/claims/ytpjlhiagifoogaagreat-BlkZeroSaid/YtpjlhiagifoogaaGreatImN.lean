/-
  Package image: has, Clone of bytes, Base, Read, Trim.
-/
import Derived.Test.YtpjlhiagifoogaaGreatImM
import Derived.Deep.AppendLies
import Derived.Lib.SliceRun
import Derived.Laws.AppendOwnNone
set_option linter.unusedSimpArgs false
set_option linter.unusedVariables false
namespace Go.Proofs.YtpjlhiagifoogaaGreat.Imx
open Go.RowKit Gen CM
set_option maxHeartbeats 1000000

theorem wpList_exec {P : Program} {ops : Array Oper} {rest : List Oper} {o : Oper} {a : Act} {w w' : World} {Q : Exit → Act → World → Prop} {v : Value} (hgd : o.guard = none)
    (hrun : (execOp a.eval o).run P w = .ok (.value v) w') (h : wpList P ops Q rest (a.put o.dst v) w') : wpList P ops Q (o :: rest) a w :=
  wpList_plain hgd fun K hK => by
    unfold Oper.wp
    rw [hrun]
    exact hK _ _ h
theorem grownBy_setRow (w : World) (b : Nat) (cs : Array Value) : w.grownBy (w.setRow b cs) (some b) :=
  ⟨rfl, rfl, rfl, by simp, fun k _ hk => setRow_other w b k cs (fun e => hk (by rw [e]))⟩
/-- block g holds the 64 bytes l -/
def BlkAt (w : World) (g : Nat) (l : List UInt8) : Prop := w.heap[g]? = some (.cells (blkC l) 191 (0, 0)) ∧ l.length = 64
theorem BlkAt.grown {w w' : World} {g : Nat} {l : List UInt8} {row : Option Nat} (h : BlkAt w g l) (hg : w.grownBy w' row) (hr : some g ≠ row) : BlkAt w' g l :=
  ⟨(hg.block g (Array.getElem?_eq_some_iff.1 h.1).1 hr).trans h.1, h.2⟩
theorem BlkAt.cell {w : World} {g : Nat} {l : List UInt8} (h : BlkAt w g l) {k : Nat} (hk : k < 64) : w.cell? ⟨g, k, none⟩ = some (.int .u8 (l.getD k 0).toNat) := by
  rw [cell_of_row w g k _ _ _ h.1, blkC_at (by rw [h.2]; exact hk)]
theorem wpList_alloc_blk {ops : Array Oper} {rest : List Oper} {o : Oper} {a : Act} {w : World} {Q : Exit → Act → World → Prop} (hgd : o.guard = none) (ho : o.op = .alloc 191)
    (h : ∀ w', w'.heap.size = w.heap.size + 1 → BlkAt w' w.heap.size zs64 → w.grownBy w' none → wpList Tryz.prog ops Q rest (a.put o.dst (.pointer (some ⟨w.heap.size, 0, none⟩))) w') : wpList Tryz.prog ops Q (o :: rest) a w :=
  wpList_exec hgd (w' := w.alloc (.cells (blkC zs64) 191)) (by have hz := zero_blk; clear h; unfold execOp; simp [ho, Instr.alloc, hz, newVar, newRow, Value.cells, run_newObj_alloc, -Tryz.zeroValue191]) (h _ (by simp) ⟨heap_alloc_new w _, zs64_len⟩ (World.grownBy_alloc w _ none))
theorem wpList_store_blk {ops : Array Oper} {rest : List Oper} {o : Oper} {a : Act} {w : World} {Q : Exit → Act → World → Prop} (hgd : o.guard = none) (x y : Operand) (ho : o.op = .store 191 x y)
    (g : Nat) (l : List UInt8) (hl : l.length = 64) (hx : a.eval x = .pointer (some ⟨g, 0, none⟩)) (hy : a.eval y = .agg (blkC l)) (old : List UInt8) (hg : BlkAt w g old)
    (h : ∀ w', w'.heap.size = w.heap.size → BlkAt w' g l → w.grownBy w' (some g) → wpList Tryz.prog ops Q rest (a.put o.dst undef) w') : wpList Tryz.prog ops Q (o :: rest) a w :=
  wpList_store_row hgd 191 x y ho g (blkC l) hx hy _ (blkC old) hg.1 (by rw [blkC_size, hl]; exact blk_size) (by rw [blkC_size, blkC_size, hl, hg.2]) (blkC_all l)
    (h _ (by simp) ⟨setRow_heap _ _ _ _ _ _ hg.1, hl⟩ (grownBy_setRow _ _ _))
theorem wpList_load_blk {ops : Array Oper} {rest : List Oper} {o : Oper} {a : Act} {w : World} {Q : Exit → Act → World → Prop} (hgd : o.guard = none) (x : Operand) (ho : o.op = .load 191 x)
    (g : Nat) (l : List UInt8) (hx : a.eval x = .pointer (some ⟨g, 0, none⟩)) (hg : BlkAt w g l) (h : wpList Tryz.prog ops Q rest (a.put o.dst (.agg (blkC l))) w) : wpList Tryz.prog ops Q (o :: rest) a w :=
  wpList_load_row hgd 191 x ho g hx _ (blkC l) _ _ hg.1 Tryz.underlying191 rfl (by rw [blkC_size, hg.2]; exact blk_size) h
theorem run_sliceBlk (w : World) (b o : Nat) : (Instr.sliceAt 191 (.pointer (some ⟨b, o, none⟩)) none none none).run Tryz.prog w = .ok (.slice (some ⟨b, o, none⟩) 64 64) w := by
  have i5 := u8_size
  cases h5 : Tryz.prog.info? 5 with
  | none => rw [h5] at i5; cases i5
  | some x =>
  rw [h5] at i5
  simp only [Option.map_some, Option.some.injEq] at i5
  simp [Instr.sliceAt, run_underlying Tryz.underlying191, Instr.sureAddr, Instr.sliceBounds, Instr.sliceBound, asIntOf, sizeOf, typeInfo, h5, i5, Addr.add]
theorem wpList_slice_blk {ops : Array Oper} {rest : List Oper} {o : Oper} {a : Act} {w : World} {Q : Exit → Act → World → Prop} (hgd : o.guard = none) (x : Operand) (ho : o.op = .slice 191 x none none none)
    (b p : Nat) (hx : a.eval x = .pointer (some ⟨b, p, none⟩)) (h : wpList Tryz.prog ops Q rest (a.put o.dst (.slice (some ⟨b, p, none⟩) 64 64)) w) : wpList Tryz.prog ops Q (o :: rest) a w :=
  wpList_exec hgd (by unfold execOp; simp [ho, hx, run_sliceBlk w b p]) h

/-- what a look-up in the map gives -/
def Im.val (I : Im) (s : Int) : List UInt8 := (I.own s).getD zs64
theorem Im.val_len {I : Im} (h : I.ok) (s : Int) : (I.val s).length = 64 := by
  unfold Im.val
  cases e : I.own s with
  | none => exact zs64_len
  | some l => exact (h.dom s l e).2.2
theorem val_eq (I : Im) (s : Int) : (blkF I.own s).getD (.agg (blkC zs64)) = .agg (blkC (I.val s)) := by
  unfold blkF Im.val; cases I.own s <;> rfl
theorem has_eq (I : Im) (s : Int) : (blkF I.own s).isSome = I.has s := blkF_some _ _
section
variable {w : World} {b g m : Nat} {I : Im}
theorem ihas (h : PI w b g m I) (hok : I.ok) (s : Int) (hs : I64 s) : Calls Tryz.prog 211 #[.pointer (some ⟨b, 0, none⟩), .int .i64 s] w fun e w' => e = .returned (.bool (I.has s)) ∧ w.grownBy w' none := by
  have c1 := h.c1
  have HM := hid h.map
  have HS := hid hs
  have HL := hid (Im.val_len hok s)
  have HV := hid (val_eq I s)
  have HH := hid (has_eq I s)
  clear h hok hs
  go_enter Tryz.func211, Tryz.ntmps211
  go_wp2_with (first
    | (at_lookup; refine wpList_look_ok_cmap _ rfl _ _ 187 rfl 3 191 int_key Tryz.underlying3 Tryz.underlying187 _ (zero_blk _) m I.used (blkF I.own) rfl HM.out s rfl HS.out ?_; rw [HV.out, HH.out])
    | (refine wpList_alloc_blk rfl rfl ?_; intro w1 hs1 hb1 hg1; have HB1 := hid hb1; have HG1 := hid hg1; clear hs1 hb1 hg1)
    | (refine wpList_store_blk rfl (.tmp 5) (.tmp 14) rfl _ (I.val s) HL.out rfl rfl zs64 HB1.out ?_; intro w2 hs2 hb2 hg2; have HG2 := hid hg2; clear hs2 hb2 hg2))
  go_ret
  exact ⟨rfl, HG1.out.andThen HG2.out fun j hj => by cases hj; exact .inl (Nat.le_refl _)⟩
end
end Go.Proofs.YtpjlhiagifoogaaGreat.Imx
