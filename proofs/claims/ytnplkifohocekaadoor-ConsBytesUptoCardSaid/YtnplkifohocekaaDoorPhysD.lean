/-
  Contracts of package phys: blank, Free, Frame, Copy, New.
-/
import Derived.Test.YtnplkifohocekaaDoorPhysC
import Derived.Test.YtnplkifohocekaaDoorZero
import Derived.Maps.Range
import Derived.Maps.RangeWalk
set_option linter.unusedSimpArgs false
set_option linter.unusedVariables false
namespace Go.Proofs.YtnplkifohocekaaDoor
open Go.RowKit
set_option maxHeartbeats 400000

theorem run_zero {P : Program} {t : TypeId} {v : Value} (h : (P.info? t).bind (·.zero) = some v) (w : World) : (zeroValue t).run P w = .ok v w := by
  cases hq : P.info? t with
  | none => simp [hq] at h
  | some i => simp [hq] at h; simp [zeroValue, typeInfo, hq, h]
theorem zero55w (w : World) : (zeroValue 115).run Tryd.prog w = .ok (.agg zeroFr.cells) w := run_zero zero55 w
theorem zero58w (w : World) : (zeroValue 128).run Tryd.prog w = .ok (.agg (flatMach 0 zeroFr).cells) w := run_zero zero58 w
theorem zcFr : Tryd.zeroCells115 = zeroFr.cells := by
  have h := (zero55w default).symm.trans (Tryd.zeroValue115 default)
  simp only [Result.ok.injEq, Value.agg.injEq, and_true] at h
  exact h.symm
theorem zcMach : Tryd.zeroCells128 = (flatMach 0 zeroFr).cells := by
  have h := (zero58w default).symm.trans (Tryd.zeroValue128 default)
  simp only [Result.ok.injEq, Value.agg.injEq, and_true] at h
  exact h.symm

theorem Fr.cells_ext {f : Fr} {cs : Array Value} (hs : cs.size = 260) (h : ∀ k, k < 260 → cs[k]? = some (f.cell k)) : cs = f.cells := by
  apply Array.ext_getElem?
  intro k
  by_cases hk : k < 260
  · rw [h k hk, f.get_cells k hk]
  · rw [Array.getElem?_eq_none (by omega), Array.getElem?_eq_none (by rw [f.size_cells]; omega)]

/-- blank -/
theorem build_blank (w : World) : (Instr.build 115 #[(0, .agg #[.int .i64 (-1), .int .i64 0, .int .i64 0, .int .i64 0])]).run Tryd.prog w = .ok (.agg blankFr.cells) w := by
  have e : (((zeroFr.cells.setIfInBounds 0 (.int .i64 (-1))).setIfInBounds 1 (.int .i64 0)).setIfInBounds 2 (.int .i64 0)).setIfInBounds 3 (.int .i64 0) = blankFr.cells := by
    refine Fr.cells_ext (by simp [zeroFr.size_cells]) fun k hk => ?_
    simp only [Array.getElem?_setIfInBounds, Array.size_setIfInBounds, zeroFr.size_cells, zeroFr.get_cells k hk]
    match k, hk with | 0, _ => rfl | 1, _ => rfl | 2, _ => rfl | 3, _ => rfl | k + 4, _ => simp [Fr.cell, zeroFr, blankFr]
  have hz := zeroFr.size_cells
  have i44 : (Tryd.prog.info? 112).map (·.size) = some 4 := by kernel_rfl
  have i53 : (Tryd.prog.info? 113).map (·.size) = some 256 := by kernel_rfl
  cases h44 : Tryd.prog.info? 112 with
  | none => rw [h44] at i44; cases i44
  | some x =>
  cases h53 : Tryd.prog.info? 113 with
  | none => rw [h53] at i53; cases i53
  | some y =>
  rw [h44] at i44; rw [h53] at i53
  simp only [Option.map_some, Option.some.injEq] at i44 i53
  simp [Instr.build, zcFr, zero55w, run_underlying Tryd.underlying115, sizeOf, typeInfo, h44, h53, i44, i53, Instr.fill, Value.cells, hz, ← e]

theorem wpList_exec {P : Program} {ops : Array Oper} {rest : List Oper} {o : Oper} {a : Act} {w w' : World} {Q : Exit → Act → World → Prop} {v : Value} (hgd : o.guard = none)
    (hrun : (execOp a.eval o).run P w = .ok (.value v) w') (h : wpList P ops Q rest (a.put o.dst v) w') : wpList P ops Q (o :: rest) a w :=
  wpList_plain hgd fun K hK => by
    unfold Oper.wp
    rw [hrun]
    exact hK _ _ h
/-- the arm at a build of a frame out of its head -/
theorem wpList_build_blank {ops : Array Oper} {rest : List Oper} {o : Oper} {a : Act} {w : World} {Q : Exit → Act → World → Prop} (hgd : o.guard = none) (x : Operand) (ho : o.op = .build 115 #[(0, x)])
    (hx : a.eval x = .agg #[.int .i64 (-1), .int .i64 0, .int .i64 0, .int .i64 0]) (h : wpList Tryd.prog ops Q rest (a.put o.dst (.agg blankFr.cells)) w) : wpList Tryd.prog ops Q (o :: rest) a w :=
  wpList_exec hgd (by unfold execOp; simp [ho, hx, build_blank]) h
set_option maxRecDepth 100000 in
theorem blank_any (w : World) : Calls Tryd.prog 51 #[] w fun e w' => e = .returned (.agg blankFr.cells) ∧ w.grownBy w' none := by
  have hz := zero55w
  have hzc := zcFr
  have hs := blankFr.size_cells
  have hs0 := zeroFr.size_cells
  have HS := hid hs; have HS0 := hid hs0
  clear hs hs0
  go_enter Tryd.func51, Tryd.ntmps51
  go_wp2_with (first
    | refine wpList_build_blank rfl (.tmp 1) rfl rfl ?_
    | refine wpList_store_row rfl 115 (.tmp 0) (.tmp 2) rfl w.heap.size blankFr.cells rfl rfl 115 zeroFr.cells (heap_alloc_new w _) (by rw [HS.out]; exact size55) (by rw [HS.out, HS0.out]) (Array.all_eq_true_iff_forall_mem.2 (fun v hv => blankFr.all_one v (by simpa using hv))) ?_)
  refine bodyPost_ret (v := .agg blankFr.cells) (results_cell_row rfl _ _ w.heap.size 115 blankFr.cells (0, 0) _ rfl (setRow_heap _ _ _ _ _ _ (heap_alloc_new w _)) Tryd.underlying115 rfl (by rw [HS.out]; exact size55)) rfl ?_
  refine ⟨rfl, (World.grownBy_alloc w _ none).andThen (grownBy_setRow _ _ _) (fun j hj => ?_)⟩
  cases hj
  exact .inl (Nat.le_refl _)

/-- a frame stored whole -/
theorem run_store_fr (w : World) (b i : Nat) (f : Fr) (M : Mach) (hM : PM w b M) (hi : i < 256) :
    ∃ w', (Instr.storeAt 115 (.pointer (some ⟨b, 1 + i * 260, none⟩)) (.agg f.cells)).run Tryd.prog w = .ok () w' ∧ PM w' b (M.upd i f) ∧ w.grownBy w' (some b) := by
  have hl : f.cells.toList.length = 260 := by rw [Array.length_toList, f.size_cells]
  have hfit : 1 + i * 260 + f.cells.toList.length ≤ cellsN := by rw [hl, cellsN_eq]; omega
  have hst := run_storeCells_at Tryd.prog b (1 + i * 260) _ f.cells.toList 0 M.cells w hM (by rw [M.size_cells]; exact hfit) f.all_one
  have hs := size55
  cases hq : Tryd.prog.info? 115 with
  | none => rw [hq] at hs; cases hs
  | some x =>
    rw [hq] at hs
    simp only [Option.map_some, Option.some.injEq] at hs
    simp only [Nat.add_zero] at hst
    refine ⟨_, ?_, hM.setRow (vs := f.cells.toList) (M' := M.upd i f) hfit ?_ ?_, grownBy_setRow _ _ _⟩
    · simp [Instr.storeAt, Instr.sureAddr, storeVar, sizeOf, typeInfo, hq, hs, Value.cells, f.size_cells, hst]
    · intro j hj
      rw [hl] at hj
      rw [Array.getElem?_toList, f.get_cells j hj, Mach.cell_at _ _ _ hj, Mach.upd_same]
    · intro j _ hj
      rw [hl] at hj
      exact Mach.cell_other _ _ _ _ (by omega)
theorem wp_store_fr {o : Oper} {a : Act} {w : World} {K : Act → World → Prop} {Q : Exit → Act → World → Prop} (x y : Operand) (ho : o.op = .store 115 x y)
    (b i : Nat) (f : Fr) (hx : a.eval x = .pointer (some ⟨b, 1 + i * 260, none⟩)) (hy : a.eval y = .agg f.cells) (M : Mach) (hM : PM w b M) (hi : i < 256)
    (h : ∀ w', PM w' b (M.upd i f) → w.grownBy w' (some b) → K (a.put o.dst undef) w') : o.wp Tryd.prog a w K Q := by
  obtain ⟨w', hr, h1, h2⟩ := run_store_fr w b i f M hM hi
  unfold Oper.wp execOp
  simp only [ho, hx, hy, Sem.run_bind, hr, Result.andThen_ok]
  exact h w' h1 h2
theorem wpList_store_fr {ops : Array Oper} {rest : List Oper} {o : Oper} {a : Act} {w : World} {Q : Exit → Act → World → Prop} (hgd : o.guard = none) (x y : Operand) (ho : o.op = .store 115 x y)
    (b i : Nat) (f : Fr) (hx : a.eval x = .pointer (some ⟨b, 1 + i * 260, none⟩)) (hy : a.eval y = .agg f.cells) (M : Mach) (hM : PM w b M) (hi : i < 256)
    (h : ∀ w', PM w' b (M.upd i f) → w.grownBy w' (some b) → wpList Tryd.prog ops Q rest (a.put o.dst undef) w') : wpList Tryd.prog ops Q (o :: rest) a w :=
  wpList_plain hgd fun _ hK => wp_store_fr x y ho b i f hx hy M hM hi (fun w' h1 h2 => hK _ _ (h w' h1 h2))

/-- Frame -/
def Fr.head (f : Fr) : Value := .agg #[.int .i64 f.owner, .int .i64 f.ty, .int .i64 f.cnt, .int .i64 f.tot]
theorem Frame_no (b : Nat) (i : Int) (w : World) (M : Mach) (T : Int) (hM : PM w b M) (hok : M.ok T) (hi : i < 0 ∨ M.n ≤ i) :
    Calls Tryd.prog 69 #[.pointer (some ⟨b, 0, none⟩), .int .i64 i] w fun e w' => e = .returned (.tuple #[.agg #[.int .i64 0, .int .i64 0, .int .i64 0, .int .i64 0], .int .i64 1]) ∧ w.grownBy w' none := by
  have hn1 := hok.n1; have hn2 := hok.n2; have hsz := hM.size
  go_enter Tryd.func69, Tryd.ntmps69
  go_wp2_with (go_at_call 44; refine (at_no _ _ _ _ hn1 hi (by first | exact hsz | exact (hM.alloc _).size)).mono ?_; rintro e w' ⟨rfl, rfl⟩)
  go_returns
  exact ⟨rfl, World.grownBy_alloc _ _ _⟩
theorem Frame_yes (b : Nat) (j : Nat) (w : World) (M : Mach) (T : Int) (hM : PM w b M) (hok : M.ok T) (hj : (j : Int) < M.n) :
    Calls Tryd.prog 69 #[.pointer (some ⟨b, 0, none⟩), .int .i64 j] w fun e w' => e = .returned (.tuple #[(M.fr j).head, .int .i64 0]) ∧ w.grownBy w' none := by
  have hn2 := hok.n2; have hsz := hM.size
  have hj' : j < 256 := by omega
  have h0 := hM.owner hj'; have h1 := hM.ty hj'; have h2 := hM.cnt hj'; have h3 := hM.tot hj'
  have hbl := hM.lt
  go_enter Tryd.func69, Tryd.ntmps69
  go_wp2_with (go_at_call 44; refine (at_yes _ M.n j _ hn2 hj (by exact (hM.alloc _).size)).mono ?_; rintro e w' ⟨rfl, rfl⟩)
  go_returns
  exact ⟨rfl, World.grownBy_alloc _ _ _⟩

end Go.Proofs.YtnplkifohocekaaDoor
