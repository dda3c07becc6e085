/-
  Package pte of a machine that nobody made.
-/
import Derived.Test.YtdjhkacjgdnglaaPhysJ
import Derived.Test.YtdjhkacjgdnglaaPteA
import Derived.ScopeJumps
namespace Go.Proofs.Ytdjhkacjgdnglaa
open Go.RowKit
set_option maxHeartbeats 1000000

theorem ptMade_nil (w : World) : Calls Try.prog 67 #[.pointer none] w fun e w' => e = .returned (.bool false) ∧ w = w' := by
  go_enter Try.func67, Try.ntmps67
  go_wp2_with (go_at_call 61; refine (Size_nil _).mono ?_; rintro e w2 ⟨rfl, rfl⟩)
  go_ret
  exact ⟨rfl, rfl⟩
theorem ptMade_zero (b : Nat) (w : World) (h : w.cell? ⟨b, 0, none⟩ = some (.int .i64 0)) : Calls Try.prog 67 #[.pointer (some ⟨b, 0, none⟩)] w fun e w' => e = .returned (.bool false) ∧ w = w' := by
  go_enter Try.func67, Try.ntmps67
  go_wp2_with (go_at_call 61; refine (Size_zero _ _ h).mono ?_; rintro e w2 ⟨rfl, rfl⟩)
  go_ret
  exact ⟨rfl, rfl⟩
theorem ptAt_nil (a b : Int) (w : World) : Calls Try.prog 24 #[.pointer none, .int .i64 a, .int .i64 b] w fun e w' => e = .returned (.tuple #[.int .u32 0, .int .i64 7]) ∧ w = w' := by
  go_enter Try.func24, Try.ntmps24
  go_wp2_with (go_at_call 67; refine (ptMade_nil _).mono ?_; rintro e w2 ⟨rfl, rfl⟩)
  go_ret2
  exact ⟨rfl, rfl⟩
theorem ptWalk_zero (b : Nat) (r va : Int) (x : Bool) (w : World) (h : w.cell? ⟨b, 0, none⟩ = some (.int .i64 0)) : Calls Try.prog 26 #[.pointer (some ⟨b, 0, none⟩), .int .i64 r, .int .u32 va, .bool x] w fun e w' => e = .returned (.tuple #[.int .i64 0, .int .i64 0, .int .i64 7]) ∧ w = w' := by
  go_enter Try.func26, Try.ntmps26
  go_wp2_with fail
  go_step3
  go_wp2_with (go_at_call 67; refine (ptMade_zero _ _ h).mono ?_; rintro e w2 ⟨rfl, rfl⟩)
  rw [Exit.noGoto_ret]
  go_ret3
  exact ⟨rfl, rfl⟩
theorem ptRuns_nil (r va n : Int) (x : Bool) (w : World) : Calls Try.prog 72 #[.pointer none, .int .i64 r, .int .u32 va, .int .i64 n, .bool x] w fun e w' => e = .returned (.tuple #[.slice none 0 0, .int .i64 7]) ∧ w = w' := by
  go_enter Try.func72, Try.ntmps72
  go_wp2_with fail
  go_step3
  go_wp2_with (go_at_call 67; refine (ptMade_nil _).mono ?_; rintro e w2 ⟨rfl, rfl⟩)
  rw [Exit.noGoto_ret]
  go_ret2
  exact ⟨rfl, rfl⟩
theorem ptRuns_zero (b : Nat) (r va n : Int) (x : Bool) (w : World) (h : w.cell? ⟨b, 0, none⟩ = some (.int .i64 0)) : Calls Try.prog 72 #[.pointer (some ⟨b, 0, none⟩), .int .i64 r, .int .u32 va, .int .i64 n, .bool x] w fun e w' => e = .returned (.tuple #[.slice none 0 0, .int .i64 7]) ∧ w = w' := by
  go_enter Try.func72, Try.ntmps72
  go_wp2_with fail
  go_step3
  go_wp2_with (go_at_call 67; refine (ptMade_zero _ _ h).mono ?_; rintro e w2 ⟨rfl, rfl⟩)
  rw [Exit.noGoto_ret]
  go_ret2
  exact ⟨rfl, rfl⟩
theorem ptFetch_nil (r va n : Int) (w : World) : Calls Try.prog 29 #[.pointer none, .int .i64 r, .int .u32 va, .int .i64 n] w fun e w' => e = .returned (.tuple #[.slice none 0 0, .int .i64 7]) ∧ w = w' := by
  go_enter Try.func29, Try.ntmps29
  go_wp2_with (go_at_call 72; refine (ptRuns_nil _ _ _ _ _).mono ?_; rintro e w2 ⟨rfl, rfl⟩)
  go_ret2
  exact ⟨rfl, rfl⟩
theorem ptStore_zero (b : Nat) (r va : Int) (w : World) (h : w.cell? ⟨b, 0, none⟩ = some (.int .i64 0)) : Calls Try.prog 31 #[.pointer (some ⟨b, 0, none⟩), .int .i64 r, .int .u32 va, .slice none 0 0] w fun e w' => e = .returned (.int .i64 7) ∧ w = w' := by
  go_enter Try.func31, Try.ntmps31
  go_wp2_with (go_at_call 72; refine (ptRuns_zero _ _ _ _ _ _ h).mono ?_; rintro e w2 ⟨rfl, rfl⟩)
  go_ret
  exact ⟨rfl, rfl⟩
theorem build_mach0 (w : World) : (Instr.build 88 #[]).run Try.prog w = .ok (.agg (flatMach 0 zeroFr).cells) w := by
  have hz := (flatMach 0 zeroFr).size_cells
  have hpos : 1 ≤ (flatMach 0 zeroFr).cells.size := by rw [hz, cellsN_eq]; omega
  have hne : (flatMach 0 zeroFr).cells ≠ #[] := fun hh => by rw [hh] at hpos; simp at hpos
  have i3 : (Try.prog.info? 3).map (·.size) = some 1 := by kernel_rfl
  have i56 : (Try.prog.info? 86).map (·.size) = some 66560 := by kernel_rfl
  cases h3 : Try.prog.info? 3 with
  | none => rw [h3] at i3; cases i3
  | some x =>
  cases h56 : Try.prog.info? 86 with
  | none => rw [h56] at i56; cases i56
  | some y =>
  simp [Instr.build, zcMach, zero58w, run_underlying Try.underlying88, sizeOf, typeInfo, h3, h56, Instr.fill, Value.cells, hne]
/-- a guarded operation, too -/
theorem wpList_exec_g {P : Program} {ops : Array Oper} {rest : List Oper} {o : Oper} {a : Act} {w w' : World} {Q : Exit → Act → World → Prop} {v : Value} (hw : Region.wanted o (yielded ops a.tmps) = true)
    (hrun : (execOp a.eval o).run P w = .ok (.value v) w') (h : wpList P ops Q rest (a.put o.dst v) w') : wpList P ops Q (o :: rest) a w :=
  wpList_step fun K hK => by
    rw [if_pos hw]
    unfold Oper.wp
    rw [hrun]
    exact hK _ _ h
theorem wpList_build_mach0 {ops : Array Oper} {rest : List Oper} {o : Oper} {a : Act} {w : World} {Q : Exit → Act → World → Prop} (hw : Region.wanted o (yielded ops a.tmps) = true) (ho : o.op = .build 88 #[])
    (h : wpList Try.prog ops Q rest (a.put o.dst (.agg (flatMach 0 zeroFr).cells)) w) : wpList Try.prog ops Q (o :: rest) a w :=
  wpList_exec_g hw (by unfold execOp; simp [ho, build_mach0]) h
theorem wpList_box_mach0 {ops : Array Oper} {rest : List Oper} {o : Oper} {a : Act} {w : World} {Q : Exit → Act → World → Prop} (hw : Region.wanted o (yielded ops a.tmps) = true) (x : Operand) (ho : o.op = .box 88 x)
    (M : Mach) (hx : a.eval x = .agg M.cells) (h : ∀ w', w'.heap.size = w.heap.size + 1 → PM w' w.heap.size M → w.grownBy w' none → wpList Try.prog ops Q rest (a.put o.dst (.pointer (some ⟨w.heap.size, 0, none⟩))) w') : wpList Try.prog ops Q (o :: rest) a w :=
  wpList_exec_g hw (v := .pointer (some ⟨w.heap.size, 0, none⟩)) (w' := w.alloc (.cells M.cells 88)) (by unfold execOp; simp [ho, hx, Instr.box, newVar, newRow, Value.cells, run_newObj_alloc]) (h _ (by simp) (heap_alloc_new w _) (World.grownBy_alloc w _ none))
end Go.Proofs.Ytdjhkacjgdnglaa
