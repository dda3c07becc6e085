/-
  Package bridge: Down, New.
-/
import Derived.Test.YtolfjbodgdjbjaaGreatBrK
import Derived.Carry
set_option linter.unusedSimpArgs false
set_option linter.unusedVariables false
namespace Go.Proofs.YtolfjbodgdjbjaaGreat.Br
open Go.RowKit Gen Bk
set_option maxHeartbeats 1000000

section
variable {C : Nat → Prop} {lab lab' : Nat → Nat} {w w' : World} {b g m : Nat} {lq : Nat → Lq} {S : Sw} {k : Nat} {s : Sd} {T : Nat}
/-- j frames have gone -/
def Sd.gone (s : Sd) (j : Nat) : Sd := { s with q := s.q.drop j, noBuf := s.noBuf + j }
theorem Sd.gone_zero (s : Sd) : s.gone 0 = s := rfl
theorem Sd.gone_all (s : Sd) : s.gone s.q.length = s.down := by simp [Sd.gone, Sd.down]
theorem Sd.gone_succ (s : Sd) {j : Nat} (hj : j < s.q.length) : (s.gone j).doneS false = s.gone (j + 1) := by
  unfold Sd.doneS Sd.doneB Sd.gone
  simp only
  rw [if_neg (fun e => by have := congrArg List.length e; simp at this; omega)]
  simp only [Bool.false_eq_true, if_false]
  simp [Nat.add_assoc]
/-! ### New -/
theorem bNew_no (x : Int) (hx : ¬ (1 ≤ x ∧ x ≤ 8)) (w : World) : Calls Tryz.prog 6 #[.int .i64 x] w fun e w' => e = .returned (.tuple #[.pointer none, .int .i64 1]) ∧ w = w' := by
  by_cases h0 : x < 1
  · clear hx
    go_enter Tryz.func6, Tryz.ntmps6
    go_wp2
    go_ret2
    exact ⟨rfl, rfl⟩
  · have h1 : 8 < x := by omega
    have g1 : decide (x < 1) = false := by simp <;> omega
    have g2 : decide (8 < x) = true := by simp <;> omega
    clear hx
    go_enter Tryz.func6, Tryz.ntmps6
    go_wp2
    go_ret2
    exact ⟨rfl, rfl⟩
end
def sdZ : Array Value := #[.int .i64 0, .int .i64 0, .int .i64 0, .slice none 0 0, .int .i64 0, .int .i64 0, .int .i64 0, .int .i64 0, .int .i64 0, .int .i64 0, .int .i64 0, .int .i64 0, .int .i64 0]
theorem info_sd : (Tryz.prog.info? 149).map (fun i => (i.zero, i.size, i.bytes)) = some (some (.agg sdZ), 13, 120) := by kernel_rfl
theorem make_sides (W : World) (n : Nat) (hn : n ≤ 8) : ∃ cs : Array Value, (Instr.makeSlice 64 (.int .i64 n) (.int .i64 n)).run Tryz.prog W = .ok (.slice (some ⟨W.heap.size, 0, none⟩) n n) (W.alloc (.cells cs 149)) ∧ Row (W.alloc (.cells cs 149)) W.heap.size 149 (n * 13) (gcell (Sw.new n) (fun _ => ⟨none, 0⟩)) := by
  obtain ⟨i0, hi, hz0, hz1, hz2⟩ := info_parts info_sd
  have hr := run_make W 64 149 i0 (.agg sdZ) Tryz.underlying64 hi hz0 .i64 .i64 n n (by omega) (by omega) (by rw [hz2]; omega) (by omega)
  rw [hz1] at hr
  simp only [Int.toNat_natCast] at hr
  refine ⟨_, hr, _, heap_alloc_new W _, by rw [size_madeCells]; omega, fun k hk => ?_⟩
  have hm : k % 13 < 13 := Nat.mod_lt _ (by decide)
  simp only [madeCells, Value.cells]
  rw [Array.getElem?_map, Array.getElem?_range, if_pos hk]
  simp only [Option.map_some, Option.some.injEq]
  have hs : sdZ.size = 13 := rfl
  rw [hs]
  unfold gcell
  obtain ⟨f, hf⟩ : ∃ f, k % 13 = f := ⟨_, rfl⟩
  rw [hf] at hm ⊢
  match f, hm with | 0, _ => rfl | 1, _ => rfl | 2, _ => rfl | 3, _ => rfl | 4, _ => rfl | 5, _ => rfl | 6, _ => rfl | 7, _ => rfl | 8, _ => rfl | 9, _ => rfl | 10, _ => rfl | 11, _ => rfl | 12, _ => rfl
/-- a switch that is new: its three blocks are new -/
def NewS (lab : Nat → Nat) (w : World) (n : Nat) (v : Value) (w' : World) : Prop := ∃ lab' b g m lq, v = .pointer (some ⟨b, 0, none⟩) ∧ PS lab' w' b g m lq (Sw.new n) ∧ w.grownBy w' none ∧ ∀ k, k < w.heap.size → lab' k = lab k
theorem bNew_yes (lab : Nat → Nat) (n : Nat) (h1 : 1 ≤ n) (h8 : n ≤ 8) (w : World) : Calls Tryz.prog 6 #[.int .i64 (n : Int)] w fun e w' => ∃ v, e = .returned (.tuple #[v, .int .i64 0]) ∧ NewS lab w n v w' := by
  obtain ⟨cs, hmk, hr⟩ := make_sides w n h8
  have hmm := @run_makeMap Tryz.prog
  have a1 : (1 : Int) ≤ n := by omega
  have a2 : (n : Int) ≤ 8 := by omega
  have g1 : decide ((n : Int) < 1) = false := by simp <;> omega
  have g2 : decide ((8 : Int) < n) = false := by simp <;> omega
  have HR := hid hr
  clear hr
  go_enter Tryz.func6, Tryz.ntmps6
  go_wp2
  go_ret2
  have s1 : (w.alloc (.cells cs 149)).heap.size = w.heap.size + 1 := by simp
  have s2 : ((w.alloc (.cells cs 149)).alloc (.map #[] 0)).heap.size = w.heap.size + 1 + 1 := by simp
  have k1 : w.heap.size ≠ w.heap.size + 1 := by omega
  have k2 : w.heap.size ≠ w.heap.size + 1 + 1 := by omega
  have k3 : w.heap.size + 1 ≠ w.heap.size + 1 + 1 := by omega
  refine ⟨_, rfl, upd (upd (upd lab w.heap.size 2) (w.heap.size + 1) 3) (w.heap.size + 1 + 1) 1, w.heap.size + 1 + 1, w.heap.size, w.heap.size + 1, fun _ => ⟨none, 0⟩, by simp, ⟨?_, (HR.out.alloc _).alloc _, ?_, fun i hi => ⟨[], QSl.nil _ _ _, trivial⟩, upd_same _ _ _, ?_, ?_⟩, ?_, fun k hk => ?_⟩
  · have hrow := Row.new ((w.alloc (.cells cs 149)).alloc (.map #[] 0)) #[.slice (some ⟨w.heap.size, 0, none⟩) n n, .map (some (w.heap.size + 1))] 67 2 (btop w.heap.size n (w.heap.size + 1)) (by simp) (fun k hk => by match k, hk with | 0, _ => rfl | 1, _ => rfl)
    rw [s2] at hrow
    exact hrow
  · have := M8.made (w.alloc (.cells cs 149)) Tryz.prog 5 3
    rw [s1] at this
    exact this.grown (World.grownBy_alloc _ _ none) (by simp)
  · rw [upd_other _ k2, upd_other _ k1, upd_same]
  · rw [upd_other _ k3, upd_same]
  · exact ((World.grownBy_alloc w _ none).trans (World.grownBy_alloc _ _ none)).trans (World.grownBy_alloc _ _ none)
  · rw [upd_other _ (by omega), upd_other _ (by omega), upd_other _ (by omega)]
end Go.Proofs.YtolfjbodgdjbjaaGreat.Br
