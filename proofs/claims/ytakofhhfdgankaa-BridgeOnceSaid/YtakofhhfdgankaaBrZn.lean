/-
  The reference's switch: New.
-/
import Derived.Test.YtakofhhfdgankaaBrT
import Derived.Test.YtakofhhfdgankaaBrN
set_option linter.unusedSimpArgs false
set_option linter.unusedVariables false
namespace Go.Proofs.Ytakofhhfdgankaa.Br
open Go.RowKit Gen Bk
set_option maxHeartbeats 2000000

section
variable {C : Nat → Prop} {lab lab' lab1 : Nat → Nat} {w w' w1 : World}
theorem yNew_no (x : Int) (hx : ¬ (1 ≤ x ∧ x ≤ 8)) (w : World) : Calls Try.prog 10 #[.int .i64 x] w fun e w' => e = .returned (.tuple #[.pointer none, .int .i64 1]) ∧ w = w' := by
  by_cases h0 : x < 1
  · clear hx
    go_enter Try.func10, Try.ntmps10
    go_wp2
    go_ret2
    exact ⟨rfl, rfl⟩
  · have h1 : 8 < x := by omega
    have g1 : decide (x < 1) = false := by simp <;> omega
    have g2 : decide (8 < x) = true := by simp <;> omega
    clear hx
    go_enter Try.func10, Try.ntmps10
    go_wp2
    go_ret2
    exact ⟨rfl, rfl⟩
def rpZ : Array Value := #[.int .i64 0, .int .i64 0, .int .i64 0, .slice none 0 0, .int .i64 0, .int .i64 0, .int .i64 0, .int .i64 0, .int .i64 0, .int .i64 0, .int .i64 0, .int .i64 0, .int .i64 0]
theorem info_rp : (Try.prog.info? 81).map (fun i => (i.zero, i.size, i.bytes)) = some (some (.agg rpZ), 13, 120) := by kernel_rfl
theorem info_int : (Try.prog.info? 3).map (fun i => (i.zero, i.size, i.bytes)) = some (some (.int .i64 0), 1, 8) := by kernel_rfl
theorem make_ports (W : World) (n : Nat) (hn : n ≤ 8) : ∃ cs : Array Value, (Instr.makeSlice 66 (.int .i64 n) (.int .i64 n)).run Try.prog W = .ok (.slice (some ⟨W.heap.size, 0, none⟩) n n) (W.alloc (.cells cs 81)) ∧ Row (W.alloc (.cells cs 81)) W.heap.size 81 (n * 13) (rgcell (Sw.new n) (fun _ => ⟨none, 0⟩)) := by
  obtain ⟨i0, hi, hz0, hz1, hz2⟩ := info_parts info_rp
  have hr := run_make W 66 81 i0 (.agg rpZ) Try.underlying66 hi hz0 .i64 .i64 n n (by omega) (by omega) (by rw [hz2]; omega) (by omega)
  rw [hz1] at hr
  simp only [Int.toNat_natCast] at hr
  refine ⟨_, hr, _, heap_alloc_new W _, by rw [size_madeCells]; omega, fun k hk => ?_⟩
  have hm : k % 13 < 13 := Nat.mod_lt _ (by decide)
  simp only [madeCells, Value.cells]
  rw [Array.getElem?_map, Array.getElem?_range, if_pos hk]
  simp only [Option.map_some, Option.some.injEq]
  have hs : rpZ.size = 13 := rfl
  rw [hs]
  unfold rgcell
  obtain ⟨f, hf⟩ : ∃ f, k % 13 = f := ⟨_, rfl⟩
  rw [hf] at hm ⊢
  match f, hm with | 0, _ => rfl | 1, _ => rfl | 2, _ => rfl | 3, _ => rfl | 4, _ => rfl | 5, _ => rfl | 6, _ => rfl | 7, _ => rfl | 8, _ => rfl | 9, _ => rfl | 10, _ => rfl | 11, _ => rfl | 12, _ => rfl
def neg1 : Value := .int .i64 (-1)
def yrow (r n : Nat) (v : Value) : Nat → Value
  | 0 => .slice (some ⟨r, 0, none⟩) n n
  | _ => v
theorem rep_snoc (j : Nat) : List.replicate j neg1 ++ [neg1] = List.replicate (j + 1) neg1 := by rw [List.replicate_succ']
set_option maxRecDepth 100000 in
theorem yNew_yes (lab : Nat → Nat) (n : Nat) (h1 : 1 ≤ n) (h8 : n ≤ 8) (w : World) : Calls Try.prog 10 #[.int .i64 (n : Int)] w fun e w' => ∃ y lab' r a ca lq, e = .returned (.tuple #[.pointer (some ⟨y, 0, none⟩), .int .i64 0]) ∧ RS lab' w' y r a ca lq (Sw.new n) ∧ w.grownBy w' none ∧ ∀ k, k < w.heap.size → lab' k = lab k := by
  obtain ⟨cs, hmk, hr⟩ := make_ports w n h8
  have a1 : (1 : Int) ≤ n := by omega
  have a2 : (n : Int) ≤ 8 := by omega
  have g1 : decide ((n : Int) < 1) = false := by simp <;> omega
  have g2 : decide ((8 : Int) < n) = false := by simp <;> omega
  obtain ⟨i0, hi, hz0, hz1, hz2⟩ := info_parts info_int
  have Hi := hid hi; have Hz0 := hid hz0; have Hz1 := hid hz1; have Hz2 := hid hz2
  obtain ⟨W1, hW1, hs1, hg1⟩ : ∃ W, w.alloc (.cells cs 81) = W ∧ W.heap.size = w.heap.size + 1 ∧ w.grownBy W none := ⟨_, rfl, by simp, World.grownBy_alloc _ _ _⟩
  rw [hW1] at hmk hr
  obtain ⟨W2, hW2, hg2, hrow⟩ : ∃ W, W1.alloc (.cells #[.slice (some ⟨w.heap.size, 0, none⟩) n n, .slice none 0 0] 69) = W ∧ W1.grownBy W none ∧ Row W W1.heap.size 69 2 (yrow w.heap.size n (.slice none 0 0)) := ⟨_, rfl, World.grownBy_alloc _ _ _, Row.new _ _ _ _ _ (by simp) (fun k hk => by match k, hk with | 0, _ => rfl | 1, _ => rfl)⟩
  rw [hs1] at hrow
  have HR := hid (hr.grown hg2 (by simp))
  have HY := hid hrow
  have HG := hid (hg1.trans hg2)
  have HO := hid (show W2.ownsRow (w.heap.size + 1) 3 1 (.slice none 0 0) 0 (List.replicate 0 neg1) from World.ownsRow_nil W2 (w.heap.size + 1) 3 1)
  have HZ := hid (show w.heap.size + 1 ≤ W2.heap.size from Nat.le_trans (Nat.le_of_eq hs1.symm) hg2.size)
  clear hr hrow hg1 hg2 hi hz0 hz1 hz2
  obtain ⟨R, hR⟩ : ∃ R, w.heap.size = R := ⟨_, rfl⟩
  have HRe := hid hR
  go_enter Try.func10, Try.ntmps10
  go_wp2
  rw [hR] at HR HY HO HZ hW2
  rw [hW2]
  clear hW1 hW2 hmk hs1 hR
  go_loopw [5] (fun i wr => ∃ (j : Nat) (v : Value), i = .int .i64 j ∧ j ≤ 256 ∧ Row wr R 81 (n * 13) (rgcell (Sw.new n) (fun _ => ⟨none, 0⟩)) ∧ Row wr (R + 1) 69 2 (yrow R n v) ∧ wr.ownsRow (R + 1) 3 1 v j (List.replicate j neg1) ∧ R + 1 ≤ wr.heap.size ∧ w.grownBy wr none) (fun i _ => 256 - (intOf i).toNat)
  case atStart => exact ⟨0, _, rfl, by omega, HR.out, HY.out, HO.out, HZ.out, HG.out⟩
  case round =>
    clear HR HY HO HZ HG
    obtain ⟨j, v, rfl, hj, hr, hy, ho, hz, hg⟩ := hrel
    have HR := hid hr
    have HY := hid hy
    have HO := hid ho
    have HZ := hid hz
    have HG := hid hg
    obtain ⟨vp, vc, rfl⟩ := ownsRow_slice ho
    have y1 : wr.cell? ⟨R + 1, 1, none⟩ = some (.slice vp j vc) := hy.cell (k := 1) (by omega)
    have fy := hy.frozen 1
    clear hr hy ho hz hg
    have hj0 : (0 : Int) ≤ j := by omega
    by_cases hlt : j < 256
    · have hlt' : (j : Int) < 256 := by omega
      have hA := World.grownBy_alloc wr (.cells #[neg1] 3) none
      have HOa := hid (own_grown HO.out hA)
      have HAg := hid hA
      have HNw := hid (cell_one_new wr neg1 3)
      have HRa := hid (HR.out.grown hA (by simp))
      have HYa := hid (HY.out.grown hA (by simp))
      have HZa := hid (Nat.le_trans HZ.out hA.size)
      clear hA
      go_wp2_with (at_builtin; refine wpList_append_own _ rfl _ _ 67 rfl (R + 1) 3 i0 (.int .i64 0) 1 8 Try.underlying67 Hi.out Hz0.out Hz1.out Hz2.out rfl (by decide) (.slice vp j vc) j (List.replicate j neg1) rfl HOa.out ⟨wr.heap.size, 0, none⟩ 1 1 [neg1] rfl rfl HNw.out (by intro u hu; rw [List.mem_singleton.1 hu]; rfl) (by unfold maxLen; omega) (by omega) HZa.out ?_; intro v' w1 hown' hgrow hnil; clear hnil; rw [rep_snoc] at hown'; have HO1 := hid hown'; have hne1 := own_ne_row HOa.out HYa.out (by decide); have hne2 := own_ne_row HOa.out HRa.out (by decide); have HY1 := hid (HYa.out.grown hgrow hne1); have HR1 := hid (HRa.out.grown hgrow hne2); have HG1 := hid ((HG.out.trans HAg.out).andThen hgrow (fun k hk => .inl (by have := (HOa.out.lt k hk).1; have := HRe.out; omega))); have HZ1 := hid (Nat.le_trans HZa.out hgrow.size); have y11 := HY1.out.cell (k := 1) (by omega); have fy1 := HY1.out.frozen 1; have hne3 := own_ne_row hown' HY1.out (by decide); obtain ⟨vp1, vc1, rfl⟩ := ownsRow_slice hown'; have HN3 := hid hne3; clear hown' hgrow hne1 hne2 hne3; simp only [yrow] at y11)
      go_roundw
      case rel =>
        refine ⟨j + 1, .slice vp1 (j + 1) vc1, by go_num, by omega, HR1.out.setOther _ (by simp) _, HY1.out.set (k := 1) rfl (fun i hi hne => ?_), ?_, ?_, HG1.out.andThen (grownBy_setCell _ _ _ _ _) (fun k hk => by cases hk; left; have := HRe.out; omega)⟩
        · match i, hi, hne with | 0, _, _ => rfl | 1, _, h => exact absurd rfl h
        · obtain ⟨hl, ho⟩ := HO1.out
          refine ⟨hl, ?_⟩
          rcases ho with ho | ⟨gg, cap, cur, e, hb, hgg, rest⟩
          · exact .inl ho
          · refine .inr ⟨gg, cap, cur, e, hb, ?_, rest⟩
            rw [heap_setCell_other _ _ _ _ (fun e2 => HN3.out (by rw [e]; show some (R + 1) = some gg; rw [show gg = R + 1 from e2]))]
            exact hgg
        · simp; exact HZ1.out
      case measure => simp [intOf]; omega
    · obtain rfl : j = 256 := by omega
      go_wp2
      go_ret2
      obtain ⟨ga, gc, ev, hlo, hrow⟩ := ownsRow_row (n := 255) HO.out
      simp only [Value.slice.injEq] at ev
      obtain ⟨rfl, -, rfl⟩ := ev
      have hca : 256 ≤ vc := by
        rcases HO.out.2 with ⟨_, h⟩ | ⟨gg, cap, cur, e, hb, hgg, hn, _⟩
        · omega
        · simp only [Value.slice.injEq] at e
          omega
      have hRa := hrow.lt
      have hne : ga ≠ R + 1 := fun e => by
        subst e
        exact hrow.type_ne HY.out (by decide) rfl
      have hlt := HR.out.lt
      have hRe := HRe.out
      refine ⟨R + 1, upd (upd (upd lab R 34) ga 35) (R + 1) 33, R, ga, vc, fun _ => ⟨none, 0⟩, rfl, ⟨HY.out.congr fun k hk => by match k, hk with | 0, _ => rfl | 1, _ => rfl, HR.out, hrow.congr fun k hk => ?_, fun i hi => ⟨[], QSl.nil _ _ _, trivial⟩, upd_same _ _ _, ?_, ?_, hca⟩, HG.out, fun k hk => ?_⟩
      · have : (List.replicate (255 + 1) neg1).getD k undef = neg1 := by
          simp only [List.getD, List.getElem?_replicate]
          rw [if_pos (by omega)]
          rfl
        rw [this]
        rfl
      · rw [upd_other _ (by omega), upd_other _ (by omega), upd_same]
      · rw [upd_other _ hne, upd_same]
      · rw [upd_other _ (by omega), upd_other _ (by omega), upd_other _ (by omega)]
end
end Go.Proofs.Ytakofhhfdgankaa.Br
