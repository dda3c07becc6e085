/-
  Package bridge: Down, New.
-/
import Derived.Test.YtakofhhfdgankaaBrK
import Derived.Carry
set_option linter.unusedSimpArgs false
set_option linter.unusedVariables false
namespace Go.Proofs.Ytakofhhfdgankaa.Br
open Go.RowKit Gen Bk
set_option maxHeartbeats 1000000

section
variable {C : Nat → Prop} {lab lab' : Nat → Nat} {w w' : World} {b g m : Nat} {lq : Nat → Lq} {S : Sw} {k : Nat} {s : Sd} {T : Nat}
theorem bDown_er (pp : Option Addr) (x : Int) (c : Nat) (hc : (c : Int) ≠ 0) (w : World) (HS : ∀ W, w.grownBy W none → Calls Try.prog 35 #[.pointer pp, .int .i64 x] W (fun e w' => e = .returned (.tuple #[.pointer none, .int .i64 (c : Nat)]) ∧ W = w')) :
    Calls Try.prog 16 #[.pointer pp, .int .i64 x] w fun e w' => e = .returned (.int .i64 c) ∧ w.grownBy w' none := by
  obtain ⟨W1, hW1⟩ : ∃ W, w.alloc (.cells #[.int .i64 x] 3) = W := ⟨_, rfl⟩
  have hg1 : w.grownBy W1 none := hW1 ▸ World.grownBy_alloc _ _ none
  have c0 : W1.cell? ⟨w.heap.size, 0, none⟩ = some (.int .i64 x) := by rw [← hW1]; simp [go_sem]
  have H := hid (HS W1 hg1)
  have G := hid hg1
  have hn : ((c : Int) != 0) = true := by simpa using hc
  clear HS hc hg1
  go_enter Try.func16, Try.ntmps16
  go_wp2_with (go_at_call 35; refine H.out.mono ?_; rintro e w' ⟨rfl, rfl⟩)
  go_ret
  exact ⟨rfl, G.out⟩
theorem bDown_none (p : Option Addr) (x : Int) (w : World) (h : NoS w p) : Calls Try.prog 16 #[.pointer p, .int .i64 x] w fun e w' => e = .returned (.int .i64 7) ∧ w.grownBy w' none :=
  bDown_er p x 7 (by omega) w fun W hg => bside_none p x W (by
    rcases h with rfl | ⟨b, a, c, rfl, h⟩
    · exact .inl rfl
    · exact .inr ⟨b, a, c, rfl, hg.cell h (by simp)⟩)
/-- j frames have gone -/
def Sd.gone (s : Sd) (j : Nat) : Sd := { s with q := s.q.drop j, noBuf := s.noBuf + j }
theorem Sd.gone_zero (s : Sd) : s.gone 0 = s := rfl
theorem Sd.gone_all (s : Sd) : s.gone s.q.length = s.down := by simp [Sd.gone, Sd.down]
theorem Sd.gone_succ (s : Sd) {j : Nat} (hj : j < s.q.length) : (s.gone j).doneS false = s.gone (j + 1) := by
  unfold Sd.doneS Sd.doneB Sd.gone
  simp only
  rw [if_neg (fun e => by have := congrArg List.length e; simp at this; omega)]
  simp only [Bool.false_eq_true, if_false]
  simp [Nat.add_assoc]
set_option maxRecDepth 100000 in
theorem bDown_yes (h : PS lab w b g m lq S) (ok : S.ok T) (k : Nat) (hk : k < S.n) :
    Calls Try.prog 16 #[.pointer (some ⟨b, 0, none⟩), .int .i64 (k : Int)] w fun e w' => e = .returned (.int .i64 0) ∧ Aft lab w b g m ({ S.set k (S.P k).down with A := strike S.A k }) w' := by
  obtain ⟨W1, hW1⟩ : ∃ W, w.alloc (.cells #[.int .i64 (k : Int)] 3) = W := ⟨_, rfl⟩
  have hg1 : w.grownBy W1 none := hW1 ▸ World.grownBy_alloc _ _ none
  have c0 : W1.cell? ⟨w.heap.size, 0, none⟩ = some (.int .i64 (k : Int)) := by rw [← hW1]; simp [go_sem]
  have h1 := h.grown ok.n8 hg1
  have H := hid (bside_yes h1 k hk ok.n8)
  have c1 := h1.c1
  obtain ⟨D, hD, hf⟩ := h1.map
  have HD := hid (bDeleteFunc m _ w.heap.size k D W1 hD c0 (by have := h.map.lt; omega))
  have HM := hid (fun (w2 : World) (ho : w2.ownsMap Try.prog 5 (plainElem Try.prog 3) m (Maps.size D) (Lib.deleteFuncD (pdAt k) D)) (hg : W1.grownBy w2 (some m)) => h1.mapc ok.n8 (M8.struck Try.underlying5 Try.underlying3 hD hf k ho) hg)
  have OK := hid ok
  have G := hid (St.grown (C := CP) (lab := lab) hg1)
  obtain ⟨s, hs⟩ : ∃ s, S.P k = s := ⟨_, rfl⟩
  have HQ := hid hs
  have os := ok.sd k hk
  rw [hs] at os ⊢
  have OS := hid os
  have hq4 := os.q4
  have hnb := os.dr
  have hdT := os.dT
  have hT62 := ok.T62
  have e1 : s.noBuf + s.q.length ≤ 2305843009213693952 := by omega
  have e2 : s.del ≤ 2305843009213693952 := by omega
  clear h h1 ok hg1 hD hf hs os hnb hdT hT62
  go_enter Try.func16, Try.ntmps16
  go_wp2_with (first
    | (go_at_call 35; refine H.out.mono ?_; rintro e w' ⟨rfl, rfl⟩)
    | (go_at_call 37; refine HD.out.mono ?_; rintro e w2 ⟨rfl, ho2, g2⟩; obtain ⟨p2, st2⟩ := HM.out _ ho2 g2; have P2 := hid p2; have S2 := hid (G.out.tr st2); have c3 := (p2.self k).at_q hk; (have c3' : w2.cell? ⟨g, k * 13 + 3, none⟩ = some (.slice (lq k).p s.q.length (lq k).c) := by (rw [← HQ.out]; exact c3)); clear ho2 g2 p2 st2 c3)
    | (go_at_call 36; refine (bsize _ _ _ _ _ c3').mono ?_; rintro e w' ⟨rfl, rfl⟩))
  have P2' := hid (show PS lab w2 b g m lq (({ S with A := strike S.A k } : Sw).set k (s.gone 0)) from by
    have := P2.out.self k
    rw [show ({ S with A := strike S.A k } : Sw).P k = s from HQ.out] at this
    exact this)
  clear P2 c3' c0 c1 hW1
  go_loopw [26] (fun i wr => ∃ (j : Nat) (lab1 : Nat → Nat) (lq1 : Nat → Lq), i = .int .i64 j ∧ j ≤ s.q.length ∧ PS lab1 wr b g m lq1 (({ S with A := strike S.A k } : Sw).set k (s.gone j)) ∧ St CP lab w lab1 wr) (fun i _ => s.q.length - (intOf i).toNat)
  case atStart => exact ⟨0, lab, lq, rfl, by omega, P2'.out, S2.out⟩
  case round =>
    clear P2' S2
    obtain ⟨j, lab1, lq1, rfl, hj, hp, hst⟩ := hrel
    have P := hid hp
    have ST := hid hst
    clear hp hst
    have hj0 : (0 : Int) ≤ j := by omega
    by_cases hlt : j < s.q.length
    · have hlt' : (j : Int) < s.q.length := by omega
      have HC := hid (bdone P.out OK.out.n8 hk (by simp [Sd.gone]; omega) e2 (by simp only [Sd.gone]; omega) false)
      rw [s.gone_succ hlt] at HC
      go_wp2_with (go_at_call 39; refine HC.out.mono ?_; rintro e w3 ⟨rfl, lab3, lq3, p3, st3⟩; have P3 := hid p3; have S3 := hid (ST.out.tr st3); clear p3 st3)
      go_roundw
      case rel => exact ⟨j + 1, lab3, lq3, by go_num, by omega, P3.out, S3.out⟩
      case measure => simp [intOf]; omega
    · obtain rfl : j = s.q.length := by omega
      have hge : ¬ ((s.q.length : Int) < s.q.length) := by omega
      go_wp2
      go_ret
      have := P.out
      rw [s.gone_all] at this
      exact ⟨rfl, lab1, lq1, this, ST.out⟩
/-- Down -/
theorem bDown (h : PS lab w b g m lq S) (ok : S.ok T) (x : Int) : Calls Try.prog 16 #[.pointer (some ⟨b, 0, none⟩), .int .i64 x] w fun e w' => e = .returned (.int .i64 ((S.downE x).2 : Nat)) ∧ Aft lab w b g m (S.downE x).1 w' := by
  unfold Sw.downE
  cases hp : S.is x with
  | false =>
    refine (bDown_er _ x 1 (by omega) w fun W hg => bside_no (h.grown ok.n8 hg) ok.n1 x hp).mono ?_
    rintro e w' ⟨rfl, hg⟩
    exact ⟨rfl, h.aft.grow0 ok.n8 hg⟩
  | true =>
    obtain ⟨k, rfl, hk⟩ := Sw.is_yes hp
    exact bDown_yes h ok k hk
/-! ### New -/
theorem bNew_no (x : Int) (hx : ¬ (1 ≤ x ∧ x ≤ 8)) (w : World) : Calls Try.prog 9 #[.int .i64 x] w fun e w' => e = .returned (.tuple #[.pointer none, .int .i64 1]) ∧ w = w' := by
  by_cases h0 : x < 1
  · clear hx
    go_enter Try.func9, Try.ntmps9
    go_wp2
    go_ret2
    exact ⟨rfl, rfl⟩
  · have h1 : 8 < x := by omega
    have g1 : decide (x < 1) = false := by simp <;> omega
    have g2 : decide (8 < x) = true := by simp <;> omega
    clear hx
    go_enter Try.func9, Try.ntmps9
    go_wp2
    go_ret2
    exact ⟨rfl, rfl⟩
end
def sdZ : Array Value := #[.int .i64 0, .int .i64 0, .int .i64 0, .slice none 0 0, .int .i64 0, .int .i64 0, .int .i64 0, .int .i64 0, .int .i64 0, .int .i64 0, .int .i64 0, .int .i64 0, .int .i64 0]
theorem info_sd : (Try.prog.info? 88).map (fun i => (i.zero, i.size, i.bytes)) = some (some (.agg sdZ), 13, 120) := by kernel_rfl
theorem make_sides (W : World) (n : Nat) (hn : n ≤ 8) : ∃ cs : Array Value, (Instr.makeSlice 55 (.int .i64 n) (.int .i64 n)).run Try.prog W = .ok (.slice (some ⟨W.heap.size, 0, none⟩) n n) (W.alloc (.cells cs 88)) ∧ Row (W.alloc (.cells cs 88)) W.heap.size 88 (n * 13) (gcell (Sw.new n) (fun _ => ⟨none, 0⟩)) := by
  obtain ⟨i0, hi, hz0, hz1, hz2⟩ := info_parts info_sd
  have hr := run_make W 55 88 i0 (.agg sdZ) Try.underlying55 hi hz0 .i64 .i64 n n (by omega) (by omega) (by rw [hz2]; omega) (by omega)
  rw [hz1] at hr
  simp only [Int.toNat_natCast] at hr
  refine ⟨_, hr, _, heap_alloc_new W _, by rw [size_madeCells]; omega, fun k hk => ?_⟩
  have hm : k % 13 < 13 := Nat.mod_lt _ (by decide)
  simp only [madeCells, Value.cells]
  rw [Array.getElem?_map, Array.getElem?_range, if_pos hk]
  simp only [Option.map_some, Option.some.injEq]
  have hs : sdZ.size = 13 := rfl
  rw [hs]
  unfold gcell
  obtain ⟨f, hf⟩ : ∃ f, k % 13 = f := ⟨_, rfl⟩
  rw [hf] at hm ⊢
  match f, hm with | 0, _ => rfl | 1, _ => rfl | 2, _ => rfl | 3, _ => rfl | 4, _ => rfl | 5, _ => rfl | 6, _ => rfl | 7, _ => rfl | 8, _ => rfl | 9, _ => rfl | 10, _ => rfl | 11, _ => rfl | 12, _ => rfl
/-- a switch that is new: its three blocks are new -/
def NewS (lab : Nat → Nat) (w : World) (n : Nat) (v : Value) (w' : World) : Prop := ∃ lab' b g m lq, v = .pointer (some ⟨b, 0, none⟩) ∧ PS lab' w' b g m lq (Sw.new n) ∧ w.grownBy w' none ∧ ∀ k, k < w.heap.size → lab' k = lab k
theorem bNew_yes (lab : Nat → Nat) (n : Nat) (h1 : 1 ≤ n) (h8 : n ≤ 8) (w : World) : Calls Try.prog 9 #[.int .i64 (n : Int)] w fun e w' => ∃ v, e = .returned (.tuple #[v, .int .i64 0]) ∧ NewS lab w n v w' := by
  obtain ⟨cs, hmk, hr⟩ := make_sides w n h8
  have hmm := @run_makeMap Try.prog
  have a1 : (1 : Int) ≤ n := by omega
  have a2 : (n : Int) ≤ 8 := by omega
  have g1 : decide ((n : Int) < 1) = false := by simp <;> omega
  have g2 : decide ((8 : Int) < n) = false := by simp <;> omega
  have HR := hid hr
  clear hr
  go_enter Try.func9, Try.ntmps9
  go_wp2
  go_ret2
  have s1 : (w.alloc (.cells cs 88)).heap.size = w.heap.size + 1 := by simp
  have s2 : ((w.alloc (.cells cs 88)).alloc (.map #[] 0)).heap.size = w.heap.size + 1 + 1 := by simp
  have k1 : w.heap.size ≠ w.heap.size + 1 := by omega
  have k2 : w.heap.size ≠ w.heap.size + 1 + 1 := by omega
  have k3 : w.heap.size + 1 ≠ w.heap.size + 1 + 1 := by omega
  refine ⟨_, rfl, upd (upd (upd lab w.heap.size 2) (w.heap.size + 1) 3) (w.heap.size + 1 + 1) 1, w.heap.size + 1 + 1, w.heap.size, w.heap.size + 1, fun _ => ⟨none, 0⟩, by simp, ⟨?_, (HR.out.alloc _).alloc _, ?_, fun i hi => ⟨[], QSl.nil _ _ _, trivial⟩, upd_same _ _ _, ?_, ?_⟩, ?_, fun k hk => ?_⟩
  · have hrow := Row.new ((w.alloc (.cells cs 88)).alloc (.map #[] 0)) #[.slice (some ⟨w.heap.size, 0, none⟩) n n, .map (some (w.heap.size + 1))] 58 2 (btop w.heap.size n (w.heap.size + 1)) (by simp) (fun k hk => by match k, hk with | 0, _ => rfl | 1, _ => rfl)
    rw [s2] at hrow
    exact hrow
  · have := M8.made (w.alloc (.cells cs 88)) Try.prog 5 3
    rw [s1] at this
    exact this.grown (World.grownBy_alloc _ _ none) (by simp)
  · rw [upd_other _ k2, upd_other _ k1, upd_same]
  · rw [upd_other _ k3, upd_same]
  · exact ((World.grownBy_alloc w _ none).trans (World.grownBy_alloc _ _ none)).trans (World.grownBy_alloc _ _ none)
  · rw [upd_other _ (by omega), upd_other _ (by omega), upd_other _ (by omega)]
end Go.Proofs.Ytakofhhfdgankaa.Br
