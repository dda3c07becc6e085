/-
  Package bridge: malformed, bad, grow, size, first, put.
-/
import Derived.Test.YtolfjbodgdjbjaaGreatBrS
import Derived.Lib.AppendZeros
import Derived.RegionTactic
import Derived.Deep.RegionHeld3
set_option linter.unusedSimpArgs false
set_option linter.unusedVariables false
namespace Go.Proofs.YtolfjbodgdjbjaaGreat.Br
open Go.RowKit Gen Bk
set_option maxHeartbeats 1000000

/-- malformed -/
theorem bmalformed (p : Option Addr) (l : List UInt8) (c : Nat) (w : World) (h : BA w p l) : Calls Tryz.prog 68 #[.slice p l.length c] w fun e w' => e = .returned (.bool (malF l)) ∧ w = w' := by
  unfold malF
  by_cases h0 : l.length < 2
  · have h0' : (l.length : Int) < 2 := by omega
    go_enter Tryz.func68, Tryz.ntmps68
    go_wp2
    go_ret
    exact ⟨by simp [h0], rfl⟩
  · by_cases h1 : 128 < l.length
    · have h0' : ¬ (l.length : Int) < 2 := by omega
      have h1' : (128 : Int) < l.length := by omega
      go_enter Tryz.func68, Tryz.ntmps68
      go_wp2
      go_ret
      exact ⟨by simp [h1], rfl⟩
    · obtain ⟨k, o, rfl⟩ := h.ptr (by omega)
      have c1 := h.at (k := 1) (by omega)
      have h0' : ¬ (l.length : Int) < 2 := by omega
      have h1' : ¬ (128 : Int) < l.length := by omega
      have h2' : (1 : Int) < l.length := by omega
      obtain ⟨x, hx⟩ : ∃ x, l.getD 1 0 = x := ⟨_, rfl⟩
      rw [hx] at c1 ⊢
      have e0 : decide (l.length < 2) = false := by simpa using h0
      have e1 : decide (128 < l.length) = false := by simpa using h1
      rw [e0, e1]
      clear h hx h0 h1 e0 e1
      by_cases h3 : x.toNat = 255
      · have h3' : ((x.toNat : Int) == 255) = true := by simp [h3]
        go_enter Tryz.func68, Tryz.ntmps68
        go_wp2
        go_ret
        exact ⟨by simp [h3], rfl⟩
      · have h3' : ((x.toNat : Int) == 255) = false := by simp; omega
        go_enter Tryz.func68, Tryz.ntmps68
        go_wp2
        go_ret
        exact ⟨by simp [h3]; try omega, rfl⟩
section
variable {C : Nat → Prop} {lab lab' : Nat → Nat} {w w' : World} {b g m : Nat} {lq : Nat → Lq} {S : Sw} {k : Nat} {s : Sd}
/-- bad -/
theorem bbad (h : PS lab w b g m lq (S.set k s)) (hn : S.n ≤ 8) (hk : k < S.n) (h1 : s.taken ≤ 2305843009213693952) (h2 : s.mal ≤ 2305843009213693952) :
    Calls Tryz.prog 67 #[.pointer (some ⟨g, k * 13, none⟩)] w fun e w' => e = .returned (.tuple #[]) ∧ PS lab w' b g m lq (S.set k s.bad) ∧ w.grownBy w' (some g) := by
  obtain ⟨q1, g1⟩ := h.set_taken hn hk (s.taken + 1) (y := (s.taken : Int) + 1) (by omega)
  have c4 := h.at_taken hk
  have fz := h.fz (k * 13 + 4)
  obtain ⟨W1, hW1⟩ : ∃ W, w.setCell ⟨g, k * 13 + 4, none⟩ (.int .i64 ((s.taken : Int) + 1)) = W := ⟨_, rfl⟩
  rw [hW1] at q1 g1
  obtain ⟨q2, g2⟩ := q1.set_mal hn hk (s.mal + 1) (y := (s.mal : Int) + 1) (by omega)
  have c6 := q1.at_mal hk
  have fz1 := q1.fz (k * 13 + 6)
  have Q := hid q2
  have G := hid (g1.trans g2)
  clear h q1 q2 g1 g2
  go_enter Tryz.func67, Tryz.ntmps67
  go_wp2
  go_end0
  exact ⟨rfl, Q.out, G.out⟩
/-- first of a queue -/
theorem bfirst_no (o : Nat) (p : Option Addr) (c : Nat) (w : World) (h : w.cell? ⟨g, o, none⟩ = some (.slice p 0 c)) : Calls Tryz.prog 71 #[.pointer (some ⟨g, o, none⟩)] w fun e w' => e = .returned (.tuple #[.slice none 0 0, .bool false]) ∧ w = w' := by
  go_enter Tryz.func71, Tryz.ntmps71
  go_wp2
  go_ret2
  exact ⟨rfl, rfl⟩
theorem bfirst_yes (o n a x c : Nat) (fp : Option Addr) (fl fc : Nat) (w : World) (h : w.cell? ⟨g, o, none⟩ = some (.slice (some ⟨a, x, none⟩) (n + 1) c)) (hc : w.cell? ⟨a, x, none⟩ = some (.slice fp fl fc)) : Calls Tryz.prog 71 #[.pointer (some ⟨g, o, none⟩)] w fun e w' => e = .returned (.tuple #[.slice fp fl fc, .bool true]) ∧ w = w' := by
  have h1 : (0 : Int) < (n : Int) + 1 := by omega
  have h2 : (((n + 1 : Nat) : Int) == 0) = false := by simp; omega
  go_enter Tryz.func71, Tryz.ntmps71
  go_wp2
  go_ret2
  exact ⟨rfl, rfl⟩
theorem info_sl : (Tryz.prog.info? 59).map (fun i => (i.zero, i.size, i.bytes)) = some (some (.slice none 0 0), 1, 24) := by kernel_rfl
/-- put -/
theorem bput_no (h : PS lab w b g m lq (S.set k s)) (hk : k < S.n) (v : Value) (hq : ¬ s.q.length < 4) : Calls Tryz.prog 90 #[.pointer (some ⟨g, k * 13 + 3, none⟩), v] w fun e w' => e = .returned (.bool false) ∧ w = w' := by
  have c3 := h.at_q hk
  have h4 : (4 : Int) ≤ (s.q.length : Nat) := by omega
  clear h hq
  go_enter Tryz.func90, Tryz.ntmps90
  go_wp2
  go_ret
  exact ⟨rfl, rfl⟩
theorem bput_yes (h : PS lab w b g m lq (S.set k s)) (hn : S.n ≤ 8) (hk : k < S.n) (fp : Option Addr) (f : List UInt8) (fc : Nat) (hb : BU lab w fp f) (hq : s.q.length < 4) :
    Calls Tryz.prog 90 #[.pointer (some ⟨g, k * 13 + 3, none⟩), .slice fp f.length fc] w fun e w' => e = .returned (.bool true) ∧ Aft lab w b g m (S.set k { s with q := s.q ++ [f] }) w' := by
  have c3 := h.at_q hk
  have h4 : ¬ (4 : Int) ≤ (s.q.length : Nat) := by omega
  obtain ⟨xs, hx, hf⟩ := h.qat hk
  have hlen := hf.len
  obtain ⟨i0, hi, hz0, hz1, hz2⟩ := info_parts info_sl
  have hg1 := World.grownBy_alloc w (.cells #[.slice fp f.length fc] 59) none
  have hx1 := hx.grown hg1
  have hf1 := hf.st (C := fun _ => False) (St.grown hg1) (fun e => e)
  have h1 := h.grown hn hg1
  have hb1 := hb.st (C := fun _ => False) (St.grown hg1) (fun e => e)
  obtain ⟨p', c', lab1, w1, hr, hq1, st1⟩ := hx1.app 145 59 i0 (.slice none 0 0) Tryz.underlying145 hi hz0 rfl hz1 (by omega) ⟨w.heap.size, 0, none⟩ (.slice fp f.length fc) (by rw [cell_of_row _ _ _ _ _ _ (heap_alloc_new w _)]; rfl) rfl (by omega) (fun l => l = 16 + k) rfl
  rw [hlen] at hr
  have hf2 := (hf1.st st1 (by omega)).snoc ⟨fp, fc, rfl, hb1.st st1 (by omega)⟩
  obtain ⟨R, st2, c4, fz⟩ := h1.setq hn hk st1 (L := ⟨p', c'⟩) hq1 hf2 (v := .slice p' (s.q.length + 1) c') (by simp)
  have HR := hid R
  have ST := hid ((St.grown (C := CP) (lab := lab) hg1).tr st2)
  have hst := fun ob => cell_one_new w ob 59
  have HRR := hid hr
  clear h h1 hb hb1 hx hx1 hf hf1 hf2 hq1 R st1 st2 hr hq hg1 hst
  go_enter Tryz.func90, Tryz.ntmps90
  go_wp2_with (at_builtin; refine Lib.wpList_append_run _ rfl _ _ _ _ rfl _ _ rfl rfl _ _ (HRR.out _ _) ?_)
  go_ret
  exact ⟨rfl, _, _, HR.out, ST.out⟩
end
end Go.Proofs.YtolfjbodgdjbjaaGreat.Br
