/-
  Package blk: slices.Grow and slices.Concat of bytes.
-/
import Derived.Test.YtoeohbiofmcdeaaBkZ
import Derived.Test.YtoeohbiofmcdeaaBkJ
import Derived.Deep.Cut
set_option linter.unusedSimpArgs false
set_option linter.unusedVariables false
namespace Go.Proofs.Ytoeohbiofmcdeaa.Bk
open Go.RowKit Gen
set_option maxHeartbeats 4000000

/-- append of any bytes to own ones -/
theorem run_append_ba (w : World) (base : Nat) (v : Value) (n : Nat) (xs : List Value) (hown : w.ownsRow base 5 1 v n xs) (p : Option Addr) (l : List UInt8) (c : Nat) (hc : p = none → c = 0) (h : BA w p l) (hm : n + l.length ≤ 16777216) (hbase : base ≤ w.heap.size) :
    ∃ v' w', (∀ ty, (Builtin.append_ #[25, 25] ty #[v, .slice p l.length c]).run Try.prog w = .ok v' w') ∧ w'.ownsRow base 5 1 v' (n + l.length) (xs ++ bcells l) ∧ w.grownBy w' v.ownBlock := by
  obtain ⟨i0, hi, hz0, hz1, hz2⟩ := info_parts info_u8
  cases p with
  | none =>
    obtain rfl := h.of_none
    obtain rfl := hc rfl
    exact ⟨v, w, fun ty => run_append_owned_none (P := Try.prog) (w := w) base 25 ty 5 i0 1 Try.underlying25 hi v n xs hown, by simpa [bcells_nil] using hown, grownBy_refl _ _⟩
  | some a =>
    obtain ⟨v', w', hr, ho, hg, _⟩ := run_append_own (P := Try.prog) w base 25 25 5 i0 (.int .u8 0) 1 1 Try.underlying25 hi hz0 hz1 hz2 rfl (by decide) v n xs hown a l.length c (bcells l) (by rw [bcells_len, Nat.mul_one]) (news_ba h) (bcells_one l) (by unfold maxLen; omega) (by omega) hbase
    refine ⟨v', w', fun ty => ?_, ho, hg⟩
    obtain ⟨v2, w2, hr2, _⟩ := run_append_own (P := Try.prog) w base 25 ty 5 i0 (.int .u8 0) 1 1 Try.underlying25 hi hz0 hz1 hz2 rfl (by decide) v n xs hown a l.length c (bcells l) (by rw [bcells_len, Nat.mul_one]) (news_ba h) (bcells_one l) (by unfold maxLen; omega) (by omega) hbase
    rw [← hr]
    rfl
theorem own_cut0 {w : World} {base g n cap : Nat} {xs : List Value} (h : w.ownsRow base 5 1 (.slice (some ⟨g, 0, none⟩) n cap) n xs) : w.ownsRow base 5 1 (.slice (some ⟨g, 0, none⟩) 0 cap) 0 [] := by
  rcases h.2 with ⟨h1, _⟩ | ⟨g', cap', cur, h1, hb, hg, hc, hm, hs, _⟩
  · cases h1
  · cases h1
    exact ⟨by simp, .inr ⟨g, cap, cur, rfl, hb, hg, Nat.zero_le _, hm, hs, by simp⟩⟩
theorem own_some {w : World} {base n : Nat} {v : Value} {xs : List Value} (hn : 0 < n) (h : w.ownsRow base 5 1 v n xs) : ∃ g cap, v = .slice (some ⟨g, 0, none⟩) n cap ∧ n ≤ cap ∧ cap ≤ 9223372036854775807 := by
  rcases h.2 with ⟨_, h0⟩ | ⟨g, cap, cur, rfl, hb, hg, hc, hm, _⟩
  · omega
  · exact ⟨g, cap, rfl, hc, by unfold maxLen at hm; omega⟩
theorem sGrow (n : Nat) (h0 : 0 < n) (h1 : n ≤ 1000) (w : World) : Calls Try.prog 44 #[.slice none 0 0, .int .i64 n] w fun e w' => ∃ v, e = .returned v ∧ w'.ownsRow w.heap.size 5 1 v 0 [] ∧ w.grownBy w' none := by
  have ho := own_nil w w.heap.size
  rw [bcells_nil] at ho
  obtain ⟨vz, wz, hrz, hoz, hgz⟩ := run_append_zeros w w.heap.size _ 0 n _ ho (by omega) (Nat.le_refl _)
  rw [Nat.zero_add, List.nil_append] at hoz
  obtain ⟨g, cap, rfl, hc, hc63⟩ := own_some h0 hoz
  have HO := hid (own_cut0 hoz)
  have HRZ := hid hrz
  have HG := hid hgz
  have n1 : ¬ ((n : Int) < 0) := by omega
  have n2 : (0 : Int) < n := by omega
  have e1 : wrap64 ((n : Int) - 0) = n := by unfold wrap64; omega
  have hc0 : 0 < cap := by omega
  clear ho hoz hgz hrz
  go_enter Try.func44, Try.ntmps44
  go_wp2_with (at_builtin; refine Lib.wpList_append_run _ rfl _ _ _ _ rfl _ _ rfl rfl _ _ (HRZ.out _) ?_)
  go_ret
  exact ⟨_, rfl, HO.out, HG.out⟩
/-- four rows of bytes, in a slice of slices -/
structure Four (w : World) (B : Nat) (l0 l1 l2 l3 : List UInt8) (p0 p1 p2 p3 : Option Addr) (c0 c1 c2 c3 : Nat) : Prop where
  z0 : w.cell? ⟨B, 0, none⟩ = some (.slice p0 l0.length c0)
  z1 : w.cell? ⟨B, 1, none⟩ = some (.slice p1 l1.length c1)
  z2 : w.cell? ⟨B, 2, none⟩ = some (.slice p2 l2.length c2)
  z3 : w.cell? ⟨B, 3, none⟩ = some (.slice p3 l3.length c3)
  b0 : BA w p0 l0
  b1 : BA w p1 l1
  b2 : BA w p2 l2
  b3 : BA w p3 l3
  n0 : p0 = none → c0 = 0
  n1 : p1 = none → c1 = 0
  n2 : p2 = none → c2 = 0
  n3 : p3 = none → c3 = 0
theorem Four.grown {w w' : World} {B : Nat} {l0 l1 l2 l3 : List UInt8} {p0 p1 p2 p3 : Option Addr} {c0 c1 c2 c3 : Nat} (h : Four w B l0 l1 l2 l3 p0 p1 p2 p3 c0 c1 c2 c3) (hg : w.grownBy w' none) : Four w' B l0 l1 l2 l3 p0 p1 p2 p3 c0 c1 c2 c3 :=
  ⟨hg.cell h.z0 (by simp), hg.cell h.z1 (by simp), hg.cell h.z2 (by simp), hg.cell h.z3 (by simp), h.b0.grown hg, h.b1.grown hg, h.b2.grown hg, h.b3.grown hg, h.n0, h.n1, h.n2, h.n3⟩
/-- the first k of four -/
def upto4 (l0 l1 l2 l3 : List UInt8) : Nat → List UInt8
  | 0 => []
  | 1 => l0
  | 2 => l0 ++ l1
  | 3 => l0 ++ l1 ++ l2
  | _ => l0 ++ l1 ++ l2 ++ l3
def len4 (n0 n1 n2 n3 : Nat) : Nat → Nat
  | 0 => 0
  | 1 => n0
  | 2 => n0 + n1
  | 3 => n0 + n1 + n2
  | _ => n0 + n1 + n2 + n3
theorem upto4_len (l0 l1 l2 l3 : List UInt8) (k : Nat) (hk : k ≤ 4) : (upto4 l0 l1 l2 l3 k).length = len4 l0.length l1.length l2.length l3.length k := by
  match k, hk with
  | 0, _ => rfl
  | 1, _ => rfl
  | 2, _ => simp [upto4, len4]
  | 3, _ => simp [upto4, len4]; omega
  | 4, _ => simp [upto4, len4]; omega
set_option maxRecDepth 100000 in
theorem sConcat (l0 l1 l2 l3 : List UInt8) (p0 p1 p2 p3 : Option Addr) (c0 c1 c2 c3 B : Nat) (w : World) (h : Four w B l0 l1 l2 l3 p0 p1 p2 p3 c0 c1 c2 c3) (hl : l0.length + l1.length + l2.length + l3.length ≤ 1000) (h0 : 0 < l0.length) :
    Calls Try.prog 28 #[.slice (some ⟨B, 0, none⟩) 4 4] w fun e w' => ∃ v, e = .returned v ∧ w'.ownsRow w.heap.size 5 1 v (l0 ++ l1 ++ l2 ++ l3).length (bcells (l0 ++ l1 ++ l2 ++ l3)) ∧ w.grownBy w' none := by
  have HF := hid h
  have UL := hid (upto4_len l0 l1 l2 l3)
  obtain ⟨m0, hm0⟩ : ∃ m, l0.length = m := ⟨_, rfl⟩
  obtain ⟨m1, hm1⟩ : ∃ m, l1.length = m := ⟨_, rfl⟩
  obtain ⟨m2, hm2⟩ : ∃ m, l2.length = m := ⟨_, rfl⟩
  obtain ⟨m3, hm3⟩ : ∃ m, l3.length = m := ⟨_, rfl⟩
  have HM0 := hid hm0; have HM1 := hid hm1; have HM2 := hid hm2; have HM3 := hid hm3
  have hUL := UL.out
  rw [hm0, hm1, hm2, hm3] at hl hUL
  rw [hm0] at h0
  have UL := hid hUL
  have z0 := h.z0; have z1 := h.z1; have z2 := h.z2; have z3 := h.z3
  rw [hm0] at z0; rw [hm1] at z1; rw [hm2] at z2; rw [hm3] at z3
  have HGR := hid (fun w' => sGrow (m0 + m1 + m2 + m3) (by omega) hl w')
  clear h hm0 hm1 hm2 hm3 hUL
  go_enter Try.func28, Try.ntmps28
  go_wp2
  go_loopw [3, 11] (fun v i wr => ∃ k : Nat, i = .int .i64 k ∧ k ≤ 4 ∧ v = .int .i64 (len4 m0 m1 m2 m3 k : Nat) ∧ w = wr) (fun _ i _ => 4 - (intOf i).toNat)
  case atStart => exact ⟨0, rfl, by omega, rfl, rfl⟩
  case round =>
    obtain ⟨k, rfl, hk, rfl, rfl⟩ := hrel
    match k, hk with
    | 0, _ =>
      obtain ⟨a, ha⟩ : ∃ a, len4 m0 m1 m2 m3 0 = a := ⟨_, rfl⟩
      obtain ⟨b, hb⟩ : ∃ b, len4 m0 m1 m2 m3 (0 + 1) = b := ⟨_, rfl⟩
      have e1 : wrap64 ((a : Int) + (m0 : Int)) = (b : Int) := by simp only [len4] at ha hb; unfold wrap64; omega
      have e2 : ¬ ((b : Int) < 0) := by omega
      rw [ha]
      have HB := hid hb
      clear ha hb
      go_wp2
      go_roundw
      case rel => exact ⟨0 + 1, by go_num, by omega, by rw [HB.out, e1], by first | rfl | trivial⟩
      case measure => simp [intOf]
    | 1, _ =>
      obtain ⟨a, ha⟩ : ∃ a, len4 m0 m1 m2 m3 1 = a := ⟨_, rfl⟩
      obtain ⟨b, hb⟩ : ∃ b, len4 m0 m1 m2 m3 (1 + 1) = b := ⟨_, rfl⟩
      have e1 : wrap64 ((a : Int) + (m1 : Int)) = (b : Int) := by simp only [len4] at ha hb; unfold wrap64; omega
      have e2 : ¬ ((b : Int) < 0) := by omega
      rw [ha]
      have HB := hid hb
      clear ha hb
      go_wp2
      go_roundw
      case rel => exact ⟨1 + 1, by go_num, by omega, by rw [HB.out, e1], by first | rfl | trivial⟩
      case measure => simp [intOf]
    | 2, _ =>
      obtain ⟨a, ha⟩ : ∃ a, len4 m0 m1 m2 m3 2 = a := ⟨_, rfl⟩
      obtain ⟨b, hb⟩ : ∃ b, len4 m0 m1 m2 m3 (2 + 1) = b := ⟨_, rfl⟩
      have e1 : wrap64 ((a : Int) + (m2 : Int)) = (b : Int) := by simp only [len4] at ha hb; unfold wrap64; omega
      have e2 : ¬ ((b : Int) < 0) := by omega
      rw [ha]
      have HB := hid hb
      clear ha hb
      go_wp2
      go_roundw
      case rel => exact ⟨2 + 1, by go_num, by omega, by rw [HB.out, e1], by first | rfl | trivial⟩
      case measure => simp [intOf]
    | 3, _ =>
      obtain ⟨a, ha⟩ : ∃ a, len4 m0 m1 m2 m3 3 = a := ⟨_, rfl⟩
      obtain ⟨b, hb⟩ : ∃ b, len4 m0 m1 m2 m3 (3 + 1) = b := ⟨_, rfl⟩
      have e1 : wrap64 ((a : Int) + (m3 : Int)) = (b : Int) := by simp only [len4] at ha hb; unfold wrap64; omega
      have e2 : ¬ ((b : Int) < 0) := by omega
      rw [ha]
      have HB := hid hb
      clear ha hb
      go_wp2
      go_roundw
      case rel => exact ⟨3 + 1, by go_num, by omega, by rw [HB.out, e1], by first | rfl | trivial⟩
      case measure => simp [intOf]
    | 4, _ =>
      have e0 : len4 m0 m1 m2 m3 4 = m0 + m1 + m2 + m3 := rfl
      rw [e0]
      obtain ⟨S, hS⟩ : ∃ S, m0 + m1 + m2 + m3 = S := ⟨_, rfl⟩
      rw [hS] at HGR ⊢
      have HS := hid hS
      clear hS e0 z0 z1 z2 z3
      go_wp2_with (go_at_call 44; refine (HGR.out _).mono ?_; rintro e w1 ⟨v, rfl, ho, hg⟩; have HO1 := hid ho; have HG1 := hid hg; clear ho hg)
      go_loopw [6, 27] (fun v i wr => ∃ k : Nat, i = .int .i64 k ∧ k ≤ 4 ∧ wr.ownsRow w.heap.size 5 1 v (upto4 l0 l1 l2 l3 k).length (bcells (upto4 l0 l1 l2 l3 k)) ∧ w.grownBy wr none) (fun _ i _ => 4 - (intOf i).toNat)
      case atStart => exact ⟨0, rfl, by omega, by have := HO1.out; simpa [upto4, bcells_nil] using this, HG1.out⟩
      case round =>
        obtain ⟨k, rfl, hk, ho, hg⟩ := hrel
        match k, hk with
        | 0, _ =>
          have HX := hid (show upto4 l0 l1 l2 l3 (0 + 1) = upto4 l0 l1 l2 l3 0 ++ l0 from by simp [upto4])
          have hx := UL.out 0 (by omega)
          obtain ⟨a, ha⟩ : ∃ a, len4 m0 m1 m2 m3 0 = a := ⟨_, rfl⟩
          have ha2 : a ≤ 1000 := by simp only [len4] at ha; omega
          rw [hx, ha] at ho
          have HA := hid (hx.trans ha)
          clear hx ha
          have hF := HF.out.grown hg
          obtain ⟨pv, cv, hv⟩ := ownsRow_slice ho
          subst hv
          obtain ⟨v', w', hr, ho', hg'⟩ := run_append_ba wr w.heap.size _ a _ ho p0 l0 c0 hF.n0 hF.b0 (by rw [HM0.out]; omega) hg.size
          have z := hF.z0
          rw [HM0.out] at hr z ho'
          have HR := hid hr
          have HO2 := hid ho'
          have HG2 := hid (own_then hg ho (Nat.le_refl _) hg')
          obtain ⟨pv', cv', hv'⟩ := ownsRow_slice ho'
          subst hv'
          clear hr ho' hg' ho hg hF
          go_wp2_with (at_builtin; refine Lib.wpList_append_run _ rfl _ _ _ _ rfl _ _ rfl rfl _ _ (HR.out _) ?_)
          go_roundw
          case rel => exact ⟨0 + 1, by go_num, by omega, by rw [HX.out, List.length_append, HA.out, HM0.out, bcells_app]; exact HO2.out, HG2.out⟩
          case measure => simp [intOf]
        | 1, _ =>
          have HX := hid (show upto4 l0 l1 l2 l3 (1 + 1) = upto4 l0 l1 l2 l3 1 ++ l1 from by simp [upto4])
          have hx := UL.out 1 (by omega)
          obtain ⟨a, ha⟩ : ∃ a, len4 m0 m1 m2 m3 1 = a := ⟨_, rfl⟩
          have ha2 : a ≤ 1000 := by simp only [len4] at ha; omega
          rw [hx, ha] at ho
          have HA := hid (hx.trans ha)
          clear hx ha
          have hF := HF.out.grown hg
          obtain ⟨pv, cv, hv⟩ := ownsRow_slice ho
          subst hv
          obtain ⟨v', w', hr, ho', hg'⟩ := run_append_ba wr w.heap.size _ a _ ho p1 l1 c1 hF.n1 hF.b1 (by rw [HM1.out]; omega) hg.size
          have z := hF.z1
          rw [HM1.out] at hr z ho'
          have HR := hid hr
          have HO2 := hid ho'
          have HG2 := hid (own_then hg ho (Nat.le_refl _) hg')
          obtain ⟨pv', cv', hv'⟩ := ownsRow_slice ho'
          subst hv'
          clear hr ho' hg' ho hg hF
          go_wp2_with (at_builtin; refine Lib.wpList_append_run _ rfl _ _ _ _ rfl _ _ rfl rfl _ _ (HR.out _) ?_)
          go_roundw
          case rel => exact ⟨1 + 1, by go_num, by omega, by rw [HX.out, List.length_append, HA.out, HM1.out, bcells_app]; exact HO2.out, HG2.out⟩
          case measure => simp [intOf]
        | 2, _ =>
          have HX := hid (show upto4 l0 l1 l2 l3 (2 + 1) = upto4 l0 l1 l2 l3 2 ++ l2 from by simp [upto4])
          have hx := UL.out 2 (by omega)
          obtain ⟨a, ha⟩ : ∃ a, len4 m0 m1 m2 m3 2 = a := ⟨_, rfl⟩
          have ha2 : a ≤ 1000 := by simp only [len4] at ha; omega
          rw [hx, ha] at ho
          have HA := hid (hx.trans ha)
          clear hx ha
          have hF := HF.out.grown hg
          obtain ⟨pv, cv, hv⟩ := ownsRow_slice ho
          subst hv
          obtain ⟨v', w', hr, ho', hg'⟩ := run_append_ba wr w.heap.size _ a _ ho p2 l2 c2 hF.n2 hF.b2 (by rw [HM2.out]; omega) hg.size
          have z := hF.z2
          rw [HM2.out] at hr z ho'
          have HR := hid hr
          have HO2 := hid ho'
          have HG2 := hid (own_then hg ho (Nat.le_refl _) hg')
          obtain ⟨pv', cv', hv'⟩ := ownsRow_slice ho'
          subst hv'
          clear hr ho' hg' ho hg hF
          go_wp2_with (at_builtin; refine Lib.wpList_append_run _ rfl _ _ _ _ rfl _ _ rfl rfl _ _ (HR.out _) ?_)
          go_roundw
          case rel => exact ⟨2 + 1, by go_num, by omega, by rw [HX.out, List.length_append, HA.out, HM2.out, bcells_app]; exact HO2.out, HG2.out⟩
          case measure => simp [intOf]
        | 3, _ =>
          have HX := hid (show upto4 l0 l1 l2 l3 (3 + 1) = upto4 l0 l1 l2 l3 3 ++ l3 from by simp [upto4])
          have hx := UL.out 3 (by omega)
          obtain ⟨a, ha⟩ : ∃ a, len4 m0 m1 m2 m3 3 = a := ⟨_, rfl⟩
          have ha2 : a ≤ 1000 := by simp only [len4] at ha; omega
          rw [hx, ha] at ho
          have HA := hid (hx.trans ha)
          clear hx ha
          have hF := HF.out.grown hg
          obtain ⟨pv, cv, hv⟩ := ownsRow_slice ho
          subst hv
          obtain ⟨v', w', hr, ho', hg'⟩ := run_append_ba wr w.heap.size _ a _ ho p3 l3 c3 hF.n3 hF.b3 (by rw [HM3.out]; omega) hg.size
          have z := hF.z3
          rw [HM3.out] at hr z ho'
          have HR := hid hr
          have HO2 := hid ho'
          have HG2 := hid (own_then hg ho (Nat.le_refl _) hg')
          obtain ⟨pv', cv', hv'⟩ := ownsRow_slice ho'
          subst hv'
          clear hr ho' hg' ho hg hF
          go_wp2_with (at_builtin; refine Lib.wpList_append_run _ rfl _ _ _ _ rfl _ _ rfl rfl _ _ (HR.out _) ?_)
          go_roundw
          case rel => exact ⟨3 + 1, by go_num, by omega, by rw [HX.out, List.length_append, HA.out, HM3.out, bcells_app]; exact HO2.out, HG2.out⟩
          case measure => simp [intOf]
        | 4, _ =>
          have HO := hid ho; have HG := hid hg
          clear ho hg
          go_wp2
          go_ret
          exact ⟨_, rfl, HO.out, HG.out⟩
end Go.Proofs.Ytoeohbiofmcdeaa.Bk
