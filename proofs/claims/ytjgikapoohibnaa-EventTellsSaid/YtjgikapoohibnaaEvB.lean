/-
  Package event: contracts of the scans of a domain's ports: take, virq, pending.
-/
import Derived.Test.YtjgikapoohibnaaEvA
import Derived.Deep.RegionLaw
import Derived.Deep.RegionWith
import Derived.Deep.RegionHeld3
import Derived.RangeFuncBox
set_option linter.unusedSimpArgs false
set_option linter.unusedVariables false
namespace Go.Proofs.Ytjgikapoohibnaa
open Go.RowKit Gen
set_option maxHeartbeats 1000000

theorem least_no {P : Nat → Bool} {j : Nat} (h : j ≤ least P) (hj : j < 32) (hP : P j = false) : j + 1 ≤ least P := by
  rcases Nat.lt_or_ge j (least P) with e | e
  · omega
  · obtain rfl : j = least P := by omega
    have := least_is P hj
    rw [hP] at this; cases this
theorem least_yes {P : Nat → Bool} {j : Nat} (h : j ≤ least P) (hP : P j = true) : least P = j := by
  rcases Nat.lt_or_ge j (least P) with e | e
  · have := least_lt P e; rw [hP] at this; cases this
  · omega
theorem least_end {P : Nat → Bool} (h : 32 ≤ least P) : least P = 32 := by have := least_le P; omega
theorem box6 (w : World) (q : Prt) : ∃ W, w.alloc (.cells #[.int .i64 q.k, .int .i64 q.r, .int .i64 q.p, .int .i64 q.v, .bool q.pe, .bool q.ma] 35) = W ∧ w.grownBy W none ∧ Row W w.heap.size 35 6 q.cell ∧
    W.cell? ⟨w.heap.size, 0, none⟩ = some (.int .i64 q.k) ∧ W.cell? ⟨w.heap.size, 1, none⟩ = some (.int .i64 q.r) ∧ W.cell? ⟨w.heap.size, 2, none⟩ = some (.int .i64 q.p) ∧ W.cell? ⟨w.heap.size, 3, none⟩ = some (.int .i64 q.v) ∧ W.cell? ⟨w.heap.size, 4, none⟩ = some (.bool q.pe) ∧ W.cell? ⟨w.heap.size, 5, none⟩ = some (.bool q.ma) := by
  have hr : Row (w.alloc (.cells #[.int .i64 q.k, .int .i64 q.r, .int .i64 q.p, .int .i64 q.v, .bool q.pe, .bool q.ma] 35)) w.heap.size 35 6 q.cell := ⟨_, heap_alloc_new w _, by simp, fun k hk => by match k, hk with | 0, _ => rfl | 1, _ => rfl | 2, _ => rfl | 3, _ => rfl | 4, _ => rfl | 5, _ => rfl⟩
  exact ⟨_, rfl, World.grownBy_alloc w _ none, hr, hr.cell (k := 0) (by omega), hr.cell (k := 1) (by omega), hr.cell (k := 2) (by omega), hr.cell (k := 3) (by omega), hr.cell (k := 4) (by omega), hr.cell (k := 5) (by omega)⟩

theorem ELeft.laid {X d k : Nat} {w W : World} {S : Ev} (h : EvAt W X S) (hd : d < 8) (hk : k < 32) (hg : w.grownBy W none) (q : Prt) : ELeft X w (S.upd d k q) (set6 W X (1 + d * 193 + k * 6) q).drew :=
  ⟨(h.setAll hd hk q).grow0 (grownBy_drew _ none), ((grown_any hg _).trans (set6_grown _ _ _ _)).trans (grownBy_drew _ _)⟩
set_option maxRecDepth 100000 in
/-- take -/
theorem eTake (X d : Nat) (q : Prt) (w : World) (S : Ev) (hd : d < 8) (h : EvAt w X S) :
    Calls Try.prog 42 #[.pointer (some ⟨X, 1 + d * 193, none⟩), .agg #[.int .i64 q.k, .int .i64 q.r, .int .i64 q.p, .int .i64 q.v, .bool q.pe, .bool q.ma]] w fun e w' => e = .returned (.tuple #[.int .i64 (takeE S d q).1, .int .i64 (takeE S d q).2.1]) ∧ ELeft X w (takeE S d q).2.2 w' := by
  obtain ⟨W, hW, hg, hr6, b0, b1, b2, b3, b4, b5⟩ := box6 w q
  have H := hid (h.grow0 hg)
  have HG := hid hg
  have HYes := hid (fun k (hk : k < 32) (hl : k ≤ least (isFree S d)) (h0 : (S.pt d k).k = 0) => show takeE S d q = ((k : Int), 0, S.upd d k q) by
    have := least_yes hl (show isFree S d k = true by simp [isFree, h0])
    unfold takeE; rw [this, if_pos hk])
  have HNo := hid (fun (hl : 32 ≤ least (isFree S d)) => show takeE S d q = (0, 71, S) by unfold takeE; rw [if_neg (by omega)])
  have HSt := hid (fun k (hk : k < 32) (hl : k ≤ least (isFree S d)) (h0 : (S.pt d k).k ≠ 0) => least_no hl hk (show isFree S d k = false by simp [isFree, h0]))
  obtain ⟨qk, qr, qp, qv, qe, qm⟩ := q
  simp only at hW b0 b1 b2 b3 b4 b5
  clear h hg hr6
  go_enter Try.func42, Try.ntmps42
  go_wp2
  go_loop [7] (fun i => ∃ k : Nat, i = .int .i64 k ∧ k ≤ 32 ∧ k ≤ least (isFree S d)) (fun i => 32 - (intOf i).toNat)
  case atStart => exact ⟨0, rfl, by omega, by omega⟩
  case round =>
    obtain ⟨k, rfl, hk, hl⟩ := hrel
    have HL := hid hl
    clear hl
    have hk0 : (0 : Int) ≤ k := by omega
    by_cases hlt : k < 32
    · have hlt' : (k : Int) < 32 := by omega
      have c0 := H.out.k hd hlt
      by_cases h0 : (S.pt d k).k = 0
      · have HE := hid (HYes.out k hlt HL.out h0)
        have c1 := H.out.r hd hlt; have c2 := H.out.p hd hlt; have c3 := H.out.v hd hlt; have c4 := H.out.pe hd hlt; have c5 := H.out.ma hd hlt
        have f0 := H.out.fz (1 + d * 193 + k * 6); have f1 := H.out.fz (1 + d * 193 + k * 6 + 1); have f2 := H.out.fz (1 + d * 193 + k * 6 + 2); have f3 := H.out.fz (1 + d * 193 + k * 6 + 3); have f4 := H.out.fz (1 + d * 193 + k * 6 + 4); have f5 := H.out.fz (1 + d * 193 + k * 6 + 5)
        have ha := ELeft.laid H.out hd hlt HG.out ⟨qk, qr, qp, qv, qe, qm⟩
        unfold set6 at ha
        have HA := hid ha
        clear ha
        rw [h0] at c0
        clear h0
        go_wp2
        go_region
        all_goals
          go_wp2
          go_ret2
          rw [HE.out]
          exact ⟨rfl, HA.out⟩
      · have hb : ((S.pt d k).k == 0) = false := by simp [h0]
        have HN1 := hid (HSt.out k hlt HL.out h0)
        clear h0
        go_wp2
        go_round
        case rel => exact ⟨k + 1, by go_num, by omega, HN1.out⟩
        case measure => simp [intOf]; omega
    · obtain rfl : k = 32 := by omega
      have hge : (32 : Int) ≤ ((32 : Nat) : Int) := by omega
      have HE := hid (HNo.out HL.out)
      go_wp2
      go_ret2
      rw [HE.out]
      exact ⟨rfl, H.out, grown_any HG.out _⟩

/-! ### a copy of a port -/
theorem row6z (w : World) : Row (w.alloc (.cells #[.int .i64 0, .int .i64 0, .int .i64 0, .int .i64 0, .bool false, .bool false] 35)) w.heap.size 35 6 Prt.zero.cell :=
  ⟨_, heap_alloc_new w _, by simp, fun k hk => by match k, hk with | 0, _ => rfl | 1, _ => rfl | 2, _ => rfl | 3, _ => rfl | 4, _ => rfl | 5, _ => rfl⟩
def virqR (S : Ev) (d : Nat) (v : Int) : Int × Bool := if least (isVirqOf S d v) < 32 then (least (isVirqOf S d v), true) else (0, false)
set_option maxRecDepth 100000 in
/-- virq -/
theorem eVirqOf (X d : Nat) (v : Int) (w : World) (S : Ev) (hd : d < 8) (h : EvAt w X S) :
    Calls Try.prog 44 #[.pointer (some ⟨X, 1 + d * 193, none⟩), .int .i64 v] w fun e w' => e = .returned (.tuple #[.int .i64 (virqR S d v).1, .bool (virqR S d v).2]) ∧ w.grownBy w' none := by
  have H := hid h
  have HYes := hid (fun k (hk : k < 32) (hl : k ≤ least (isVirqOf S d v)) (h0 : (S.pt d k).k = 3) (h1 : (S.pt d k).v = v) => show virqR S d v = ((k : Int), true) by
    have := least_yes hl (show isVirqOf S d v k = true by simp [isVirqOf, h0, h1])
    unfold virqR; rw [this, if_pos hk])
  have HNo := hid (fun (hl : 32 ≤ least (isVirqOf S d v)) => show virqR S d v = (0, false) by unfold virqR; rw [if_neg (by omega)])
  have HSt := hid (fun k (hk : k < 32) (hl : k ≤ least (isVirqOf S d v)) (h0 : ¬ ((S.pt d k).k = 3 ∧ (S.pt d k).v = v)) => least_no hl hk (show isVirqOf S d v k = false by
    by_cases e : (S.pt d k).k = 3
    · by_cases e2 : (S.pt d k).v = v
      · exact absurd ⟨e, e2⟩ h0
      · simp [isVirqOf, e2]
    · simp [isVirqOf, e]))
  clear h
  go_enter Try.func44, Try.ntmps44
  go_wp2
  go_loopw [10] (fun i wr => ∃ k : Nat, i = .int .i64 k ∧ k ≤ 32 ∧ k ≤ least (isVirqOf S d v) ∧ w.grownBy wr none) (fun i _ => 32 - (intOf i).toNat)
  case atStart => exact ⟨0, rfl, by omega, by omega, World.grownBy.refl _ _⟩
  case round =>
    obtain ⟨k, rfl, hk, hl, hg⟩ := hrel
    have HL := hid hl; have HG := hid hg
    have hk0 : (0 : Int) ≤ k := by omega
    by_cases hlt : k < 32
    · have hlt' : (k : Int) < 32 := by omega
      have hM := H.out.grow0 hg
      have ga := World.grownBy_alloc wr (.cells #[.int .i64 0, .int .i64 0, .int .i64 0, .int .i64 0, .bool false, .bool false] 35) none
      have c0 := hM.k hd hlt; have c1 := hM.r hd hlt; have c2 := hM.p hd hlt; have c3 := hM.v hd hlt; have c4 := hM.pe hd hlt; have c5 := hM.ma hd hlt
      have u0 := ga.cell c0 (by simp); have u1 := ga.cell c1 (by simp); have u2 := ga.cell c2 (by simp); have u3 := ga.cell c3 (by simp); have u4 := ga.cell c4 (by simp); have u5 := ga.cell c5 (by simp)
      have r6 := row6z wr
      have v0 := r6.cell (k := 0) (by omega); have v1 := r6.cell (k := 1) (by omega); have v2 := r6.cell (k := 2) (by omega); have v3 := r6.cell (k := 3) (by omega); have v4 := r6.cell (k := 4) (by omega); have v5 := r6.cell (k := 5) (by omega); have vz := r6.frozen
      have R6 := hid r6; have GA := hid ga; have HM := hid hM
      have HE := hid (HYes.out k hlt HL.out)
      have HN1 := hid (HSt.out k hlt HL.out)
      clear r6 ga hM hl hg
      generalize S.pt d k = q at *
      obtain ⟨qk, qr, qp, qv, qe, qm⟩ := q
      simp only at c0 c1 c2 c3 c4 c5 u0 u1 u2 u3 u4 u5 HE HN1
      by_cases h3 : qk = 3
      · subst h3
        by_cases h4 : qv = v
        · subst h4
          have HE2 := hid (HE.out rfl rfl)
          have hb : (qv == qv) = true := by simp
          go_wp2
          go_region
          all_goals
            go_wp2
            go_ret2
            rw [HE2.out]
            exact ⟨rfl, HG.out.trans ((World.grownBy_alloc _ _ none).trans (grownBy_drew _ none))⟩
        · have hb : (qv == v) = false := by simp [h4]
          have HN2 := hid (HN1.out (fun e => h4 e.2))
          clear h4
          go_wp2
          go_region
          all_goals
            go_wp2
            go_roundw
            case rel => exact ⟨k + 1, by go_num, by omega, HN2.out, HG.out.trans ((World.grownBy_alloc _ _ none).trans (grownBy_drew _ none))⟩
            case measure => simp [intOf]; omega
      · have hb : (qk == 3) = false := by simp [h3]
        have HN2 := hid (HN1.out (fun e => h3 e.1))
        clear h3
        go_wp2
        go_region
        all_goals
          go_wp2
          go_roundw
          case rel => exact ⟨k + 1, by go_num, by omega, HN2.out, HG.out.trans ((World.grownBy_alloc _ _ none).trans (grownBy_drew _ none))⟩
          case measure => simp [intOf]; omega
    · obtain rfl : k = 32 := by omega
      have hge : (32 : Int) ≤ ((32 : Nat) : Int) := by omega
      have HE := hid (HNo.out HL.out)
      go_wp2
      go_ret2
      rw [HE.out]
      exact ⟨rfl, HG.out⟩

/-! ### pending -/
theorem info_int : (Try.prog.info? 3).map (fun i => (i.zero, i.size, i.bytes)) = some (some (.int .i64 0), 1, 8) := by kernel_rfl
def icells (l : List Nat) : List Value := l.map fun (k : Nat) => .int .i64 k
theorem icells_snoc (l : List Nat) (k : Nat) : icells (l ++ [k]) = icells l ++ [.int .i64 k] := by simp [icells]
theorem icells_len (l : List Nat) : (icells l).length = l.length := by simp [icells]
def NewInts (w : World) (l : List Nat) (v : Value) (w' : World) : Prop := w'.ownsRow w.heap.size 3 1 v l.length (icells l) ∧ w.grownBy w' none
theorem newInts_slice {w w' : World} {l : List Nat} {v : Value} (h : NewInts w l v w') : ∃ p c, v = .slice p l.length c := ownsRow_slice h.1
theorem pendL_in {S : Ev} {d k : Nat} (h : (S.pt d k).pe = true) : pendL S d (k + 1) = pendL S d k ++ [k] := by
  show pendL S d k ++ (if (S.pt d k).pe = true then [k] else []) = _
  rw [if_pos h]
theorem pendL_out {S : Ev} {d k : Nat} (h : (S.pt d k).pe = false) : pendL S d (k + 1) = pendL S d k := by
  show pendL S d k ++ (if (S.pt d k).pe = true then [k] else []) = _
  rw [h]; simp
theorem pendL_le' (S : Ev) (d : Nat) : ∀ k, (pendL S d k).length ≤ k
  | 0 => by simp [pendL]
  | k + 1 => by
    have := pendL_le' S d k
    unfold pendL
    simp only [List.length_append]
    split <;> simp <;> omega
theorem ownsRow_drew {W : World} {base : Nat} {e : TypeId} {size n : Nat} {v : Value} {xs : List Value} (h : W.ownsRow base e size v n xs) : W.drew.ownsRow base e size v n xs := h
set_option maxRecDepth 100000 in
theorem ePendingOf (X d : Nat) (w : World) (S : Ev) (hd : d < 8) (h : EvAt w X S) :
    Calls Try.prog 46 #[.pointer (some ⟨X, 1 + d * 193, none⟩)] w fun e w' => ∃ v, e = .returned v ∧ NewInts w (pendL S d 32) v w' := by
  have H := hid h
  obtain ⟨i0, hi, hz0, hz1, hz2⟩ := info_parts info_int
  have Hi := hid hi; have Hz0 := hid hz0; have Hz1 := hid hz1; have Hz2 := hid hz2
  clear h hi hz0 hz1 hz2
  go_enter Try.func46, Try.ntmps46
  go_wp2
  go_loopw [3, 8] (fun v i wr => ∃ k : Nat, i = .int .i64 k ∧ k ≤ 32 ∧ wr.ownsRow w.heap.size 3 1 v (pendL S d k).length (icells (pendL S d k)) ∧ w.grownBy wr none) (fun _ i _ => 32 - (intOf i).toNat)
  case atStart => exact ⟨0, rfl, by omega, World.ownsRow_nil _ _ _ _, World.grownBy.refl _ _⟩
  case round =>
    obtain ⟨k, rfl, hk, hrow, hg⟩ := hrel
    have HO := hid hrow; have HG := hid hg
    have hpl := pendL_le' S d k
    obtain ⟨pv, cv, hv⟩ := ownsRow_slice hrow
    have hk0 : (0 : Int) ≤ k := by omega
    by_cases hlt : k < 32
    · have hlt' : (k : Int) < 32 := by omega
      have hM := H.out.grow0 hg
      have ga := World.grownBy_alloc wr (.cells #[.int .i64 0, .int .i64 0, .int .i64 0, .int .i64 0, .bool false, .bool false] 35) none
      have c0 := hM.k hd hlt; have c1 := hM.r hd hlt; have c2 := hM.p hd hlt; have c3 := hM.v hd hlt; have c4 := hM.pe hd hlt; have c5 := hM.ma hd hlt
      have u0 := ga.cell c0 (by simp); have u1 := ga.cell c1 (by simp); have u2 := ga.cell c2 (by simp); have u3 := ga.cell c3 (by simp); have u4 := ga.cell c4 (by simp); have u5 := ga.cell c5 (by simp)
      have r6 := row6z wr
      have v0 := r6.cell (k := 0) (by omega); have v1 := r6.cell (k := 1) (by omega); have v2 := r6.cell (k := 2) (by omega); have v3 := r6.cell (k := 3) (by omega); have v4 := r6.cell (k := 4) (by omega); have v5 := r6.cell (k := 5) (by omega); have vz := r6.frozen
      have HIn := hid (pendL_in (S := S) (d := d) (k := k)); have HOut := hid (pendL_out (S := S) (d := d) (k := k))
      obtain ⟨W1, hW1, g1, _, b0, b1, b2, b3, b4, b5⟩ := box6 wr (S.pt d k)
      have HG1 := hid (hg.trans g1)
      have ho1 := hrow.alloc (.cells #[.int .i64 (S.pt d k).k, .int .i64 (S.pt d k).r, .int .i64 (S.pt d k).p, .int .i64 (S.pt d k).v, .bool (S.pt d k).pe, .bool (S.pt d k).ma] 35)
      rw [hW1] at ho1
      have HO1 := hid ho1
      clear r6 ga hM hg g1 hrow ho1
      generalize S.pt d k = q at *
      obtain ⟨qk, qr, qp, qv, qe, qm⟩ := q
      simp only at c0 c1 c2 c3 c4 c5 u0 u1 u2 u3 u4 u5 hW1 b0 b1 b2 b3 b4 b5 HIn HOut
      subst hv
      cases qe with
      | true =>
        have HP1 := hid (HIn.out rfl)
        go_wp2
        go_region
        all_goals
          go_wp2_with (at_builtin; refine wpList_append_own _ rfl _ _ 57 rfl w.heap.size 3 i0 (.int .i64 0) 1 8 Try.underlying57 Hi.out Hz0.out Hz1.out Hz2.out rfl (by decide) _ _ _ rfl (ownsRow_drew (HO1.out.alloc _)) ⟨W1.heap.size, 0, none⟩ 1 1 [.int .i64 k] rfl rfl (cell_one_new W1 _ _) (by simp [Value.oneCell']) (by unfold maxLen; omega) (by omega) (by have := HG1.out.size; simp; omega) ?_; intro v' wb hown' hgrow hnil'; clear hnil'; obtain ⟨g', cap', rfl⟩ := ownsRow_succ hown'; have HOb := hid hown'; have HGb := hid (((HG1.out.trans (World.grownBy_alloc W1 _ none)).trans (grownBy_drew _ none)).andThen hgrow (fun j hj => .inl (HO1.out.lt j hj).1)); clear hown' hgrow)
          go_roundw
          case rel => exact ⟨k + 1, by go_num, by omega, by rw [HP1.out, icells_snoc, List.length_append]; exact HOb.out, HGb.out⟩
          case measure => simp [intOf]; omega
      | false =>
        have HP1 := hid (HOut.out rfl)
        go_wp2
        go_region
        all_goals
          go_wp2
          go_roundw
          case rel => exact ⟨k + 1, by go_num, by omega, by rw [HP1.out]; exact HO1.out, HG1.out.trans (grownBy_drew _ none)⟩
          case measure => simp [intOf]; omega
    · have hge : (32 : Int) ≤ k := by omega
      obtain rfl : k = 32 := by omega
      clear hg hrow
      go_wp2
      go_ret
      exact ⟨_, rfl, HO.out, HG.out⟩
end Go.Proofs.Ytjgikapoohibnaa
