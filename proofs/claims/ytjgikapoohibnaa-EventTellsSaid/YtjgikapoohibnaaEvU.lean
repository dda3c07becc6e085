/-
  Package tenementlaw07: awake, told.
-/
import Derived.Test.YtjgikapoohibnaaEvO
import Derived.Test.YtjgikapoohibnaaEvN
set_option linter.unusedSimpArgs false
set_option linter.unusedVariables false
namespace Go.Proofs.Ytjgikapoohibnaa
open Go.RowKit Gen
set_option maxHeartbeats 2000000

theorem alloc0 : allocE ev0 0 1 = (0, 0, ev0.upd 0 0 ⟨1, 1, 0, 0, false, false⟩) := by
  have hl : least (isFree ev0 0) = 0 := least_eq (by omega) (fun j hj => by omega) (fun _ => rfl)
  simp [allocE, edOk, takeE, hl]
theorem port0 : portR (ev0.upd 0 0 ⟨1, 1, 0, 0, false, false⟩) 0 0 = (⟨1, 1, 0, 0, false, false⟩, 0) := by
  simp [portR, edOk, epOk, Ev.upd]
set_option maxRecDepth 100000 in
theorem eAwake (w : World) : Calls Try.prog 13 #[] w fun e w' => e = .returned (.bool true) ∧ w.grownBy w' none := by
  go_enter Try.func13, Try.ntmps13
  go_wp2_with (first
    | (go_at_call 9; refine (eNew _).mono ?_; rintro e w1 ⟨X, rfl, h1, g1, f1⟩; have H1 := hid h1; have G1 := hid g1; have F1 := hid f1; clear h1 g1 f1)
    | (go_at_call 18; have hA := eAlloc X 0 1 w1 ev0 H1.out; rw [alloc0] at hA; refine hA.mono ?_; rintro e w2 ⟨rfl, h2⟩; have H2 := hid h2; clear h2 hA)
    | (go_at_call 14; have hP := ePort X 0 0 _ _ H2.out.1; rw [port0] at hP; simp only [Prt.val] at hP; refine hP.mono ?_; rintro e w3 ⟨rfl, g3⟩; have G3 := hid g3; clear g3 hP))
  go_ret
  exact ⟨rfl, ((G1.out.andThen H2.out.2 fun j e => .inl (by cases e; exact F1.out)).trans G3.out).trans (World.grownBy_alloc _ _ none)⟩
theorem icell_int {l : List Nat} {i : Nat} {u : Value} (h : (icells l)[i]? = some u) : ∃ n : Nat, u = .int .i64 n := by
  simp only [icells, List.getElem?_map] at h
  cases hl : l[i]? with
  | none => rw [hl] at h; simp at h
  | some n => rw [hl] at h; simp at h; exact ⟨n, h.symm⟩
theorem two_ints {w w1 w2 : World} {l : List Nat} {pa pb : Option Addr} {ca cb : Nat} (ha : NewInts w l (.slice pa l.length ca) w1) (hb : NewInts w1 l (.slice pb l.length cb) w2) {i : Nat} (hi : i < l.length) :
    ∃ (ga gb n : Nat), pa = some ⟨ga, 0, none⟩ ∧ pb = some ⟨gb, 0, none⟩ ∧ w2.cell? ⟨ga, i, none⟩ = some (.int .i64 n) ∧ w2.cell? ⟨gb, i, none⟩ = some (.int .i64 n) := by
  obtain ⟨ga, c, u, e, _, _, hu, hc⟩ := own_cell ha.1 (j := i) (by omega)
  obtain ⟨gb, c', u', e', _, _, hu', hc'⟩ := own_cell hb.1 (j := i) (by omega)
  rw [hu] at hu'; cases hu'
  obtain ⟨n, rfl⟩ := icell_int hu
  simp only [Value.slice.injEq, and_true, true_and] at e e'
  exact ⟨ga, gb, n, e.1, e'.1, hb.2.cell hc (by simp), hc'⟩
theorem pendR_le (S : Ev) (d : Int) : (pendR S d).length ≤ 32 := by
  unfold pendR
  split
  · exact pendL_le S _ 32
  · simp
set_option maxRecDepth 100000 in
theorem eTold (X Y : Nat) (d : Int) (w : World) (S : Ev) (L : ELay) (hx : EvAt w X S) (hy : RE w Y S L) : Calls Try.prog 12 #[.pointer (some ⟨X, 0, none⟩), .pointer (some ⟨Y, 0, none⟩), .int .i64 d] w fun e w' => e = .returned (.bool true) ∧ w.grownBy w' none := by
  have HX := hid hx
  have HY := hid hy
  have hn32 := pendR_le S d
  clear hx hy
  cases hd : edOk d with
  | false =>
    have hU : upR S d = false := by simp [upR, hd]
    have hd' : d < 0 ∨ 8 ≤ d := by simp only [edOk, Bool.and_eq_false_iff, decide_eq_false_iff_not] at hd; omega
    rcases hd' with hd' | hd'
    all_goals
      go_enter Try.func12, Try.ntmps12
      go_wp2_with (first
        | (go_at_call 27; refine (ePending X d w S HX.out).mono ?_; rintro e w1 ⟨va, rfl, hna⟩; obtain ⟨pa, ca, rfl⟩ := newInts_slice hna; have HA := hid hna; clear hna)
        | (go_at_call 36; refine (rPending Y d L w1 S (HY.out.grow0 HA.out.2)).mono ?_; rintro e w2 ⟨vb, rfl, hnb⟩; obtain ⟨pb, cb, rfl⟩ := newInts_slice hnb; have HB := hid hnb; have HX2 := hid ((HX.out.grow0 HA.out.2).grow0 hnb.2); have HY2 := hid ((HY.out.grow0 HA.out.2).grow0 hnb.2); clear hnb)
        | (go_at_call 17; refine (eUpcall X d w2 S HX2.out).mono ?_; rintro e w' ⟨rfl, rfl⟩))
      go_loopw [9] (fun i wr => ∃ k : Nat, i = .int .i64 k ∧ k ≤ (pendR S d).length ∧ w2.grownBy wr none) (fun i _ => (pendR S d).length - (intOf i).toNat)
      case atStart => exact ⟨0, rfl, by omega, World.grownBy.refl _ _⟩
      case round =>
        obtain ⟨k, rfl, hk, hg⟩ := hrel
        have hk0 : (0 : Int) ≤ k := by omega
        by_cases hlt : k < (pendR S d).length
        · have hlt' : (k : Int) < (pendR S d).length := by omega
          obtain ⟨ga, gb, m, ea, eb, qa, qb⟩ := two_ints HA.out HB.out hlt
          subst ea eb
          have qa := hg.cell qa (by simp)
          have qb := hg.cell qb (by simp)
          have HG := hid hg
          clear hg
          go_wp2
          go_region
          all_goals go_wp2
          all_goals go_roundw
          all_goals first
            | exact ⟨k + 1, by go_num, by omega, HG.out.trans (grownBy_drew _ none)⟩
            | (simp [intOf]; omega)
        · obtain rfl : k = (pendR S d).length := by omega
          have hge : ((pendR S d).length : Int) ≤ (pendR S d).length := by omega
          have HG := hid hg
          clear hg
          go_wp2
          go_loopw [10] (fun i wr => ∃ k : Nat, i = .int .i64 ((k : Int) - 1) ∧ k ≤ 34 ∧ w2.grownBy wr none) (fun i _ => 34 - (intOf i + 1).toNat)
          case atStart => exact ⟨0, rfl, by omega, HG.out⟩
          case round =>
            clear HG
            obtain ⟨j, rfl, hj, hg⟩ := hrel
            have HG := hid hg
            clear hg
            by_cases hlt : j < 34
            · have hlt' : (j : Int) - 1 ≤ 32 := by omega
              obtain ⟨q, hq⟩ : ∃ q, (portR S d ((j : Int) - 1)).1 = q := ⟨_, rfl⟩
              obtain ⟨f, hf⟩ : ∃ f, (portR S d ((j : Int) - 1)).2 = f := ⟨_, rfl⟩
              have HP := hid (fun W (h : EvAt W X S) => by have := ePort X d ((j : Int) - 1) W S h; rw [hq, hf] at this; simp only [Prt.val] at this; exact this)
              have HR := hid (fun W (h : RE W Y S L) => by have := rPort Y d ((j : Int) - 1) L W S h; rw [hq, hf] at this; simp only [Prt.val] at this; exact this)
              have hn := port_neq q
              simp only [Prt.val] at hn
              have hff : (f != f) = false := by simp
              clear hq hf
              go_wp2_with (first
                | (go_at_call 14; refine (HP.out _ (HX2.out.grow0 HG.out)).mono ?_; rintro e w4 ⟨rfl, g4⟩; obtain ⟨W4, hW4, g40, _, c0, c1, c2, c3, c4, c5⟩ := box6 w4 q; have HG4 := hid ((HG.out.trans g4).trans g40); clear g4 g40)
                | (go_at_call 37; refine (HR.out _ (HY2.out.grow0 HG4.out)).mono ?_; rintro e w5 ⟨rfl, g5⟩; obtain ⟨W5, hW5, g50, _, e0, e1, e2, e3, e4, e5⟩ := box6 w5 q; have HG5 := hid ((HG4.out.trans g5).trans g50); have g55 := g5.trans g50; have c0' := g55.cell c0 (by simp); have c1' := g55.cell c1 (by simp); have c2' := g55.cell c2 (by simp); have c3' := g55.cell c3 (by simp); have c4' := g55.cell c4 (by simp); have c5' := g55.cell c5 (by simp); clear g5 g50 g55 c0 c1 c2 c3 c4 c5))
              refine ⟨⟨j + 1, by congr 1; omega, by omega, HG5.out⟩, ?_⟩
              simp [intOf]
              omega
            · have hge : (32 : Int) < (j : Int) - 1 := by omega
              go_wp2
              go_ret
              exact ⟨rfl, (HA.out.2.trans HB.out.2).trans HG.out⟩
  | true =>
    obtain ⟨d, rfl, hd'⟩ := edOk_nat hd
    have hU : upR S d = S.up d := by simp [upR, hd]
    have d0 : (0 : Int) ≤ d := by omega
    have d8 : (d : Int) < 8 := by omega
    have hb : (S.up d != S.up d) = false := by simp
    go_enter Try.func12, Try.ntmps12
    go_wp2_with (first
      | (go_at_call 27; refine (ePending X d w S HX.out).mono ?_; rintro e w1 ⟨va, rfl, hna⟩; obtain ⟨pa, ca, rfl⟩ := newInts_slice hna; have HA := hid hna; clear hna)
      | (go_at_call 36; refine (rPending Y d L w1 S (HY.out.grow0 HA.out.2)).mono ?_; rintro e w2 ⟨vb, rfl, hnb⟩; obtain ⟨pb, cb, rfl⟩ := newInts_slice hnb; have HB := hid hnb; have HX2 := hid ((HX.out.grow0 HA.out.2).grow0 hnb.2); have HY2 := hid ((HY.out.grow0 HA.out.2).grow0 hnb.2); have y0 := HY2.out.slU; have y1 := HY2.out.up hd'; clear hnb)
      | (go_at_call 17; refine (eUpcall X d w2 S HX2.out).mono ?_; rintro e w' ⟨rfl, rfl⟩))
    go_loopw [9] (fun i wr => ∃ k : Nat, i = .int .i64 k ∧ k ≤ (pendR S (d : Int)).length ∧ w2.grownBy wr none) (fun i _ => (pendR S (d : Int)).length - (intOf i).toNat)
    case atStart => exact ⟨0, rfl, by omega, World.grownBy.refl _ _⟩
    case round =>
      obtain ⟨k, rfl, hk, hg⟩ := hrel
      have hk0 : (0 : Int) ≤ k := by omega
      by_cases hlt : k < (pendR S (d : Int)).length
      · have hlt' : (k : Int) < (pendR S (d : Int)).length := by omega
        obtain ⟨ga, gb, m, ea, eb, qa, qb⟩ := two_ints HA.out HB.out hlt
        subst ea eb
        have qa := hg.cell qa (by simp)
        have qb := hg.cell qb (by simp)
        have HG := hid hg
        clear hg
        go_wp2
        go_region
        all_goals go_wp2
        all_goals go_roundw
        all_goals first
          | exact ⟨k + 1, by go_num, by omega, HG.out.trans (grownBy_drew _ none)⟩
          | (simp [intOf]; omega)
      · obtain rfl : k = (pendR S (d : Int)).length := by omega
        have hge : ((pendR S (d : Int)).length : Int) ≤ (pendR S (d : Int)).length := by omega
        have HG := hid hg
        clear hg
        go_wp2
        go_loopw [10] (fun i wr => ∃ k : Nat, i = .int .i64 ((k : Int) - 1) ∧ k ≤ 34 ∧ w2.grownBy wr none) (fun i _ => 34 - (intOf i + 1).toNat)
        case atStart => exact ⟨0, rfl, by omega, HG.out⟩
        case round =>
          clear HG
          obtain ⟨j, rfl, hj, hg⟩ := hrel
          have HG := hid hg
          clear hg
          by_cases hlt : j < 34
          · have hlt' : (j : Int) - 1 ≤ 32 := by omega
            obtain ⟨q, hq⟩ : ∃ q, (portR S (d : Int) ((j : Int) - 1)).1 = q := ⟨_, rfl⟩
            obtain ⟨f, hf⟩ : ∃ f, (portR S (d : Int) ((j : Int) - 1)).2 = f := ⟨_, rfl⟩
            have HP := hid (fun W (h : EvAt W X S) => by have := ePort X (d : Int) ((j : Int) - 1) W S h; rw [hq, hf] at this; simp only [Prt.val] at this; exact this)
            have HR := hid (fun W (h : RE W Y S L) => by have := rPort Y (d : Int) ((j : Int) - 1) L W S h; rw [hq, hf] at this; simp only [Prt.val] at this; exact this)
            have hn := port_neq q
            simp only [Prt.val] at hn
            have hff : (f != f) = false := by simp
            clear hq hf
            go_wp2_with (first
              | (go_at_call 14; refine (HP.out _ (HX2.out.grow0 HG.out)).mono ?_; rintro e w4 ⟨rfl, g4⟩; obtain ⟨W4, hW4, g40, _, c0, c1, c2, c3, c4, c5⟩ := box6 w4 q; have HG4 := hid ((HG.out.trans g4).trans g40); clear g4 g40)
              | (go_at_call 37; refine (HR.out _ (HY2.out.grow0 HG4.out)).mono ?_; rintro e w5 ⟨rfl, g5⟩; obtain ⟨W5, hW5, g50, _, e0, e1, e2, e3, e4, e5⟩ := box6 w5 q; have HG5 := hid ((HG4.out.trans g5).trans g50); have g55 := g5.trans g50; have c0' := g55.cell c0 (by simp); have c1' := g55.cell c1 (by simp); have c2' := g55.cell c2 (by simp); have c3' := g55.cell c3 (by simp); have c4' := g55.cell c4 (by simp); have c5' := g55.cell c5 (by simp); clear g5 g50 g55 c0 c1 c2 c3 c4 c5))
            refine ⟨⟨j + 1, by congr 1; omega, by omega, HG5.out⟩, ?_⟩
            simp [intOf]
            omega
          · have hge : (32 : Int) < (j : Int) - 1 := by omega
            go_wp2
            go_ret
            exact ⟨rfl, (HA.out.2.trans HB.out.2).trans HG.out⟩
end Go.Proofs.Ytjgikapoohibnaa
