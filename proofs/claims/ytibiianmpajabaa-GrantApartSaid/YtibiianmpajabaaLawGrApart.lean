/-
  GrantApart: for every list of entries, every caller, every two ends and every number the law returns true, and what was there stays. No condition.
-/
import Derived.Test.YtibiianmpajabaaJE
import Derived.Test.YtibiianmpajabaaJF
import Derived.Test.YtibiianmpajabaaJ4
import Derived.Test.YtibiianmpajabaaLift
import Derived.Test.YtibiianmpajabaaOpen
import Derived.Test.YtibiianmpajabaaRows
import Derived.Test.YtibiianmpajabaaJ7
import Derived.ProofKit
import Derived.OpenShut
import Derived.BigQuiet
import Derived.Deep.Cut
import Derived.Deep.RegionHeld3
set_option linter.unusedSimpArgs false
set_option linter.unusedVariables false
namespace Go.Proofs.Ytibiianmpajabaa.lawGrApart
open Go.ChangeShapes Go.WideShapes Go.ChangeAt Go.RowKit KM
set_option maxHeartbeats 4000000
set_option maxRecDepth 100000

theorem walk (l : List Ent) (pa : Option Addr) (cap : Nat) (c : Int) (gr : Bool) (d r p off : Int) (hp : I64 p) (hf : off ≤ 9223372036854775807) (gr2 : Bool) (d2 r2 p2 off2 : Int) (hp2 : I64 p2) (hf2 : off2 ≤ 9223372036854775807) (k : Int) (w : World) (hl : l.length ≤ 140737488351232) (hin : Ents w pa l) :
    Calls Try.prog 7 #[.slice pa l.length cap, .int .i64 c, .agg #[.bool gr, .int .i64 d, .int .i64 r, .int .i64 p, .int .i64 off], .agg #[.bool gr2, .int .i64 d2, .int .i64 r2, .int .i64 p2, .int .i64 off2], .int .i64 k] w fun e w' => e = .returned (.bool true) ∧ w.grownBy w' none := by
  obtain ⟨Wa, hWa⟩ : ∃ W, w.alloc (.cells #[.bool gr, .int .i64 d, .int .i64 r, .int .i64 p, .int .i64 off] 96) = W := ⟨_, rfl⟩
  obtain ⟨W1, hW1⟩ : ∃ W, Wa.alloc (.cells #[.bool gr2, .int .i64 d2, .int .i64 r2, .int .i64 p2, .int .i64 off2] 96) = W := ⟨_, rfl⟩
  have ha := EndAt.new w gr d r p off hWa
  have hb := EndAt.new Wa gr2 d2 r2 p2 off2 hW1
  have hga : w.grownBy Wa none := hWa ▸ World.grownBy_alloc _ _ none
  have hg1 : Wa.grownBy W1 none := hW1 ▸ World.grownBy_alloc _ _ none
  have HEa := hid (ha.grown hg1)
  have HEb := hid hb
  have HG1 := hid (hga.trans hg1)
  have HB := hid (begin_list l pa cap W1 hl (hin.grown (hga.trans hg1)))
  have HAS := hid (AS.start.lays l)
  have HI := hid (And.intro hp (And.intro hf (And.intro hp2 hf2)))
  clear ha hb hga hg1 hl hin hp hf hp2 hf2
  go_enter Try.func7, Try.ntmps7
  go_upto_region 6 with (first
    | (go_at_call 35; (with_reducible refine HB.out.mono ?_); rintro e w1 ⟨t, X, B, G, pm, Y, R, D, cc, qb, ql, L, vp, vq, rfl, hb⟩; have HW1 := hid hb.wt; have c0 := hb.wt.c0; clear hb)
    | (go_at_call 14; (with_reducible refine (Copy_yes B _ _ HW1.out.a.m HAS.out.ok.n1).mono ?_); rintro e w2 ⟨v, rfl, B2, rfl, hB2, hM2, g2⟩; have HW2 := hid (HW1.out.grown g2); have HM2 := hid hM2; have HB2 := hid (And.intro hB2 hM2.lt); have d0 := HW2.out.c0; clear c0 hB2 hM2 g2)
    | (go_at_call 20; (with_reducible refine (HW2.out.newViewFar HAS.out.ok.n1).mono ?_); rintro e w3 ⟨V, Gv, S, rfl, h3, hV, hGv, g3⟩; have HA3 := hid (AW.start HW1.out HB2.out.1 HB2.out.2 HM2.out h3 hV hGv g3); clear d0 h3 hV hGv g3))
  clear HB HW1 HW2 HM2 HB2
  generalize lays (bst 3) l = s0 at *
  have c1 : w3.drew.cell? ⟨t, 1, none⟩ = some (.pointer (some ⟨X, 0, none⟩)) := HA3.out.v.wt.c1
  obtain ⟨a0, a1, a2, a3, a4⟩ : EndAt w3.drew w.heap.size gr d r p off := HEa.out.grown (HA3.out.v.wt.g.trans (grownBy_drew w3 none))
  obtain ⟨b0, b1, b2, b3, b4⟩ : EndAt w3.drew Wa.heap.size gr2 d2 r2 p2 off2 := HEb.out.grown (HA3.out.v.wt.g.trans (grownBy_drew w3 none))
  clear hWa hW1
  go_region_held3 (fun w' => w'.cell? ⟨t, 1, none⟩ = some (.pointer (some ⟨X, 0, none⟩)) ∧ w'.cell? ⟨w.heap.size, 0, none⟩ = some (.bool gr) ∧ w'.cell? ⟨w.heap.size, 1, none⟩ = some (.int .i64 d) ∧ w'.cell? ⟨w.heap.size, 2, none⟩ = some (.int .i64 r) ∧ w'.cell? ⟨w.heap.size, 3, none⟩ = some (.int .i64 p) ∧ w'.cell? ⟨w.heap.size, 4, none⟩ = some (.int .i64 off) ∧
      w'.cell? ⟨Wa.heap.size, 0, none⟩ = some (.bool gr2) ∧ w'.cell? ⟨Wa.heap.size, 1, none⟩ = some (.int .i64 d2) ∧ w'.cell? ⟨Wa.heap.size, 2, none⟩ = some (.int .i64 r2) ∧ w'.cell? ⟨Wa.heap.size, 3, none⟩ = some (.int .i64 p2) ∧ w'.cell? ⟨Wa.heap.size, 4, none⟩ = some (.int .i64 off2)) (first | exact ⟨by assumption, by assumption, by assumption, by assumption, by assumption, by assumption, by assumption, by assumption, by assumption, by assumption, by assumption⟩ | go_keep)
    (first
      | (go_at_call 45; (with_reducible refine ((HA3.out.grown (grownBy_drew w3 none)).v.copy HAS.out (by omega) c gr d r p off HI.out.1 HI.out.2.1 gr2 d2 r2 p2 off2 HI.out.2.2.1 HI.out.2.2.2 k).mono ?_); rintro e w4 ⟨er, s1, n', rfl, hl4, h4, hc4⟩; have HL := hid hl4; have HA4 := hid ((HA3.out.grown (grownBy_drew w3 none)).chg h4 hc4); have k0 := h4.wt.c1; obtain ⟨k1, k2, k3, k4, k5⟩ : EndAt w4 w.heap.size gr d r p off := HEa.out.grown h4.wt.g; obtain ⟨k6, k7, k8, k9, k10⟩ : EndAt w4 Wa.heap.size gr2 d2 r2 p2 off2 := HEb.out.grown h4.wt.g; clear hl4 h4 hc4))
  all_goals clear HA3
  go_wp2
  go_loopw [16] (fun v wr => ∃ i : Nat, v = .int .i64 i ∧ i ≤ 13 ∧ AW W1 wr t X B G pm s0 s1 V Gv S n' B2) (fun v _ => 13 - (intOf v).toNat)
  case atStart => exact ⟨0, rfl, by omega, HA4.out⟩
  case round =>
    obtain ⟨i, rfl, hi, ha⟩ := hrel
    have HA5 := hid ha
    have c0 := ha.v.wt.c0
    have HS1 := hid (HL.out.as HAS.out)
    clear ha HA4 c1 a0 a1 a2 a3 a4 b0 b1 b2 b3 b4 k0 k1 k2 k3 k4 k5 k6 k7 k8 k9 k10
    have hi0 : (0 : Int) ≤ i := by omega
    by_cases hlt : i < 13
    · have hlt' : (i : Int) < 13 := by omega
      obtain ⟨fo, hfo⟩ : ∃ x, (s0.M.fr i).owner = x := ⟨_, rfl⟩
      have HFo := hid hfo
      have HP := hid (fun w' (h : PM w' B2 s0.M) => page_read h HAS.out.ok (i := i) (by rw [HAS.out.n]; omega))
      have HQ := hid (fun w' (h : PM w' B s1.M) => page_read h HS1.out.ok (i := i) (by rw [HS1.out.n]; omega))
      have HF := hid (fun w' (h : PM w' B2 s0.M) => Frame_yes B2 i w' s0.M 3 h HAS.out.ok (by rw [HAS.out.n]; omega))
      simp only [Fr.head, hfo] at HF
      clear hfo hi
      obtain ⟨f1, hf1⟩ : ∃ x, (s0.M.fr i).ty = x := ⟨_, rfl⟩
      obtain ⟨f2, hf2⟩ : ∃ x, (s0.M.fr i).cnt = x := ⟨_, rfl⟩
      obtain ⟨f3, hf3⟩ : ∃ x, (s0.M.fr i).tot = x := ⟨_, rfl⟩
      rw [hf1, hf2, hf3] at HF
      clear hf1 hf2 hf3
      go_upto_region 16 with (first
        | (go_at_call 46; (with_reducible refine (HP.out _ HA5.out.m).mono ?_); rintro e w6 ⟨ob, rfl, hp6, g6⟩; have HA6 := hid (HA5.out.grown g6); have HP6 := hid hp6; have c6 := HA6.out.v.wt.c0; clear hp6 g6 c0)
        | (go_at_call 46; (with_reducible refine (HQ.out _ HA6.out.v.wt.a.m).mono ?_); rintro e w7 ⟨nb, rfl, hp7, g7⟩; have HA7 := hid (HA6.out.grown g7); have HP7 := hid (HP6.out.grown g7); have HQ7 := hid hp7; clear hp7 g7 c6)
        | (go_at_call 47; (with_reducible refine (HF.out _ HA7.out.m).mono ?_); rintro e w8 ⟨rfl, g8⟩; have HA8 := hid (HA7.out.grown g8); have HP8 := hid (HP7.out.grown g8); have HQ8 := hid (HQ7.out.grown g8); clear g8))
      clear HA6 HP6 HA7 HP7 HQ7
      obtain ⟨W8, hW8⟩ : ∃ W, w8.alloc (.cells #[.int .i64 fo, .int .i64 f1, .int .i64 f2, .int .i64 f3] 100) = W := ⟨_, rfl⟩
      have g8 : w8.grownBy W8 none := hW8 ▸ World.grownBy_alloc _ _ none
      have HFc := hid (show W8.cell? ⟨w8.heap.size, 0, none⟩ = some (.int .i64 fo) by rw [← hW8]; simp [go_sem])
      have HA9 := hid (HA8.out.grown g8)
      have HP9 := hid (HP8.out.grown g8)
      have HQ9 := hid (HQ8.out.grown g8)
      rw [hW8]
      clear hW8 g8 HA8 HP8 HQ8 HP HQ HF
      go_loopw [23] (fun v wr => ∃ j : Nat, v = .int .i64 j ∧ j ≤ 256 ∧ W8.grownBy wr none) (fun v _ => 256 - (intOf v).toNat)
      case atStart => exact ⟨0, rfl, by omega, World.grownBy.refl _ _⟩
      case round =>
        obtain ⟨j, rfl, hj, hg⟩ := hrel
        have HG := hid hg
        have hj0 : (0 : Int) ≤ j := by omega
        by_cases hjl : j < 256
        · have hjl' : (j : Int) < 256 := by omega
          have y1 : wr.cell? ⟨ob, j, none⟩ = _ := hg.cell (HP9.out j hjl) (by simp)
          have y2 : wr.cell? ⟨nb, j, none⟩ = _ := hg.cell (HQ9.out j hjl) (by simp)
          have y3 : wr.cell? ⟨w8.heap.size, 0, none⟩ = some (.int .i64 fo) := hg.cell HFc.out (by simp)
          by_cases hbe : (s1.M.fr i).bs j = (s0.M.fr i).bs j
          · rw [hbe] at y2
            generalize ((s0.M.fr i).bs j).toNat = x at *
            clear hg hbe
            go_upto_region 18 with fail
            go_quiet (fail)
            go_wp2
            go_roundw
            case rel => exact ⟨j + 1, by go_num, by omega, HG.out.trans (grownBy_drewN _ _ none)⟩
            case measure => simp [intOf]; omega
          · have hby := HL.out.byte HAS.out i j hjl hbe
            have hne : ((((s0.M.fr i).bs j).toNat : Int) != (((s1.M.fr i).bs j).toNat : Int)) = true := by
              simp only [bne_iff_ne, ne_eq]
              intro e
              exact hbe (UInt8.toNat_inj.1 (by omega))
            have hne2 : decide ((((s0.M.fr i).bs j).toNat : Int) = (((s1.M.fr i).bs j).toNat : Int)) = false := by
              rw [decide_eq_false_iff_not]
              intro e
              exact hbe (UInt8.toNat_inj.1 (by omega))
            generalize (((s0.M.fr i).bs j).toNat : Int) = x0 at *
            generalize (((s1.M.fr i).bs j).toNat : Int) = x1 at *
            rw [HFo.out] at hby
            by_cases hoc : fo = c
            · subst hoc
              clear hg hby hbe
              go_upto_region 18 with fail
              go_quiet (fail)
              go_wp2
              go_roundw
              case rel => exact ⟨j + 1, by go_num, by omega, HG.out.trans (grownBy_drewN _ _ none)⟩
              case measure => simp [intOf]; omega
            · rcases hby with hby | ⟨hgr, dn, rn, q, hd, hr, hq, ed, er2, ei, eo, g, hE, hro, hpn, h0, h1⟩
              · exact absurd hby hoc
              subst hgr ed er2
              have HPm := hid (fun w' (h : PM w' B2 s0.M) => permits_yes h HAS.out (c := c) hd hr hq hjl hE hro hpn h0 h1 p2 off2 fo eo (i : Int) (by omega))
              obtain ⟨b0, b1, b2, b3, b4⟩ : EndAt wr.drew Wa.heap.size true dn rn p2 off2 := HEb.out.grown (HA9.out.v.wt.g.trans (hg.trans (grownBy_drew wr none)))
              have hco : (fo != c) = true := by simpa using hoc
              have hco2 : decide (fo = c) = false := decide_eq_false hoc
              have y1 : wr.drew.cell? ⟨ob, j, none⟩ = some (.int .u8 x0) := y1
              have y2 : wr.drew.cell? ⟨nb, j, none⟩ = some (.int .u8 x1) := y2
              have y3 : wr.drew.cell? ⟨w8.heap.size, 0, none⟩ = some (.int .i64 fo) := y3
              have HMd := hid (HA9.out.m.grown (hg.trans (grownBy_drew wr none)) (by simp))
              clear hg hbe hd hr hq ei eo hE hro hpn h0 h1 hoc
              go_upto_region 18 with fail
              go_region_held3 (fun w' => w'.cell? ⟨ob, j, none⟩ = some (.int .u8 x0) ∧ w'.cell? ⟨nb, j, none⟩ = some (.int .u8 x1) ∧ w'.cell? ⟨w8.heap.size, 0, none⟩ = some (.int .i64 fo) ∧ w'.cell? ⟨Wa.heap.size, 0, none⟩ = some (.bool true) ∧ w'.cell? ⟨Wa.heap.size, 1, none⟩ = some (.int .i64 dn) ∧ w'.cell? ⟨Wa.heap.size, 2, none⟩ = some (.int .i64 rn) ∧ w'.cell? ⟨Wa.heap.size, 3, none⟩ = some (.int .i64 p2) ∧ w'.cell? ⟨Wa.heap.size, 4, none⟩ = some (.int .i64 off2)) (first | exact ⟨by assumption, by assumption, by assumption, by assumption, by assumption, by assumption, by assumption, by assumption⟩ | go_keep)
                (first
                  | (go_at_call 48; (with_reducible refine (HPm.out _ HMd.out).mono ?_); rintro e w9 ⟨rfl, g9⟩; have HG9 := hid (HG.out.trans ((grownBy_drew wr none).trans g9)); have k1 := g9.cell y1 (by simp); have k2 := g9.cell y2 (by simp); have k3 := g9.cell y3 (by simp); have k4 := g9.cell b0 (by simp); have k5 := g9.cell b1 (by simp); have k6 := g9.cell b2 (by simp); have k7 := g9.cell b3 (by simp); have k8 := g9.cell b4 (by simp); clear g9))
              all_goals go_wp2
              all_goals
                go_roundw
                case rel => exact ⟨j + 1, by go_num, by omega, HG9.out⟩
                case measure => simp [intOf]; omega
        · obtain rfl : j = 256 := by omega
          clear hg
          go_wp2
          go_roundw
          case rel => exact ⟨i + 1, by go_num, by omega, HA9.out.grown HG.out⟩
          case measure => simp [intOf]; omega
    · obtain rfl : i = 13 := by omega
      have HSz := hid (show Calls Try.prog 49 #[.pointer (some ⟨B, 0, none⟩)] wr fun e w' => e = .returned (.int .i64 13) ∧ wr = w' by
        have h1 := HA5.out.v.wt.a.m.size
        rw [HS1.out.n] at h1
        exact Size_yes B 13 wr (by omega) h1)
      go_wp2_with (go_at_call 49; refine HSz.out.mono ?_; rintro e w' ⟨rfl, rfl⟩)
      go_ret
      exact ⟨rfl, HG1.out.trans HA5.out.v.wt.g⟩
theorem end_flat : Flat.isFlat Try.prog 96 [4, 3, 3, 3, 3] = true := by kernel_rfl
theorem list5 {α : Type} {l : List α} (h : l.length = 5) : ∃ a b c d e, l = [a, b, c, d, e] := by
  match l, h with
  | [a, b, c, d, e], _ => exact ⟨a, b, c, d, e, rfl⟩
theorem top_i64 {n : Int} (h : (Lit.int .i64 n).wf = true) : n ≤ 9223372036854775807 := by
  exact (bounds_i64 h).2
theorem came_end {H : Type} {enc : TypeId × Value → H} {W : World} {l : List Value} (z : l.length = [4, 3, 3, 3, 3].length) (c : ∀ (j : Nat) (t : TypeId), [4, 3, 3, 3, 3][j]? = some t → ∃ u : Value, l[j]? = some u ∧ Flat.Came enc Try.prog W 0 (fun _ => true) true t u) :
    ∃ (gr : Bool) (d r p off : Int), l = [.bool gr, .int .i64 d, .int .i64 r, .int .i64 p, .int .i64 off] ∧ I64 p ∧ off ≤ 9223372036854775807 := by
  obtain ⟨u0, u1, u2, u3, u4, rfl⟩ := list5 z
  obtain ⟨_, e0, k0⟩ := c 0 _ rfl
  obtain ⟨_, e1, k1⟩ := c 1 _ rfl
  obtain ⟨_, e2, k2⟩ := c 2 _ rfl
  obtain ⟨_, e3, k3⟩ := c 3 _ rfl
  obtain ⟨_, e4, k4⟩ := c 4 _ rfl
  simp only [List.getElem?_cons_zero, List.getElem?_cons_succ, Option.some.injEq] at e0 e1 e2 e3 e4
  subst e0 e1 e2 e3 e4
  obtain ⟨gr, rfl⟩ := k0.bool Try.underlying4
  obtain ⟨d, rfl, _⟩ := k1.int Try.underlying3
  obtain ⟨r, rfl, _⟩ := k2.int Try.underlying3
  obtain ⟨p, rfl, hp⟩ := k3.int Try.underlying3
  obtain ⟨off, rfl, hf⟩ := k4.int Try.underlying3
  exact ⟨gr, d, r, p, off, rfl, hp, top_i64 hf⟩
theorem main {H : Type} {enc : TypeId × Value → H} (v0 v1 : Value) (l2 l3 : List Value) (v4 : Value) (W : World) (c0 : Flat.Came enc Try.prog W 0 (fun _ => true) true 94 v0) (c1 : Flat.Came enc Try.prog W 0 (fun _ => true) true 3 v1)
    (z2 : l2.length = [4, 3, 3, 3, 3].length) (c2 : ∀ (j : Nat) (t : TypeId), [4, 3, 3, 3, 3][j]? = some t → ∃ u : Value, l2[j]? = some u ∧ Flat.Came enc Try.prog W 0 (fun _ => true) true t u)
    (z3 : l3.length = [4, 3, 3, 3, 3].length) (c3 : ∀ (j : Nat) (t : TypeId), [4, 3, 3, 3, 3][j]? = some t → ∃ u : Value, l3[j]? = some u ∧ Flat.Came enc Try.prog W 0 (fun _ => true) true t u)
    (c4 : Flat.Came enc Try.prog W 0 (fun _ => true) true 3 v4) :
    Calls Try.prog 7 #[v0, v1, .agg l2.toArray, .agg l3.toArray, v4] W fun e w' => e = .returned (.bool true) ∧ W.grownBy w' none := by
  obtain ⟨pa, l, cap, rfl, hin, hl⟩ := came_ents c0
  obtain ⟨c, rfl, _⟩ := c1.int Try.underlying3
  obtain ⟨k, rfl, _⟩ := c4.int Try.underlying3
  obtain ⟨gr, d, r, p, off, rfl, hp, hf⟩ := came_end z2 c2
  obtain ⟨gr2, d2, r2, p2, off2, rfl, hp2, hf2⟩ := came_end z3 c3
  exact walk l pa cap c gr d r p off hp hf gr2 d2 r2 p2 off2 hp2 hf2 k W hl hin
theorem own : ownKnob Try.prog.godebug = none := by kernel_rfl
theorem laidOut : laidOutB Try.prog = true := by kernel_rfl

set_option maxRecDepth 100000 in
theorem lifted (os : Os) (started : os.Started) (H : Type) (enc : TypeId × Value → H) :
    ReturnsInHanded {} Try.checked os 7 .any (Rows.grantApartSpec.pre6 enc Try.prog Try.f7 Rows.grantApartRow.domain false) (Rows.grantApartSpec.post enc Try.prog Try.f7 false true false false) := by
  refine returnsInHanded_of_change_sized (C := Try.checked) own started (by kernel_rfl) Try.func7
    (ChangeSpec.witness6 (enc := enc) (C := Try.checked) false ⟨#[], #[.slice none 0 0, .int .i64 0, .agg #[.bool false, .int .i64 0, .int .i64 0, .int .i64 0, .int .i64 0], .agg #[.bool false, .int .i64 0, .int .i64 0, .int .i64 0, .int .i64 0], .int .i64 0], []⟩ 8 (by kernel_rfl) (by kernel_rfl) (by kernel_rfl) (by kernel_rfl)) ?_
  intro W base args ds gs before hval0 hW _ hsz0 _
  have hsz : (DataW.weightsEach Try.prog (Try.f7.params.toList ++ Rows.grantApartSpec.plain.varTypes Try.prog) (ds ++ gs)).all (· ≤ reachBytes) = true := hsz0
  clear hsz0
  have hval : ∀ (j : Nat) t v, Try.f7.params[j]? = some t → args[j]? = some v → Value.okWide Try.prog W .any base t v := hval0
  have hW' := hW
  obtain ⟨p, q, hA0, hV, rfl, hfz, hnd⟩ := hW
  have hA : DataW.TrodAll enc Try.prog W 0 (fun _ => true) true Try.f7.params.toList args.toList ds p := hA0
  rw [Try.params7] at hA hval hsz
  obtain ⟨v0, vs0, d0, ds0, p0, q0, hargs, rfl, rfl, h0, r0⟩ := trodAll_cons hA
  obtain ⟨v1, vs1, d1, ds1, p1, q1, rfl, rfl, rfl, h1, r1⟩ := trodAll_cons r0
  obtain ⟨v2, vs2, d2, ds2, p2, q2, rfl, rfl, rfl, h2, r2⟩ := trodAll_cons r1
  obtain ⟨v3, vs3, d3, ds3, p3, q3, rfl, rfl, rfl, h3, r3⟩ := trodAll_cons r2
  obtain ⟨v4, vs4, d4, ds4, p4, q4, rfl, rfl, rfl, h4, r4⟩ := trodAll_cons r3
  obtain ⟨rfl, rfl, rfl⟩ := trodAll_nil r4
  obtain rfl : args = #[v0, v1, v2, v3, v4] := by cases args; simp_all
  obtain ⟨rfl, rfl⟩ := trodVars_none hV
  obtain ⟨ps0, ln0, cp0, rfl⟩ := okWide_slice Try.underlying94 (hval 0 94 v0 rfl rfl)
  have k0 := h0
  have lt0 : ∀ x ∈ p0, x.block < W.heap.size := by obtain ⟨m, hm⟩ := k0; exact DataW.trod_lt m _ _ _ hm
  have c0 : Flat.Came enc Try.prog W 0 (fun _ => true) true 94 (.slice ps0 ln0 cp0) := by
    obtain ⟨fuel, hf⟩ := h0
    exact ⟨fuel, _, hf, fun n hn => by
      have := List.all_eq_true.1 hsz n (DataW.weights_mem_each (j := 0) rfl rfl n hn)
      simpa using this⟩
  obtain ⟨a1, rfl, rfl, rfl, w1⟩ := open_int Try.underlying3 (hval 1 3 v1 rfl rfl) h1
  have k1 := h1
  have lt1 : ∀ x ∈ ([] : List MemPlace), x.block < W.heap.size := by obtain ⟨m, hm⟩ := k1; exact DataW.trod_lt m _ _ _ hm
  have c1 : Flat.Came enc Try.prog W 0 (fun _ => true) true 3 (.int .i64 a1) := by
    obtain ⟨fuel, hf⟩ := h1
    exact ⟨fuel, _, hf, fun n hn => by
      have := List.all_eq_true.1 hsz n (DataW.weights_mem_each (j := 1) rfl rfl n hn)
      simpa using this⟩
  have sz2 : ∀ n ∈ d2.weights Try.prog 96, n ≤ reachBytes := fun n hn => by
    have := List.all_eq_true.1 hsz n (DataW.weights_mem_each (j := 2) rfl rfl n hn)
    simpa using this
  obtain ⟨l2, rfl, z2, c2⟩ := Flat.open_agg end_flat (hval 2 96 v2 rfl rfl) h2 sz2
  have k2 := h2
  have lt2 : ∀ x ∈ p2, x.block < W.heap.size := by obtain ⟨m, hm⟩ := k2; exact DataW.trod_lt m _ _ _ hm
  have sz3 : ∀ n ∈ d3.weights Try.prog 96, n ≤ reachBytes := fun n hn => by
    have := List.all_eq_true.1 hsz n (DataW.weights_mem_each (j := 3) rfl rfl n hn)
    simpa using this
  obtain ⟨l3, rfl, z3, c3⟩ := Flat.open_agg end_flat (hval 3 96 v3 rfl rfl) h3 sz3
  have k3 := h3
  have lt3 : ∀ x ∈ p3, x.block < W.heap.size := by obtain ⟨m, hm⟩ := k3; exact DataW.trod_lt m _ _ _ hm
  obtain ⟨a4, rfl, rfl, rfl, w4⟩ := open_int Try.underlying3 (hval 4 3 v4 rfl rfl) h4
  have k4 := h4
  have lt4 : ∀ x ∈ ([] : List MemPlace), x.block < W.heap.size := by obtain ⟨m, hm⟩ := k4; exact DataW.trod_lt m _ _ _ hm
  have c4 : Flat.Came enc Try.prog W 0 (fun _ => true) true 3 (.int .i64 a4) := by
    obtain ⟨fuel, hf⟩ := h4
    exact ⟨fuel, _, hf, fun n hn => by
      have := List.all_eq_true.1 hsz n (DataW.weights_mem_each (j := 4) rfl rfl n hn)
      simpa using this⟩
  clear hA0 hval0
  refine (main (.slice ps0 ln0 cp0) (.int .i64 a1) l2 l3 (.int .i64 a4) W c0 c1 z2 c2 z3 c3 c4).mono fun e W' ⟨he, hg⟩ => ?_
  subst he
  have bel := below_grown' hg
  simp only [List.append_nil, List.nil_append] at hW'
  exact ⟨_, rfl, _, _, _, [], _, [], hW', trodAll_mk1 (shut_bool Try.underlying4 _), (trodAll_cons_mk (Below.trod laidOut (by kernel_rfl) (of_decide_eq_true (by kernel_rfl)) k0 bel lt0) (trodAll_cons_mk (Below.trod laidOut (by kernel_rfl) (of_decide_eq_true (by kernel_rfl)) k1 bel lt1) (trodAll_cons_mk (Below.trod laidOut (by kernel_rfl) (of_decide_eq_true (by kernel_rfl)) k2 bel lt2) (trodAll_cons_mk (Below.trod laidOut (by kernel_rfl) (of_decide_eq_true (by kernel_rfl)) k3 bel lt3) (trodAll_cons_mk (Below.trod laidOut (by kernel_rfl) (of_decide_eq_true (by kernel_rfl)) k4 bel lt4) trodAll_mk0))))), rfl, bel.frame _, fun h => by cases h⟩

theorem proved : Rows.GrantApartSaid :=
  OpenClaim.holds_of_wide 7 Try.f7 rfl rfl rfl rfl rfl rfl rfl ⟨rfl, rfl, rfl, rfl, rfl⟩ rfl rfl rfl rfl rfl (by kernel_rfl) Try.func7 (by kernel_rfl)
    (of_decide_eq_true (by kernel_rfl)) (by unfold Func.isWrapper; first | (rw [if_pos (by decide +kernel)]; kernel_rfl) | (rw [if_neg (by decide +kernel)]; exact ⟨rfl, rfl⟩))
    (fun os started H enc _ => lifted os started H enc)
#print axioms proved
end Go.Proofs.Ytibiianmpajabaa.lawGrApart
