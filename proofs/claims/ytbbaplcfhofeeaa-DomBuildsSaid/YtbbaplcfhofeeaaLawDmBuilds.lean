/-
  DomBuilds: for every number and every row of sizes the law returns true, and what was there stays. No condition.
-/
import Derived.Test.YtbbaplcfhofeeaaK28
import Derived.Test.YtbbaplcfhofeeaaK29
import Derived.Test.YtbbaplcfhofeeaaK19
import Derived.Test.YtbbaplcfhofeeaaRows
import Derived.Deep.Cut
set_option linter.unusedSimpArgs false
set_option linter.unusedVariables false
namespace Go.Proofs.Ytbbaplcfhofeeaa.lawDomBuilds
open Go.ChangeShapes Go.WideShapes Go.ChangeAt Go.RowKit Dm
set_option maxHeartbeats 4000000
theorem left_of {w0 wX : World} {H B X Y V G : Nat} {pv : Nat → Value} {pm : Nat → Nat × Nat × Nat} {np : Nat} {s : Gs} {sp : Nat → Sp} {T : Nat} {D : Nat → DC} {E : Cnt} {n m L : Nat} (h : HV w0 wX H B X Y V G pv pm np s sp T D) (hD : Dn n m s sp D E np) (hL : (s.M.ownedL (-1)).length = L) :
    Calls Try.prog 6 #[.pointer (some ⟨B, 0, none⟩)] wX fun e w' => e = .returned (.int .i64 (L : Nat)) ∧ wX.grownBy w' none := by
  have hn := hD.all.n0
  have := Left_any (some ⟨B, 0, none⟩) s.M wX (h.ps.m.stops hn.1 hn.2) hn.2
  unfold Mach.leftN at this
  rw [hL] at this
  exact this
set_option maxRecDepth 100000 in
theorem lAwake (w : World) : Calls Try.prog 9 #[] w fun e w' => e = .returned (.bool true) ∧ w.grownBy w' none := by
  have HN := hid (hNew 10 (by omega) (by omega) w)
  have HD := hid (Dn.start 10 (by omega) (by omega))
  have HL0 := hid (show ((gs0 10).M.ownedL (-1)).length = 8 from (hypN_facts 10 (by omega) (by omega) 2 (by omega)).2.1)
  go_enter Try.func9, Try.ntmps9
  go_wp2_with (first
    | (go_at_call 4; refine HN.out.mono ?_; rintro e w1 ⟨v, rfl, H, B, X, Y, V, G, rfl, hv⟩; have HV1 := hid hv; clear hv)
    | (go_at_call 7; refine (hBuildU w w1 H B X Y V G _ _ 0 (gs0 10) sp0 48 d0 E0 10 0 HV1.out HD.out (by omega) 3).mono ?_; rintro e w2 ⟨a, c, rfl, hc, -, hyes⟩; rw [HL0.out] at hc; have hc0 : c = 0 := hc; subst hc0; obtain ⟨rfl, size, hsz, pv, x, ps, p0, r, lf, A0, A1, A2, A3, A4, rfl, -, hgot, hbt, hv2⟩ := hyes rfl; have HDn := hid (HD.out.next (by omega) hgot hbt x.1); have HV2 := hid hv2; have HL2 := hid (show (A4.ownedL (-1)).length = 3 by have := HDn.out.2.1; rw [HL0.out] at this; omega); clear hc hyes hgot hbt hv2)
    | (go_at_call 5; refine (hMachine H _ _ HV2.out.c0).mono ?_; rintro e w' ⟨rfl, rfl⟩)
    | (go_at_call 6; refine (left_of HV2.out HDn.out.1 HL2.out).mono ?_; rintro e w3 ⟨rfl, hg⟩; have HG3 := hid (HV2.out.g.trans hg); clear hg)
    | fail)
  go_ret
  exact ⟨rfl, HG3.out⟩
/-- the sizes that came in -/
def SzAt (w : World) (p : Option Addr) (len : Nat) : Prop := ∀ i, i < len → ∃ b o z, p = some ⟨b, o, none⟩ ∧ b < w.heap.size ∧ w.cell? ⟨b, o + i, none⟩ = some (.int .i64 z) ∧ I64 z
theorem i64_bounds {z : Int} (h : I64 z) : -9223372036854775808 ≤ z ∧ z ≤ 9223372036854775807 := by
  obtain ⟨a, b⟩ := bounds_i64 h
  exact ⟨by omega, by omega⟩
theorem built_of {w w3 : World} {H B X Y V G : Nat} {pm : Nat → Nat × Nat × Nat} {np : Nat} {s : Gs} {sp : Nat → Sp} {T : Nat} {D : Nat → DC} {E : Cnt} {n m : Nat} {y : Nat} {a : Int} (hD : Dn n m s sp D E np) (hm : m < 8) (h : a = m ∧ ∃ size : Nat, (y : Int) = size ∧ BuildPost w w3 H B X Y V G pm np s sp T D E m size) :
    a = m ∧ ∃ pv' pm' s3 sp3 D3 E3 L3 gr rt, HV w w3 H B X Y V G pv' pm' (np + 1) s3 sp3 T D3 ∧ Dn n (m + 1) s3 sp3 D3 E3 (np + 1) ∧ (s3.M.ownedL (-1)).length = L3 ∧ L3 + (y + 2) = (s.M.ownedL (-1)).length ∧
      Calls Try.prog 8 #[.pointer (some ⟨H, 0, none⟩), .int .i64 m] w3 fun e w' => e = .returned (.tuple #[.agg #[.int .i64 1, .int .i64 y, .int .i64 ((y : Int) + 2), .int .i64 gr, .int .i64 rt], .int .i64 0]) ∧ w3.grownBy w' none := by
  obtain ⟨ha, size, hsz, pv', x, ps, p0, r, lf, A0, A1, A2, A3, A4, rfl, -, hgot, hbt, hv3⟩ := h
  obtain rfl : y = ps.length := by omega
  obtain ⟨d1, d2, d3⟩ := hD.next hm hgot hbt x.1
  refine ⟨ha, pv', _, _, _, _, _, _, p0, r, hv3, d1, rfl, d2, ?_⟩
  have hn := d1.all.n0
  have hk := hDom w w3 H B X Y V G pv' _ _ _ _ _ _ hv3 hn.1 hn.2 m hm (by rw [upD_same]; show (1 : Int) ≠ 0; decide)
  rw [d3, upD_same, upS_same] at hk
  exact hk
theorem round_of {w wr : World} {H B X Y V G : Nat} {pv : Nat → Value} {pm : Nat → Nat × Nat × Nat} {np : Nat} {s : Gs} {sp : Nat → Sp} {T : Nat} {D : Nat → DC} {E : Cnt} {n m len i : Nat} {p : Option Addr} (h : HV w wr H B X Y V G pv pm np s sp T D) (hD : Dn n m s sp D E np) (hp : SzAt w p len) (hi : i < len) :
    ∃ L b o z, p = some ⟨b, o, none⟩ ∧ (∀ wX, w.grownBy wX none → wX.cell? ⟨b, o + i, none⟩ = some (.int .i64 z)) ∧ I64 z ∧ (s.M.ownedL (-1)).length = L ∧ L ≤ 256 := by
  obtain ⟨b, o, z, e, hb, hc, hz⟩ := hp i hi
  have hn := hD.all.n0
  exact ⟨_, b, o, z, e, fun wX hg => hg.cell hc (by simp), hz, rfl, ownedL_len _ _ hn.2⟩
set_option maxRecDepth 100000 in
theorem walk (f q : Nat) (hf : f < 256) (hq : 3 + f = q) (p : Option Addr) (len cap : Nat) (hlen : len ≤ maxLen) (w : World) (hp : SzAt w p len) :
    Calls Try.prog 3 #[.int .u8 f, .slice p len cap] w fun e w' => e = .returned (.bool true) ∧ w.grownBy w' none := by
  have HP := hid hp
  have hlen63 : (len : Int) ≤ 9223372036854775807 := by simp only [maxLen] at hlen; omega
  have HLen := hid hlen
  clear hp hlen
  have hw1 : IntKind.i64.wrap (3 + (f : Int)) = q := by rw [IntKind.wrap_i64]; omega
  by_cases hbig : 256 < q
  · obtain ⟨n, hn⟩ : ∃ n : Nat, n = 256 := ⟨_, rfl⟩
    have hN := hNew n (by omega) (by omega) w
    rw [show ((n : Nat) : Int) = 256 by omega] at hN
    have HN := hid hN
    have HD0 := hid (Dn.start n (by omega) (by omega))
    have hb1 : (256 : Int) < q := by omega
    clear hq hN hn
    go_enter Try.func3, Try.ntmps3
    go_wp2_with (first
      | (go_at_call 4; (with_reducible refine HN.out.mono ?_); rintro e w1 ⟨v, rfl, H, B, X, Y, V, G, rfl, hv⟩; have HV1 := hid hv; clear hv)
      | fail)
    clear hw1 hf
    go_loopw [8, 9] (fun a x wr => ∃ m i : Nat, ∃ pv pm np s sp D E, a = .int .i64 m ∧ x = .int .i64 i ∧ i ≤ len ∧ HV w wr H B X Y V G pv pm np s sp 48 D ∧ Dn n m s sp D E np) (fun _ x _ => len - (intOf x).toNat)
    case atStart => exact ⟨0, 0, _, _, _, _, _, _, _, rfl, rfl, by omega, HV1.out, HD0.out⟩
    case round =>
      obtain ⟨m, i, pv, pm, np, s, sp, D, E, rfl, rfl, hi, hv, hd⟩ := hrel
      clear HV1 HD0 HN
      have hi0 : (0 : Int) ≤ i := by omega
      have hm0 : (0 : Int) ≤ m := by omega
      have hm8 := hd.m8
      have HV := hid hv; have HD := hid hd
      clear hv hd
      by_cases hlt : i < len
      · have hlt' : (i : Int) < len := by omega
        have hi63 : (i : Int) ≤ 9223372036854775806 := by omega
        obtain ⟨L, b, o, z, hp, hsz, hzz, hL, hL256⟩ := round_of HV.out HD.out HP.out hlt
        obtain ⟨hz63, hz64⟩ := i64_bounds hzz
        have HSz := hid hsz
        have hc := hsz wr HV.out.g
        have HL := hid hL
        subst hp
        have HM0 := hid (hMachine H ⟨B, 0, none⟩ wr HV.out.c0)
        have HLf0 := hid (left_of HV.out HD.out hL)
        clear hsz hzz hL
        by_cases h1 : z < 1
        · have HE := hid (show buildE m L z = 170 by unfold buildE; rw [if_pos (.inl h1)])
          go_wp2_with (first
            | (go_at_call 5; first
                | ((with_reducible refine HM3.out.mono ?_); rintro e w' ⟨rfl, rfl⟩)
                | ((with_reducible refine HM0.out.mono ?_); rintro e w' ⟨rfl, rfl⟩)
                | fail)
            | (go_at_call 6; first
                | ((with_reducible refine HLf3.out.mono ?_); rintro e w4 ⟨rfl, hg⟩; have HV4 := hid (HV3.out.grown hg); clear hg)
                | ((with_reducible refine HLf0.out.mono ?_); rintro e w2 ⟨rfl, hg⟩; have HV2 := hid (HV.out.grown hg); have c2 := hg.cell hc (by simp); have HB2 := hid (hBuildU w w2 H B X Y V G pv pm np s sp 48 D E n m HV2.out HD.out (by omega) z); clear hg)
                | fail)
            | (go_at_call 7; (with_reducible refine HB2.out.mono ?_); rintro e w3 ⟨a, c, rfl, hcc, hno, -⟩; rw [HL.out, HE.out] at hcc; subst hcc; have HV3 := hid (hno (by decide)); have c3 := HSz.out w3 HV3.out.g; have HM3 := hid (hMachine H ⟨B, 0, none⟩ w3 HV3.out.c0); have HLf3 := hid (left_of HV3.out HD.out HL.out); clear hno c2)
            | fail)
          go_roundw
          case rel => exact ⟨m, i + 1, pv, pm, np, s, sp, D, E, rfl, by go_num, by omega, HV4.out, HD.out⟩
          case measure => simp [intOf]; omega
        by_cases h2 : 48 < z
        · have HE := hid (show buildE m L z = 170 by unfold buildE; rw [if_pos (.inr h2)])
          go_wp2_with (first
            | (go_at_call 5; first
                | ((with_reducible refine HM3.out.mono ?_); rintro e w' ⟨rfl, rfl⟩)
                | ((with_reducible refine HM0.out.mono ?_); rintro e w' ⟨rfl, rfl⟩)
                | fail)
            | (go_at_call 6; first
                | ((with_reducible refine HLf3.out.mono ?_); rintro e w4 ⟨rfl, hg⟩; have HV4 := hid (HV3.out.grown hg); clear hg)
                | ((with_reducible refine HLf0.out.mono ?_); rintro e w2 ⟨rfl, hg⟩; have HV2 := hid (HV.out.grown hg); have c2 := hg.cell hc (by simp); have HB2 := hid (hBuildU w w2 H B X Y V G pv pm np s sp 48 D E n m HV2.out HD.out (by omega) z); clear hg)
                | fail)
            | (go_at_call 7; (with_reducible refine HB2.out.mono ?_); rintro e w3 ⟨a, c, rfl, hcc, hno, -⟩; rw [HL.out, HE.out] at hcc; subst hcc; have HV3 := hid (hno (by decide)); have c3 := HSz.out w3 HV3.out.g; have HM3 := hid (hMachine H ⟨B, 0, none⟩ w3 HV3.out.c0); have HLf3 := hid (left_of HV3.out HD.out HL.out); clear hno c2)
            | fail)
          go_roundw
          case rel => exact ⟨m, i + 1, pv, pm, np, s, sp, D, E, rfl, by go_num, by omega, HV4.out, HD.out⟩
          case measure => simp [intOf]; omega
        have hz1 : 1 ≤ z := by omega
        have hz48 : z ≤ 48 := by omega
        by_cases h3 : (L : Int) < z + 2
        · have HE := hid (show buildE m L z = 10 by unfold buildE; rw [if_neg (by omega), if_pos h3])
          go_wp2_with (first
            | (go_at_call 5; first
                | ((with_reducible refine HM3.out.mono ?_); rintro e w' ⟨rfl, rfl⟩)
                | ((with_reducible refine HM0.out.mono ?_); rintro e w' ⟨rfl, rfl⟩)
                | fail)
            | (go_at_call 6; first
                | ((with_reducible refine HLf3.out.mono ?_); rintro e w4 ⟨rfl, hg⟩; have HV4 := hid (HV3.out.grown hg); clear hg)
                | ((with_reducible refine HLf0.out.mono ?_); rintro e w2 ⟨rfl, hg⟩; have HV2 := hid (HV.out.grown hg); have c2 := hg.cell hc (by simp); have HB2 := hid (hBuildU w w2 H B X Y V G pv pm np s sp 48 D E n m HV2.out HD.out (by omega) z); clear hg)
                | fail)
            | (go_at_call 7; (with_reducible refine HB2.out.mono ?_); rintro e w3 ⟨a, c, rfl, hcc, hno, -⟩; rw [HL.out, HE.out] at hcc; subst hcc; have HV3 := hid (hno (by decide)); have c3 := HSz.out w3 HV3.out.g; have HM3 := hid (hMachine H ⟨B, 0, none⟩ w3 HV3.out.c0); have HLf3 := hid (left_of HV3.out HD.out HL.out); clear hno c2)
            | fail)
          go_roundw
          case rel => exact ⟨m, i + 1, pv, pm, np, s, sp, D, E, rfl, by go_num, by omega, HV4.out, HD.out⟩
          case measure => simp [intOf]; omega
        by_cases h4 : m = 8
        · subst h4
          have HE := hid (show buildE 8 L z = 71 by unfold buildE; rw [if_neg (by omega), if_neg h3, if_pos rfl])
          go_wp2_with (first
            | (go_at_call 5; first
                | ((with_reducible refine HM3.out.mono ?_); rintro e w' ⟨rfl, rfl⟩)
                | ((with_reducible refine HM0.out.mono ?_); rintro e w' ⟨rfl, rfl⟩)
                | fail)
            | (go_at_call 6; first
                | ((with_reducible refine HLf3.out.mono ?_); rintro e w4 ⟨rfl, hg⟩; have HV4 := hid (HV3.out.grown hg); clear hg)
                | ((with_reducible refine HLf0.out.mono ?_); rintro e w2 ⟨rfl, hg⟩; have HV2 := hid (HV.out.grown hg); have c2 := hg.cell hc (by simp); have HB2 := hid (hBuildU w w2 H B X Y V G pv pm np s sp 48 D E n 8 HV2.out HD.out (by omega) z); clear hg)
                | fail)
            | (go_at_call 7; (with_reducible refine HB2.out.mono ?_); rintro e w3 ⟨a, c, rfl, hcc, hno, -⟩; rw [HL.out, HE.out] at hcc; subst hcc; have HV3 := hid (hno (by decide)); have c3 := HSz.out w3 HV3.out.g; have HM3 := hid (hMachine H ⟨B, 0, none⟩ w3 HV3.out.c0); have HLf3 := hid (left_of HV3.out HD.out HL.out); clear hno c2)
            | fail)
          go_roundw
          case rel => exact ⟨8, i + 1, pv, pm, np, s, sp, D, E, rfl, by go_num, by omega, HV4.out, HD.out⟩
          case measure => simp [intOf]; omega
        have h5 : m < 8 := by omega
        have h5' : (m : Int) < 8 := by omega
        have h4' : ¬ ((m : Int) = 8) := by omega
        have h4b : ((m : Int) == 8) = false := by simpa using h4'
        have HE := hid (show buildE m L z = 0 by unfold buildE; rw [if_neg (by omega), if_neg h3, if_neg h4])
        obtain ⟨y, rfl⟩ : ∃ y : Nat, z = y := ⟨z.toNat, by omega⟩
        have hy1 : 1 ≤ y := by omega
        have hy48 : y ≤ 48 := by omega
        go_wp2_with (first
          | (go_at_call 5; first
              | ((with_reducible refine HM0.out.mono ?_); rintro e w' ⟨rfl, rfl⟩)
              | fail)
          | (go_at_call 6; first
              | ((with_reducible refine HLf0.out.mono ?_); rintro e w2 ⟨rfl, hg⟩; have HV2 := hid (HV.out.grown hg); have c2 := hg.cell hc (by simp); have HB2 := hid (hBuildU w w2 H B X Y V G pv pm np s sp 48 D E n m HV2.out HD.out (by omega) y); clear hg)
              | fail)
          | (go_at_call 7; (with_reducible refine HB2.out.mono ?_); rintro e w3 ⟨a, c, rfl, hcc, -, hyes⟩; rw [HL.out, HE.out] at hcc; subst hcc; obtain ⟨rfl, pv', pm', s3, sp3, D3, E3, L3, gr, rt, hv3, hd3, hl3, hl4, hdom⟩ := built_of HD.out h5 (hyes rfl); have HV3 := hid hv3; have HD3 := hid hd3; have HL3 := hid hl3; rw [HL.out] at hl4; have HL4 := hid hl4; have HDm := hid hdom; have c3 := HSz.out w3 HV3.out.g; clear hyes hv3 hd3 hl3 hl4 hdom c2)
          | (go_at_call 8; (with_reducible refine HDm.out.mono ?_); rintro e w4 ⟨rfl, hg⟩; have HV4 := hid (HV3.out.grown hg); obtain ⟨w5, hw5⟩ : ∃ w5, w4.alloc (.cells #[.int .i64 1, .int .i64 y, .int .i64 ((y : Int) + 2), .int .i64 gr, .int .i64 rt] 33) = w5 := ⟨_, rfl⟩; have hg5 : w4.grownBy w5 none := hw5 ▸ World.grownBy_alloc _ _ none; have HV5 := hid (HV4.out.grown hg5); have c5 := HSz.out w5 HV5.out.g; have x0 : w5.cell? ⟨w4.heap.size, 0, none⟩ = some (.int .i64 1) := (by rw [← hw5]; simp [go_sem]); have x1 : w5.cell? ⟨w4.heap.size, 1, none⟩ = some (.int .i64 y) := (by rw [← hw5]; simp [go_sem]); have x2 : w5.cell? ⟨w4.heap.size, 2, none⟩ = some (.int .i64 ((y : Int) + 2)) := (by rw [← hw5]; simp [go_sem]); clear hg hg5)
          | fail)
        have cH := HV5.out.c0
        have hwy : IntKind.i64.wrap ((y : Int) + 2) = y + 2 := by rw [IntKind.wrap_i64]; omega
        have hwl : IntKind.i64.wrap ((L : Int) - ((y : Int) + 2)) = L3 := by have := HL4.out; rw [IntKind.wrap_i64]; omega
        have HM5 := hid (fun wX (h : wX.cell? ⟨H, 0, none⟩ = some (.pointer (some ⟨B, 0, none⟩))) => hMachine H ⟨B, 0, none⟩ wX h)
        clear hw5 c3 hc
        go_region_held3 (fun w' => w'.cell? ⟨w4.heap.size, 0, none⟩ = some (.int .i64 1) ∧ w'.cell? ⟨w4.heap.size, 1, none⟩ = some (.int .i64 y) ∧ w'.cell? ⟨w4.heap.size, 2, none⟩ = some (.int .i64 ((y : Int) + 2)) ∧ w'.cell? ⟨b, o + i, none⟩ = some (.int .i64 y) ∧ w'.cell? ⟨H, 0, none⟩ = some (.pointer (some ⟨B, 0, none⟩))) (first | exact ⟨by assumption, by assumption, by assumption, by assumption, by assumption⟩ | go_keep)
          (first
            | (go_at_call 5; refine (HM5.out _ (by assumption)).mono ?_; rintro e w' ⟨rfl, rfl⟩)
            | (go_at_call 6; refine (left_of (HV5.out.grown (grownBy_drew _ none)) HD3.out HL3.out).mono ?_; rintro e w6 ⟨rfl, hg⟩; have hgw := (grownBy_drew w5 none).trans hg; have HV6 := hid (HV5.out.grown hgw); have v0 := hgw.cell x0 (by simp); have v1 := hgw.cell x1 (by simp); have v2 := hgw.cell x2 (by simp); have v3 := hgw.cell c5 (by simp); have v4 := hgw.cell cH (by simp); clear hg hgw)
            | fail)
        go_wp2
        go_roundw
        case rel => exact ⟨m + 1, i + 1, pv', pm', np + 1, s3, sp3, D3, E3, by go_num, by go_num, by omega, (by first | exact HV6.out | exact HV6.out.grown (grownBy_drew _ none) | exact HV6.out.grown (grownBy_drewN _ _ none)), HD3.out⟩
        case measure => simp [intOf]; omega
      · obtain rfl : i = len := by omega
        have hge : ¬ ((i : Int) < i) := by omega
        go_wp2_with (go_at_call 9; refine (lAwake _).mono ?_; rintro e w2 ⟨rfl, hg⟩; have HG := hid (HV.out.g.trans hg); clear hg)
        go_ret
        exact ⟨rfl, HG.out⟩
  · have HN := hid (hNew q (by omega) (by omega) w)
    have HD0 := hid (Dn.start q (by omega) (by omega))
    have hb1 : ¬ ((256 : Int) < q) := by omega
    clear hq
    go_enter Try.func3, Try.ntmps3
    go_wp2_with (first
      | (go_at_call 4; (with_reducible refine HN.out.mono ?_); rintro e w1 ⟨v, rfl, H, B, X, Y, V, G, rfl, hv⟩; have HV1 := hid hv; clear hv)
      | fail)
    clear hw1 hf
    go_loopw [8, 9] (fun a x wr => ∃ m i : Nat, ∃ pv pm np s sp D E, a = .int .i64 m ∧ x = .int .i64 i ∧ i ≤ len ∧ HV w wr H B X Y V G pv pm np s sp 48 D ∧ Dn q m s sp D E np) (fun _ x _ => len - (intOf x).toNat)
    case atStart => exact ⟨0, 0, _, _, _, _, _, _, _, rfl, rfl, by omega, HV1.out, HD0.out⟩
    case round =>
      obtain ⟨m, i, pv, pm, np, s, sp, D, E, rfl, rfl, hi, hv, hd⟩ := hrel
      clear HV1 HD0 HN
      have hi0 : (0 : Int) ≤ i := by omega
      have hm0 : (0 : Int) ≤ m := by omega
      have hm8 := hd.m8
      have HV := hid hv; have HD := hid hd
      clear hv hd
      by_cases hlt : i < len
      · have hlt' : (i : Int) < len := by omega
        have hi63 : (i : Int) ≤ 9223372036854775806 := by omega
        obtain ⟨L, b, o, z, hp, hsz, hzz, hL, hL256⟩ := round_of HV.out HD.out HP.out hlt
        obtain ⟨hz63, hz64⟩ := i64_bounds hzz
        have HSz := hid hsz
        have hc := hsz wr HV.out.g
        have HL := hid hL
        subst hp
        have HM0 := hid (hMachine H ⟨B, 0, none⟩ wr HV.out.c0)
        have HLf0 := hid (left_of HV.out HD.out hL)
        clear hsz hzz hL
        by_cases h1 : z < 1
        · have HE := hid (show buildE m L z = 170 by unfold buildE; rw [if_pos (.inl h1)])
          go_wp2_with (first
            | (go_at_call 5; first
                | ((with_reducible refine HM3.out.mono ?_); rintro e w' ⟨rfl, rfl⟩)
                | ((with_reducible refine HM0.out.mono ?_); rintro e w' ⟨rfl, rfl⟩)
                | fail)
            | (go_at_call 6; first
                | ((with_reducible refine HLf3.out.mono ?_); rintro e w4 ⟨rfl, hg⟩; have HV4 := hid (HV3.out.grown hg); clear hg)
                | ((with_reducible refine HLf0.out.mono ?_); rintro e w2 ⟨rfl, hg⟩; have HV2 := hid (HV.out.grown hg); have c2 := hg.cell hc (by simp); have HB2 := hid (hBuildU w w2 H B X Y V G pv pm np s sp 48 D E q m HV2.out HD.out (by omega) z); clear hg)
                | fail)
            | (go_at_call 7; (with_reducible refine HB2.out.mono ?_); rintro e w3 ⟨a, c, rfl, hcc, hno, -⟩; rw [HL.out, HE.out] at hcc; subst hcc; have HV3 := hid (hno (by decide)); have c3 := HSz.out w3 HV3.out.g; have HM3 := hid (hMachine H ⟨B, 0, none⟩ w3 HV3.out.c0); have HLf3 := hid (left_of HV3.out HD.out HL.out); clear hno c2)
            | fail)
          go_roundw
          case rel => exact ⟨m, i + 1, pv, pm, np, s, sp, D, E, rfl, by go_num, by omega, HV4.out, HD.out⟩
          case measure => simp [intOf]; omega
        by_cases h2 : 48 < z
        · have HE := hid (show buildE m L z = 170 by unfold buildE; rw [if_pos (.inr h2)])
          go_wp2_with (first
            | (go_at_call 5; first
                | ((with_reducible refine HM3.out.mono ?_); rintro e w' ⟨rfl, rfl⟩)
                | ((with_reducible refine HM0.out.mono ?_); rintro e w' ⟨rfl, rfl⟩)
                | fail)
            | (go_at_call 6; first
                | ((with_reducible refine HLf3.out.mono ?_); rintro e w4 ⟨rfl, hg⟩; have HV4 := hid (HV3.out.grown hg); clear hg)
                | ((with_reducible refine HLf0.out.mono ?_); rintro e w2 ⟨rfl, hg⟩; have HV2 := hid (HV.out.grown hg); have c2 := hg.cell hc (by simp); have HB2 := hid (hBuildU w w2 H B X Y V G pv pm np s sp 48 D E q m HV2.out HD.out (by omega) z); clear hg)
                | fail)
            | (go_at_call 7; (with_reducible refine HB2.out.mono ?_); rintro e w3 ⟨a, c, rfl, hcc, hno, -⟩; rw [HL.out, HE.out] at hcc; subst hcc; have HV3 := hid (hno (by decide)); have c3 := HSz.out w3 HV3.out.g; have HM3 := hid (hMachine H ⟨B, 0, none⟩ w3 HV3.out.c0); have HLf3 := hid (left_of HV3.out HD.out HL.out); clear hno c2)
            | fail)
          go_roundw
          case rel => exact ⟨m, i + 1, pv, pm, np, s, sp, D, E, rfl, by go_num, by omega, HV4.out, HD.out⟩
          case measure => simp [intOf]; omega
        have hz1 : 1 ≤ z := by omega
        have hz48 : z ≤ 48 := by omega
        by_cases h3 : (L : Int) < z + 2
        · have HE := hid (show buildE m L z = 10 by unfold buildE; rw [if_neg (by omega), if_pos h3])
          go_wp2_with (first
            | (go_at_call 5; first
                | ((with_reducible refine HM3.out.mono ?_); rintro e w' ⟨rfl, rfl⟩)
                | ((with_reducible refine HM0.out.mono ?_); rintro e w' ⟨rfl, rfl⟩)
                | fail)
            | (go_at_call 6; first
                | ((with_reducible refine HLf3.out.mono ?_); rintro e w4 ⟨rfl, hg⟩; have HV4 := hid (HV3.out.grown hg); clear hg)
                | ((with_reducible refine HLf0.out.mono ?_); rintro e w2 ⟨rfl, hg⟩; have HV2 := hid (HV.out.grown hg); have c2 := hg.cell hc (by simp); have HB2 := hid (hBuildU w w2 H B X Y V G pv pm np s sp 48 D E q m HV2.out HD.out (by omega) z); clear hg)
                | fail)
            | (go_at_call 7; (with_reducible refine HB2.out.mono ?_); rintro e w3 ⟨a, c, rfl, hcc, hno, -⟩; rw [HL.out, HE.out] at hcc; subst hcc; have HV3 := hid (hno (by decide)); have c3 := HSz.out w3 HV3.out.g; have HM3 := hid (hMachine H ⟨B, 0, none⟩ w3 HV3.out.c0); have HLf3 := hid (left_of HV3.out HD.out HL.out); clear hno c2)
            | fail)
          go_roundw
          case rel => exact ⟨m, i + 1, pv, pm, np, s, sp, D, E, rfl, by go_num, by omega, HV4.out, HD.out⟩
          case measure => simp [intOf]; omega
        by_cases h4 : m = 8
        · subst h4
          have HE := hid (show buildE 8 L z = 71 by unfold buildE; rw [if_neg (by omega), if_neg h3, if_pos rfl])
          go_wp2_with (first
            | (go_at_call 5; first
                | ((with_reducible refine HM3.out.mono ?_); rintro e w' ⟨rfl, rfl⟩)
                | ((with_reducible refine HM0.out.mono ?_); rintro e w' ⟨rfl, rfl⟩)
                | fail)
            | (go_at_call 6; first
                | ((with_reducible refine HLf3.out.mono ?_); rintro e w4 ⟨rfl, hg⟩; have HV4 := hid (HV3.out.grown hg); clear hg)
                | ((with_reducible refine HLf0.out.mono ?_); rintro e w2 ⟨rfl, hg⟩; have HV2 := hid (HV.out.grown hg); have c2 := hg.cell hc (by simp); have HB2 := hid (hBuildU w w2 H B X Y V G pv pm np s sp 48 D E q 8 HV2.out HD.out (by omega) z); clear hg)
                | fail)
            | (go_at_call 7; (with_reducible refine HB2.out.mono ?_); rintro e w3 ⟨a, c, rfl, hcc, hno, -⟩; rw [HL.out, HE.out] at hcc; subst hcc; have HV3 := hid (hno (by decide)); have c3 := HSz.out w3 HV3.out.g; have HM3 := hid (hMachine H ⟨B, 0, none⟩ w3 HV3.out.c0); have HLf3 := hid (left_of HV3.out HD.out HL.out); clear hno c2)
            | fail)
          go_roundw
          case rel => exact ⟨8, i + 1, pv, pm, np, s, sp, D, E, rfl, by go_num, by omega, HV4.out, HD.out⟩
          case measure => simp [intOf]; omega
        have h5 : m < 8 := by omega
        have h5' : (m : Int) < 8 := by omega
        have h4' : ¬ ((m : Int) = 8) := by omega
        have h4b : ((m : Int) == 8) = false := by simpa using h4'
        have HE := hid (show buildE m L z = 0 by unfold buildE; rw [if_neg (by omega), if_neg h3, if_neg h4])
        obtain ⟨y, rfl⟩ : ∃ y : Nat, z = y := ⟨z.toNat, by omega⟩
        have hy1 : 1 ≤ y := by omega
        have hy48 : y ≤ 48 := by omega
        go_wp2_with (first
          | (go_at_call 5; first
              | ((with_reducible refine HM0.out.mono ?_); rintro e w' ⟨rfl, rfl⟩)
              | fail)
          | (go_at_call 6; first
              | ((with_reducible refine HLf0.out.mono ?_); rintro e w2 ⟨rfl, hg⟩; have HV2 := hid (HV.out.grown hg); have c2 := hg.cell hc (by simp); have HB2 := hid (hBuildU w w2 H B X Y V G pv pm np s sp 48 D E q m HV2.out HD.out (by omega) y); clear hg)
              | fail)
          | (go_at_call 7; (with_reducible refine HB2.out.mono ?_); rintro e w3 ⟨a, c, rfl, hcc, -, hyes⟩; rw [HL.out, HE.out] at hcc; subst hcc; obtain ⟨rfl, pv', pm', s3, sp3, D3, E3, L3, gr, rt, hv3, hd3, hl3, hl4, hdom⟩ := built_of HD.out h5 (hyes rfl); have HV3 := hid hv3; have HD3 := hid hd3; have HL3 := hid hl3; rw [HL.out] at hl4; have HL4 := hid hl4; have HDm := hid hdom; have c3 := HSz.out w3 HV3.out.g; clear hyes hv3 hd3 hl3 hl4 hdom c2)
          | (go_at_call 8; (with_reducible refine HDm.out.mono ?_); rintro e w4 ⟨rfl, hg⟩; have HV4 := hid (HV3.out.grown hg); obtain ⟨w5, hw5⟩ : ∃ w5, w4.alloc (.cells #[.int .i64 1, .int .i64 y, .int .i64 ((y : Int) + 2), .int .i64 gr, .int .i64 rt] 33) = w5 := ⟨_, rfl⟩; have hg5 : w4.grownBy w5 none := hw5 ▸ World.grownBy_alloc _ _ none; have HV5 := hid (HV4.out.grown hg5); have c5 := HSz.out w5 HV5.out.g; have x0 : w5.cell? ⟨w4.heap.size, 0, none⟩ = some (.int .i64 1) := (by rw [← hw5]; simp [go_sem]); have x1 : w5.cell? ⟨w4.heap.size, 1, none⟩ = some (.int .i64 y) := (by rw [← hw5]; simp [go_sem]); have x2 : w5.cell? ⟨w4.heap.size, 2, none⟩ = some (.int .i64 ((y : Int) + 2)) := (by rw [← hw5]; simp [go_sem]); clear hg hg5)
          | fail)
        have cH := HV5.out.c0
        have hwy : IntKind.i64.wrap ((y : Int) + 2) = y + 2 := by rw [IntKind.wrap_i64]; omega
        have hwl : IntKind.i64.wrap ((L : Int) - ((y : Int) + 2)) = L3 := by have := HL4.out; rw [IntKind.wrap_i64]; omega
        have HM5 := hid (fun wX (h : wX.cell? ⟨H, 0, none⟩ = some (.pointer (some ⟨B, 0, none⟩))) => hMachine H ⟨B, 0, none⟩ wX h)
        clear hw5 c3 hc
        go_region_held3 (fun w' => w'.cell? ⟨w4.heap.size, 0, none⟩ = some (.int .i64 1) ∧ w'.cell? ⟨w4.heap.size, 1, none⟩ = some (.int .i64 y) ∧ w'.cell? ⟨w4.heap.size, 2, none⟩ = some (.int .i64 ((y : Int) + 2)) ∧ w'.cell? ⟨b, o + i, none⟩ = some (.int .i64 y) ∧ w'.cell? ⟨H, 0, none⟩ = some (.pointer (some ⟨B, 0, none⟩))) (first | exact ⟨by assumption, by assumption, by assumption, by assumption, by assumption⟩ | go_keep)
          (first
            | (go_at_call 5; refine (HM5.out _ (by assumption)).mono ?_; rintro e w' ⟨rfl, rfl⟩)
            | (go_at_call 6; refine (left_of (HV5.out.grown (grownBy_drew _ none)) HD3.out HL3.out).mono ?_; rintro e w6 ⟨rfl, hg⟩; have hgw := (grownBy_drew w5 none).trans hg; have HV6 := hid (HV5.out.grown hgw); have v0 := hgw.cell x0 (by simp); have v1 := hgw.cell x1 (by simp); have v2 := hgw.cell x2 (by simp); have v3 := hgw.cell c5 (by simp); have v4 := hgw.cell cH (by simp); clear hg hgw)
            | fail)
        go_wp2
        go_roundw
        case rel => exact ⟨m + 1, i + 1, pv', pm', np + 1, s3, sp3, D3, E3, by go_num, by go_num, by omega, (by first | exact HV6.out | exact HV6.out.grown (grownBy_drew _ none) | exact HV6.out.grown (grownBy_drewN _ _ none)), HD3.out⟩
        case measure => simp [intOf]; omega
      · obtain rfl : i = len := by omega
        have hge : ¬ ((i : Int) < i) := by omega
        go_wp2_with (go_at_call 9; refine (lAwake _).mono ?_; rintro e w2 ⟨rfl, hg⟩; have HG := hid (HV.out.g.trans hg); clear hg)
        go_ret
        exact ⟨rfl, HG.out⟩
theorem main {H : Type} {enc : TypeId × Value → H} (v0 v1 : Value) (W : World) (c0 : Flat.Came enc Try.prog W 0 (fun _ => true) true 5 v0) (c1 : Flat.Came enc Try.prog W 0 (fun _ => true) true 22 v1) :
    Calls Try.prog 3 #[v0, v1] W fun e w' => e = .returned (.bool true) ∧ W.grownBy w' none := by
  obtain ⟨a, rfl, h0⟩ := c0.int Try.underlying5
  obtain ⟨a0, a1⟩ := bounds_u8 h0
  obtain ⟨f, rfl⟩ := Int.eq_ofNat_of_zero_le a0
  obtain ⟨p, len, cap, rfl, -, hl, hc⟩ := c1.ints Try.underlying22 Try.underlying3 (by kernel_rfl)
  exact walk f (3 + f) (by omega) rfl p len cap hl W hc
theorem own : ownKnob Try.prog.godebug = none := by kernel_rfl
theorem laidOut : laidOutB Try.prog = true := by kernel_rfl

set_option maxRecDepth 100000 in
theorem lifted (os : Os) (started : os.Started) (H : Type) (enc : TypeId × Value → H) :
    ReturnsInHanded {} Try.checked os 3 .any (Rows.domBuildsSpec.pre6 enc Try.prog Try.f3 Rows.domBuildsRow.domain false) (Rows.domBuildsSpec.post enc Try.prog Try.f3 false true false false) := by
  refine returnsInHanded_of_change_sized (C := Try.checked) own started (by kernel_rfl) Try.func3
    (ChangeSpec.witness6 (enc := enc) (C := Try.checked) false ⟨#[], #[.int .u8 0, .slice none 0 0], []⟩ 8 (by kernel_rfl) (by kernel_rfl) (by kernel_rfl) (by kernel_rfl)) ?_
  intro W base args ds gs before hval0 hW _ hsz0 _
  have hsz : (DataW.weightsEach Try.prog (Try.f3.params.toList ++ Rows.domBuildsSpec.plain.varTypes Try.prog) (ds ++ gs)).all (· ≤ reachBytes) = true := hsz0
  clear hsz0
  have hval : ∀ (j : Nat) t v, Try.f3.params[j]? = some t → args[j]? = some v → Value.okWide Try.prog W .any base t v := hval0
  have hW' := hW
  obtain ⟨p, q, hA0, hV, rfl, hfz, hnd⟩ := hW
  have hA : DataW.TrodAll enc Try.prog W 0 (fun _ => true) true Try.f3.params.toList args.toList ds p := hA0
  rw [Try.params3] at hA hval hsz
  obtain ⟨v0, vs0, d0, ds0, p0, q0, hargs, rfl, rfl, h0, r0⟩ := trodAll_cons hA
  obtain ⟨v1, vs1, d1, ds1, p1, q1, rfl, rfl, rfl, h1, r1⟩ := trodAll_cons r0
  obtain ⟨rfl, rfl, rfl⟩ := trodAll_nil r1
  obtain rfl : args = #[v0, v1] := by cases args; simp_all
  obtain ⟨rfl, rfl⟩ := trodVars_none hV
  obtain ⟨a0, rfl, rfl, rfl, w0⟩ := open_int Try.underlying5 (hval 0 5 v0 rfl rfl) h0
  have k0 := h0
  have lt0 : ∀ x ∈ ([] : List MemPlace), x.block < W.heap.size := by obtain ⟨m, hm⟩ := k0; exact DataW.trod_lt m _ _ _ hm
  have c0 : Flat.Came enc Try.prog W 0 (fun _ => true) true 5 (.int .u8 a0) := by
    obtain ⟨fuel, hf⟩ := h0
    exact ⟨fuel, _, hf, fun n hn => by
      have := List.all_eq_true.1 hsz n (DataW.weights_mem_each (j := 0) rfl rfl n hn)
      simpa using this⟩
  obtain ⟨ps1, ln1, cp1, rfl⟩ := okWide_slice Try.underlying22 (hval 1 22 v1 rfl rfl)
  have k1 := h1
  have lt1 : ∀ x ∈ p1, x.block < W.heap.size := by obtain ⟨m, hm⟩ := k1; exact DataW.trod_lt m _ _ _ hm
  have c1 : Flat.Came enc Try.prog W 0 (fun _ => true) true 22 (.slice ps1 ln1 cp1) := by
    obtain ⟨fuel, hf⟩ := h1
    exact ⟨fuel, _, hf, fun n hn => by
      have := List.all_eq_true.1 hsz n (DataW.weights_mem_each (j := 1) rfl rfl n hn)
      simpa using this⟩
  clear hA0 hval0
  refine (main (.int .u8 a0) (.slice ps1 ln1 cp1) W c0 c1).mono fun e W' ⟨he, hg⟩ => ?_
  subst he
  have bel := below_grown' hg
  simp only [List.append_nil, List.nil_append] at hW'
  exact ⟨_, rfl, _, _, _, [], _, [], hW', trodAll_mk1 (shut_bool Try.underlying4 _), (trodAll_cons_mk (Below.trod laidOut (by kernel_rfl) (of_decide_eq_true (by kernel_rfl)) k0 bel lt0) (trodAll_cons_mk (Below.trod laidOut (by kernel_rfl) (of_decide_eq_true (by kernel_rfl)) k1 bel lt1) trodAll_mk0)), rfl, bel.frame _, fun h => by cases h⟩

theorem proved : Rows.DomBuildsSaid :=
  OpenClaim.holds_of_wide 3 Try.f3 rfl rfl rfl rfl rfl rfl rfl ⟨rfl, rfl, rfl, rfl, rfl⟩ rfl rfl rfl rfl rfl (by kernel_rfl) Try.func3 (by kernel_rfl)
    (of_decide_eq_true (by kernel_rfl)) (by unfold Func.isWrapper; first | (rw [if_pos (by decide +kernel)]; kernel_rfl) | (rw [if_neg (by decide +kernel)]; exact ⟨rfl, rfl⟩))
    (fun os started H enc _ => lifted os started H enc)
#print axioms proved
#print axioms proved
end Go.Proofs.Ytbbaplcfhofeeaa.lawDomBuilds
