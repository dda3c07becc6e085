/-
  GrantRange: for every two small numbers, every two numbers and every row of bytes the law returns true, and what was there stays. No condition.
-/
import Derived.Test.YtkdoaidcmmehoaaJ5R
import Derived.Test.YtkdoaidcmmehoaaJ4
import Derived.Test.YtkdoaidcmmehoaaLift
import Derived.Test.YtkdoaidcmmehoaaOpen
import Derived.Test.YtkdoaidcmmehoaaRows
import Derived.Test.YtkdoaidcmmehoaaBytesIn
import Derived.Test.YtkdoaidcmmehoaaJ7
import Derived.ProofKit
import Derived.OpenShut
import Derived.Deep.Cut
import Derived.Deep.RegionHeld3
set_option linter.unusedSimpArgs false
set_option linter.unusedVariables false
namespace Go.Proofs.Ytkdoaidcmmehoaa.lawGrRange
open Go.ChangeShapes Go.WideShapes Go.ChangeAt Go.RowKit KM
set_option maxHeartbeats 4000000
set_option maxRecDepth 100000

def gC (o z : Nat) (k : Nat) : Value := [Value.int .i64 1, .bool false, .bool true, .int .i64 2, .int .i64 3, .int .i64 o, .int .i64 ((1 : Int) + z)].getD k undef
theorem gC_row (w : World) (o z : Nat) : Row (w.alloc (.cells #[.int .i64 1, .bool false, .bool true, .int .i64 2, .int .i64 3, .int .i64 o, .int .i64 ((1 : Int) + z)] 73)) w.heap.size 73 7 (gC o z) :=
  Gen.Row.new w _ 73 7 _ (by simp) fun k hk => by match k, hk with | 0, _ => rfl | 1, _ => rfl | 2, _ => rfl | 3, _ => rfl | 4, _ => rfl | 5, _ => rfl | 6, _ => rfl
theorem pk_is {w' : World} {gq c B : Nat} {l : List UInt8} (hl : l.length = 8) (hr : Row w' gq 5 8 (fun k => .int .u8 (l.getD k 0).toNat)) (hB : gq ≠ B) : IsBytes w' B (.slice (some ⟨gq, 0, none⟩) 8 c) l := by
  refine .inr ⟨⟨gq, 0, none⟩, c, by rw [hl], hB, fun k x hx => ?_⟩
  obtain ⟨hk, rfl⟩ := List.getElem?_eq_some_iff.1 hx
  have e : (⟨gq, 0, none⟩ : Addr).add k = ⟨gq, k, none⟩ := by unfold Addr.add; split <;> simp_all
  rw [e, hr.cell (k := k) (by omega)]
  simp [List.getD, List.getElem?_eq_getElem hk]
theorem one_is (w : World) (B : Nat) (hB : B < w.heap.size) (x : UInt8) : IsBytes (w.alloc (.cells #[.int .u8 x.toNat] 5)) B (.slice (some ⟨w.heap.size, 0, none⟩) 1 1) [x] := by
  refine .inr ⟨⟨w.heap.size, 0, none⟩, 1, rfl, fun e => by simp only at e; omega, fun k y hy => ?_⟩
  have hk : k = 0 := by
    obtain ⟨h, _⟩ := List.getElem?_eq_some_iff.1 hy
    simp at h; exact h
  subst hk
  cases hy
  rw [show (⟨w.heap.size, 0, none⟩ : Addr).add 0 = ⟨w.heap.size, 0, none⟩ by unfold Addr.add; simp]
  simp [go_sem]
/-- all that holds from the view on -/
structure RW (w0 w : World) (t X B G : Nat) (pm : Nat → Nat × Nat × Nat) (s : Gs) (T V Gv : Nat) (S : Nat → Prop) (n gb ob o z : Nat) (O : List UInt8) : Prop where
  v : WV w0 w t X B G pm s T V Gv S n
  g : Row w gb 73 7 (gC o z)
  ol : ∀ k, k < 256 → w.cell? ⟨ob, k, none⟩ = some (.int .u8 (O.getD k 0).toNat)
  ng : ¬ avfoot X B G pm 3 V Gv gb
  no : ¬ avfoot X B G pm 3 V Gv ob
section
variable {w0 w w' : World} {t X B G : Nat} {pm : Nat → Nat × Nat × Nat} {s s' : Gs} {T T' V Gv : Nat} {S : Nat → Prop} {n n' gb ob o z : Nat} {O : List UInt8}
theorem RW.chg (h : RW w0 w t X B G pm s T V Gv S n gb ob o z O) (hv : WV w0 w' t X B G pm s' T' V Gv S n') (hc : Chg (avfoot X B G pm 3 V Gv) w w') : RW w0 w' t X B G pm s' T' V Gv S n' gb ob o z O :=
  ⟨hv, h.g.chg hc h.ng, fun k hk => hc.gen.cell (h.ol k hk) h.no, h.ng, h.no⟩
theorem RW.grown (h : RW w0 w t X B G pm s T V Gv S n gb ob o z O) (hg : w.grownBy w' none) : RW w0 w' t X B G pm s T V Gv S n gb ob o z O :=
  h.chg (h.v.grown hg) (Chg.of0 hg)
theorem RW.c5 (h : RW w0 w t X B G pm s T V Gv S n gb ob o z O) : w.cell? ⟨gb, 5, none⟩ = some (.int .i64 o) := h.g.cell (k := 5) (by omega)
theorem RW.c6 (h : RW w0 w t X B G pm s T V Gv S n gb ob o z O) : w.cell? ⟨gb, 6, none⟩ = some (.int .i64 ((1 : Int) + z)) := h.g.cell (k := 6) (by omega)
end
theorem old_part {w : World} {ob x y : Nat} {O : List UInt8} (hO : O.length = 256) (hol : ∀ k, k < 256 → w.cell? ⟨ob, k, none⟩ = some (.int .u8 (O.getD k 0).toNat)) (hx : x + y ≤ 256) :
    ∃ pq cq, (∀ W, (Instr.slice 31 (.slice (some ⟨ob, 0, none⟩) 256 256) (some (.int .i64 ((x : Nat) : Int))) (some (.int .i64 ((x : Int) + y))) none).run Try.prog W = .ok (.slice pq y cq) W) ∧
      (∀ i : Nat, (convert 31 9 (.slice pq y cq)).run Try.prog (w.drewN i) = .ok (.string ⟨((O.drop x).take y).toArray⟩) (w.drewN i)) := by
  have hel : Try.prog.elem 31 = 5 := by kernel_rfl
  have hsz : ∀ W, (sizeOf 5).run Try.prog W = .ok 1 W := fun W => by kernel_rfl
  have hll : ((O.drop x).take y).length = y := by rw [List.length_take, List.length_drop, hO]; omega
  refine ⟨if 256 = x then some ⟨ob, 0, none⟩ else some ⟨ob, x, none⟩, 256 - x, fun W => ?_, fun i => ?_⟩
  · rw [run_slice_lh (P := Try.prog) W 31 (some ⟨ob, 0, none⟩) 256 256 (by rw [hel]; exact Try.underlying31) .i64 .i64 (x : Int) ((x : Int) + y) (by omega) (by omega) (by omega), hel, hsz]
    simp only [Result.andThen, sliced]
    have e1 : ((x : Int) + y).toNat = x + y := by omega
    rw [Int.toNat_natCast, e1, Nat.add_sub_cancel_left]
    have e2 : (if 256 = x then some (⟨ob, 0, none⟩ : Addr) else Option.map (fun q : Addr => q.add (x * 1)) (some ⟨ob, 0, none⟩)) = if 256 = x then some ⟨ob, 0, none⟩ else some ⟨ob, x, none⟩ := by
      split
      · rfl
      · rw [Option.map_some, Nat.mul_one, show (⟨ob, 0, none⟩ : Addr).add x = ⟨ob, x, none⟩ by unfold Addr.add; split <;> simp_all]
    rw [e2]
  · by_cases hy : y = 0
    · subst hy
      rw [List.take_zero]
      exact vconv_empty _ _ _
    · rw [if_neg (by omega)]
      refine vconv_row (w.drewN i) ob x y (256 - x) _ hll fun k hk => ?_
      show w.cell? ⟨ob, x + k, none⟩ = _
      rw [hol (x + k) (by omega)]
      simp [List.getD, List.getElem?_take, List.getElem?_drop, hk]
theorem walk (o z : Nat) (ho : o < 256) (hz : z < 256) (a n : Int) (ha1 : -9223372036854775808 ≤ a) (ha2 : a ≤ 9223372036854775807) (hn1 : -9223372036854775808 ≤ n) (hn2 : n ≤ 9223372036854775807) (pb : Option Addr) (cb : Nat) (bs : List UInt8) (w : World) (hbs : InBytes w pb bs) (hbl : bs.length ≤ 140737488351232) :
    Calls Try.prog 11 #[.int .u8 o, .int .u8 z, .int .i64 a, .int .i64 n, .slice pb bs.length cb] w fun e w' => e = .returned (.bool true) ∧ w.grownBy w' none := by
  have HBs := hid hbs
  have HBl := hid hbl
  clear hbs hbl
  have HB := hid (begin_nil w)
  by_cases hp : 256 ≤ o + z
  · have hpv := gRng_nopack hp
    have HP1 := hid (fun w' => rPk_no 1 false true 2 3 o ((1 : Int) + z) w' hpv)
    have HP2 := hid (fun w' => gPk_no 1 false true 2 3 o ((1 : Int) + z) w' (fun w'' => (by have := gPacks (gRng o z) w'' (by show (o : Int) ≤ _; omega); rw [hpv] at this; exact this)))
    clear hpv hp
    go_enter Try.func11, Try.ntmps11
    go_wp2_with (first
      | (go_at_call 42; (with_reducible refine HB.out.mono ?_); rintro e w1 ⟨t, X, B, G, pm, Y, R, D, c, qb, ql, L, vp, vq, rfl, hb⟩; have HG1 := hid (hb.g.trans (World.grownBy_alloc w1 (.cells #[.int .i64 1, .bool false, .bool true, .int .i64 2, .int .i64 3, .int .i64 o, .int .i64 ((1 : Int) + z)] 73) none)); have HR1 := hid (gC_row w1 o z); clear hb)
      | (go_at_call 39; (with_reducible refine (HP1.out _).mono ?_); rintro e w2 ⟨rfl, g2⟩; have HG2 := hid (HG1.out.trans g2); have r2 := Row.grown HR1.out g2 (by simp); have q0 := r2.cell (k := 0) (by omega); have q1 := r2.cell (k := 1) (by omega); have q2 := r2.cell (k := 2) (by omega); have q3 := r2.cell (k := 3) (by omega); have q4 := r2.cell (k := 4) (by omega); have q5 := r2.cell (k := 5) (by omega); have q6 := r2.cell (k := 6) (by omega); simp only [gC, List.getD_cons_zero, List.getD_cons_succ] at q0 q1 q2 q3 q4 q5 q6; clear g2 r2)
      | (go_at_call 38; (with_reducible refine (HP2.out _).mono ?_); rintro e w3 ⟨rfl, g3⟩; have HG3 := hid (HG2.out.trans g3); clear g3))
    go_ret
    exact ⟨rfl, HG3.out⟩
  · have hoz : o + z < 256 := by omega
    have HP1 := hid (fun w' => rPk_yes (gRng o z) w' (gRng_pack hoz))
    simp only [GV.val, gRng] at HP1
    have HRS := hid (RS.start (o := o) (z := z))
    have HOk := hid (bst_ok 3)
    clear hp
    go_enter Try.func11, Try.ntmps11
    go_upto_region 10 with (first
      | (go_at_call 42; (with_reducible refine HB.out.mono ?_); rintro e w1 ⟨t, X, B, G, pm, Y, R, D, c, qb, ql, L, vp, vq, rfl, hb⟩; have HW1 := hid (hb.wt.grown (World.grownBy_alloc w1 (.cells #[.int .i64 1, .bool false, .bool true, .int .i64 2, .int .i64 3, .int .i64 o, .int .i64 ((1 : Int) + z)] 73) none)); have HR1 := hid (gC_row w1 o z); have HNg := hid (show ¬ gfoot X B G pm 3 w1.heap.size from fun e => by have := hb.wt.a.lt e; omega); clear hb)
      | (go_at_call 39; (refine (HP1.out _).mono ?_); intro e w2 h2; obtain ⟨gq, cq, rfl, hr2, hg2, g2⟩ := pk_row (pkL_len (gRng o z)) h2; have HW2 := hid (HW1.out.grown g2); have HR2 := hid (Row.grown HR1.out g2 (by simp)); have HI2 := hid (pk_is (c := cq) (B := B) (pkL_len (gRng o z)) hr2 (fun e => by have := HW1.out.a.m.lt; omega)); have c2 := HW2.out.c0; clear h2 hr2 hg2 g2)
      | (go_at_call 18; (with_reducible refine (HW2.out.writeB HOk.out 4 0 (by omega) (by rw [pkL_len]; omega) HI2.out).mono ?_); rintro e w3 ⟨rfl, h3, g3⟩; have HW3 := hid h3; have HR3 := hid (Row.grown HR2.out g3 (fun e => HNg.out (.inr (.inl (Option.some.inj e))))); clear h3 g3))
    obtain ⟨gb, hgb⟩ : ∃ gb, gb = w1.heap.size := ⟨_, rfl⟩
    have HGb := hid (show w1.heap.size < w3.heap.size from HR3.out.lt)
    clear HB HW1 HR1 HW2 HR2 HI2 c2 HP1
    go_wp2
    go_loopw [18] (fun i wr => ∃ (k : Nat) (s : Gs), i = .int .i64 k ∧ k ≤ 256 ∧ WT w wr t X B G pm s 12 ∧ RS s o z ∧ Row wr w1.heap.size 73 7 (gC o z)) (fun i _ => 256 - (intOf i).toNat)
    case atStart => exact ⟨0, _, rfl, by omega, HW3.out, HRS.out, HR3.out⟩
    case round =>
      obtain ⟨k, s, rfl, hk, hw, hs, hr⟩ := hrel
      have HW4 := hid hw
      have HS4 := hid hs
      have HR4 := hid hr
      have c0 := hw.c0
      have hBlt := hw.a.m.lt
      clear hw hs hr HW3 HR3 HRS
      have hk0 : (0 : Int) ≤ k := by omega
      by_cases hlt : k < 256
      · have hlt' : (k : Int) < 256 := by omega
        obtain ⟨x, hx⟩ : ∃ x : UInt8, ((k : Int) * 7) % 256 = (x.toNat : Int) := ⟨UInt8.ofNat (k * 7 % 256), by rw [UInt8.toNat_ofNat_of_lt' (show k * 7 % 256 < 256 by omega)]; omega⟩
        have HI := hid (one_is wr B hBlt x)
        have hBne : B ≠ wr.heap.size := by omega
        clear hBlt
        go_wp2_with (go_at_call 18; (with_reducible refine ((HW4.out.grown (World.grownBy_alloc wr _ none)).writeB HS4.out.ok 7 (k : Int) (by omega) (l := [x]) (by simp) HI.out).mono ?_); rintro e w5 ⟨rfl, h5, g5⟩; have HW5 := hid h5; have HR5 := hid (Row.grown (Row.grown HR4.out (World.grownBy_alloc wr _ none) (by simp)) g5 (fun e => HNg.out (.inr (.inl (Option.some.inj e))))); clear h5 g5)
        go_roundw
        case rel => exact ⟨k + 1, _, by go_num, by omega, HW5.out, HS4.out.write7 _ _, HR5.out⟩
        case measure => simp [intOf]; omega
      · obtain rfl : k = 256 := by omega
        clear hlt hk hk0 hBlt
        have HBig := hid (show ∀ q, gfoot X B G pm 3 q → q < wr.heap.size from fun q hq => HW4.out.a.lt hq)
        have HGl := hid (show w1.heap.size < wr.heap.size from HR4.out.lt)
        go_upto_region 16 with (first
          | (go_at_call 53; (with_reducible refine (HW4.out.readPg HS4.out).mono ?_); rintro e w6 ⟨ob, rfl, hob, hoc, h6, g6⟩; have HW6 := hid h6; have HC6 := hid hoc; have HO6 := hid (⟨hob, World.block_lt_of_cell? w6 _ (hoc 0 (by omega))⟩ : wr.heap.size ≤ ob ∧ ob < w6.heap.size); have HR6 := hid (Row.grown HR4.out g6 (by simp)); have HG6 := hid g6.size; have c6 := h6.c0; clear h6 g6 hoc hob)
          | (go_at_call 23; (with_reducible refine (HW6.out.newViewAt HS4.out.ok.n1).mono ?_); rintro e w7 ⟨V, Gv, S, rfl, h7, hV, hGv, g7⟩; have HV7 := hid (⟨h7, Row.grown HR6.out g7 (by simp), fun k hk => g7.cell (HC6.out k hk) (by simp), (fun e => by rcases e with e | e | e; exact HNg.out e; have := HGl.out; have := HG6.out; omega; have := HGl.out; have := HG6.out; omega), (fun e => by rcases e with e | e | e; have := HBig.out _ e; have := HO6.out.1; omega; have := HO6.out.2; omega; have := HO6.out.2; omega)⟩ : RW w w7 t X B G pm s 12 V Gv S 0 w1.heap.size ob o z (pg7 s)); clear h7 hV hGv g7))
        -- WAYS
        have c1 := HV7.out.v.wt.c1
        have c5 := HV7.out.c5
        have c6 := HV7.out.c6
        clear HW4 HR4 HW6 HR6 HC6 HO6 HG6 HBig HGl
        by_cases h0 : a < 0
        · as_aux_lemma =>
            go_upto_region 18 with (go_at_call 58; (with_reducible refine (HV7.out.v.pullArg a n (by omega)).mono ?_); rintro e w8 ⟨q, cp, rfl, ⟨m, h8, hm⟩, hc8⟩; have HV8 := hid (HV7.out.chg h8 hc8); have HM8 := hid hm; clear c1 c5 c6 h8 hc8 hm; have c1 := HV8.out.v.wt.c1; have c5 := HV8.out.c5; have c6 := HV8.out.c6)
            go_quiet (fail)
            clear HV7
            go_upto_region 22 with (go_at_call 60; (with_reducible refine ((HV8.out.grown (grownBy_drewN w8 _ none)).v.pushArg a h0 pb bs.length cb).mono ?_); rintro e w9 ⟨rfl, ⟨m9, h9, hm9⟩, hc9⟩; have HV9 := hid ((HV8.out.grown (grownBy_drewN w8 _ none)).chg h9 hc9); clear c1 c5 c6 h9 hc9 hm9; have c5 := HV9.out.c5; have c6 := HV9.out.c6; have c0 := HV9.out.v.wt.c0)
            clear HV8
            go_upto_region 25 with (go_at_call 53; (with_reducible refine (HV9.out.v.readPg HS4.out).mono ?_); rintro e w10 ⟨nb, rfl, hnb, hnc, h10, g10⟩; have HV10 := hid (HV9.out.grown g10); have HN10 := hid hnc; clear c5 c6 c0 h10 g10 hnc hnb; have c5 := HV10.out.c5; have c6 := HV10.out.c6)
            clear HV9
            obtain ⟨wz, hwz⟩ : ∃ x, x = w10 := ⟨_, rfl⟩
            subst hwz
            go_wp2
            go_loopw [30] (fun i wr => ∃ k : Nat, i = .int .i64 k ∧ k ≤ 256 ∧ wr = wz) (fun i _ => 256 - (intOf i).toNat)
            case atStart => exact ⟨0, rfl, by omega, rfl⟩
            case round =>
              obtain ⟨k, rfl, hk, rfl⟩ := hrel
              have hk0 : (0 : Int) ≤ k := by omega
              by_cases hlt : k < 256
              · have hlt' : (k : Int) < 256 := by omega
                have y1 := HV10.out.ol k hlt
                have y2 := HN10.out k hlt
                generalize ((pg7 s).getD k 0).toNat = x at *
                go_wp2
                go_roundw
                case rel => first | exact ⟨k + 1, by go_num, by omega, trivial⟩ | exact ⟨k + 1, by go_num, by omega⟩
                case measure => simp [intOf]; omega
              · obtain rfl : k = 256 := by omega
                go_wp2
                go_ret
                exact ⟨rfl, HV10.out.v.wt.g⟩
        · have h0 : 0 ≤ a := by omega
          by_cases hx : (1 : Int) + z < a
          · by_cases hn0 : n < 0
            · have hlx : (1 : Int) + z - a < bs.length := by omega
              as_aux_lemma =>
                go_upto_region 18 with (go_at_call 58; (with_reducible refine (HV7.out.v.pullArg a n (by omega)).mono ?_); rintro e w8 ⟨q, cp, rfl, ⟨m, h8, hm⟩, hc8⟩; have HV8 := hid (HV7.out.chg h8 hc8); have HM8 := hid hm; clear c1 c5 c6 h8 hc8 hm; have c1 := HV8.out.v.wt.c1; have c5 := HV8.out.c5; have c6 := HV8.out.c6)
                go_quiet (fail)
                clear HV7
                go_upto_region 22 with (go_at_call 60; (with_reducible refine ((HV8.out.grown (grownBy_drewN w8 _ none)).v.pushN HS4.out hoz (by have := HM8.out; omega) a h0 ha2 cb (by have := HBl.out; omega) HBs.out (by omega)).mono ?_); rintro e w9 ⟨rfl, ⟨m9, h9, hm9⟩, hc9⟩; have HV9 := hid ((HV8.out.grown (grownBy_drewN w8 _ none)).chg h9 hc9); clear c1 c5 c6 h9 hc9 hm9; have c5 := HV9.out.c5; have c6 := HV9.out.c6; have c0 := HV9.out.v.wt.c0)
                clear HV8
                go_upto_region 25 with (go_at_call 53; (with_reducible refine (HV9.out.v.readPg HS4.out).mono ?_); rintro e w10 ⟨nb, rfl, hnb, hnc, h10, g10⟩; have HV10 := hid (HV9.out.grown g10); have HN10 := hid hnc; clear c5 c6 c0 h10 g10 hnc hnb; have c5 := HV10.out.c5; have c6 := HV10.out.c6)
                clear HV9
                obtain ⟨wz, hwz⟩ : ∃ x, x = w10 := ⟨_, rfl⟩
                subst hwz
                go_wp2
                go_loopw [30] (fun i wr => ∃ k : Nat, i = .int .i64 k ∧ k ≤ 256 ∧ wr = wz) (fun i _ => 256 - (intOf i).toNat)
                case atStart => exact ⟨0, rfl, by omega, rfl⟩
                case round =>
                  obtain ⟨k, rfl, hk, rfl⟩ := hrel
                  have hk0 : (0 : Int) ≤ k := by omega
                  by_cases hlt : k < 256
                  · have hlt' : (k : Int) < 256 := by omega
                    have y1 := HV10.out.ol k hlt
                    have y2 := HN10.out k hlt
                    generalize ((pg7 s).getD k 0).toNat = x at *
                    go_wp2
                    go_roundw
                    case rel => first | exact ⟨k + 1, by go_num, by omega, trivial⟩ | exact ⟨k + 1, by go_num, by omega⟩
                    case measure => simp [intOf]; omega
                  · obtain rfl : k = 256 := by omega
                    go_wp2
                    go_ret
                    exact ⟨rfl, HV10.out.v.wt.g⟩
            · have hn0 : 0 ≤ n := by omega
              have hnx : (1 : Int) + z - a < n := by omega
              have hlx : (1 : Int) + z - a < bs.length := by omega
              as_aux_lemma =>
                have hdn : decide (n ≤ (1 : Int) + z - a) = false := decide_eq_false (by omega)
                go_upto_region 18 with (go_at_call 58; (with_reducible refine (HV7.out.v.pullR HS4.out hoz (by omega) a n h0 ha2 hn0 (by omega)).mono ?_); rintro e w8 ⟨q, cp, rfl, ⟨m, h8, hm⟩, hc8⟩; have HV8 := hid (HV7.out.chg h8 hc8); have HM8 := hid hm; clear c1 c5 c6 h8 hc8 hm; have c1 := HV8.out.v.wt.c1; have c5 := HV8.out.c5; have c6 := HV8.out.c6)
                go_quiet (fail)
                clear HV7
                go_upto_region 22 with (go_at_call 60; (with_reducible refine ((HV8.out.grown (grownBy_drewN w8 _ none)).v.pushN HS4.out hoz (by have := HM8.out; omega) a h0 ha2 cb (by have := HBl.out; omega) HBs.out (by omega)).mono ?_); rintro e w9 ⟨rfl, ⟨m9, h9, hm9⟩, hc9⟩; have HV9 := hid ((HV8.out.grown (grownBy_drewN w8 _ none)).chg h9 hc9); clear c1 c5 c6 h9 hc9 hm9; have c5 := HV9.out.c5; have c6 := HV9.out.c6; have c0 := HV9.out.v.wt.c0)
                clear HV8
                go_upto_region 25 with (go_at_call 53; (with_reducible refine (HV9.out.v.readPg HS4.out).mono ?_); rintro e w10 ⟨nb, rfl, hnb, hnc, h10, g10⟩; have HV10 := hid (HV9.out.grown g10); have HN10 := hid hnc; clear c5 c6 c0 h10 g10 hnc hnb; have c5 := HV10.out.c5; have c6 := HV10.out.c6)
                clear HV9
                obtain ⟨wz, hwz⟩ : ∃ x, x = w10 := ⟨_, rfl⟩
                subst hwz
                go_wp2
                go_loopw [30] (fun i wr => ∃ k : Nat, i = .int .i64 k ∧ k ≤ 256 ∧ wr = wz) (fun i _ => 256 - (intOf i).toNat)
                case atStart => exact ⟨0, rfl, by omega, rfl⟩
                case round =>
                  obtain ⟨k, rfl, hk, rfl⟩ := hrel
                  have hk0 : (0 : Int) ≤ k := by omega
                  by_cases hlt : k < 256
                  · have hlt' : (k : Int) < 256 := by omega
                    have y1 := HV10.out.ol k hlt
                    have y2 := HN10.out k hlt
                    generalize ((pg7 s).getD k 0).toNat = x at *
                    go_wp2
                    go_roundw
                    case rel => first | exact ⟨k + 1, by go_num, by omega, trivial⟩ | exact ⟨k + 1, by go_num, by omega⟩
                    case measure => simp [intOf]; omega
                  · obtain rfl : k = 256 := by omega
                    go_wp2
                    go_ret
                    exact ⟨rfl, HV10.out.v.wt.g⟩
          · have hx' : a ≤ (1 : Int) + z := by omega
            clear hx
            by_cases hn0 : n < 0
            · by_cases hlx : (1 : Int) + z - a < bs.length
              · as_aux_lemma =>
                  go_upto_region 18 with (go_at_call 58; (with_reducible refine (HV7.out.v.pullArg a n (by omega)).mono ?_); rintro e w8 ⟨q, cp, rfl, ⟨m, h8, hm⟩, hc8⟩; have HV8 := hid (HV7.out.chg h8 hc8); have HM8 := hid hm; clear c1 c5 c6 h8 hc8 hm; have c1 := HV8.out.v.wt.c1; have c5 := HV8.out.c5; have c6 := HV8.out.c6)
                  go_quiet (fail)
                  clear HV7
                  go_upto_region 22 with (go_at_call 60; (with_reducible refine ((HV8.out.grown (grownBy_drewN w8 _ none)).v.pushN HS4.out hoz (by have := HM8.out; omega) a h0 ha2 cb (by have := HBl.out; omega) HBs.out (by omega)).mono ?_); rintro e w9 ⟨rfl, ⟨m9, h9, hm9⟩, hc9⟩; have HV9 := hid ((HV8.out.grown (grownBy_drewN w8 _ none)).chg h9 hc9); clear c1 c5 c6 h9 hc9 hm9; have c5 := HV9.out.c5; have c6 := HV9.out.c6; have c0 := HV9.out.v.wt.c0)
                  clear HV8
                  go_upto_region 25 with (go_at_call 53; (with_reducible refine (HV9.out.v.readPg HS4.out).mono ?_); rintro e w10 ⟨nb, rfl, hnb, hnc, h10, g10⟩; have HV10 := hid (HV9.out.grown g10); have HN10 := hid hnc; clear c5 c6 c0 h10 g10 hnc hnb; have c5 := HV10.out.c5; have c6 := HV10.out.c6)
                  clear HV9
                  obtain ⟨wz, hwz⟩ : ∃ x, x = w10 := ⟨_, rfl⟩
                  subst hwz
                  go_wp2
                  go_loopw [30] (fun i wr => ∃ k : Nat, i = .int .i64 k ∧ k ≤ 256 ∧ wr = wz) (fun i _ => 256 - (intOf i).toNat)
                  case atStart => exact ⟨0, rfl, by omega, rfl⟩
                  case round =>
                    obtain ⟨k, rfl, hk, rfl⟩ := hrel
                    have hk0 : (0 : Int) ≤ k := by omega
                    by_cases hlt : k < 256
                    · have hlt' : (k : Int) < 256 := by omega
                      have y1 := HV10.out.ol k hlt
                      have y2 := HN10.out k hlt
                      generalize ((pg7 s).getD k 0).toNat = x at *
                      go_wp2
                      go_roundw
                      case rel => first | exact ⟨k + 1, by go_num, by omega, trivial⟩ | exact ⟨k + 1, by go_num, by omega⟩
                      case measure => simp [intOf]; omega
                    · obtain rfl : k = 256 := by omega
                      go_wp2
                      go_ret
                      exact ⟨rfl, HV10.out.v.wt.g⟩
              · have hlx' : (bs.length : Int) ≤ (1 : Int) + z - a := by omega
                clear hlx
                as_aux_lemma =>
                  obtain ⟨ak, rfl⟩ := Int.eq_ofNat_of_zero_le h0
                  go_upto_region 18 with (go_at_call 58; (with_reducible refine (HV7.out.v.pullArg (ak : Int) n (by omega)).mono ?_); rintro e w8 ⟨q, cp, rfl, ⟨m, h8, hm⟩, hc8⟩; have HV8 := hid (HV7.out.chg h8 hc8); have HM8 := hid hm; clear c1 c5 c6 h8 hc8 hm; have c1 := HV8.out.v.wt.c1; have c5 := HV8.out.c5; have c6 := HV8.out.c6)
                  go_quiet (fail)
                  clear HV7
                  go_upto_region 22 with (go_at_call 60; (with_reducible refine ((HV8.out.grown (grownBy_drewN w8 _ none)).v.pushY HS4.out hoz (by have := HM8.out; omega) ak cb (by have := HBl.out; omega) HBs.out (by omega)).mono ?_); rintro e w9 ⟨rfl, ⟨m9, h9, hm9⟩, hc9⟩; have HV9 := hid ((HV8.out.grown (grownBy_drewN w8 _ none)).chg h9 hc9); clear c1 c5 c6 h9 hc9 hm9; have c5 := HV9.out.c5; have c6 := HV9.out.c6; have c0 := HV9.out.v.wt.c0)
                  clear HV8
                  go_upto_region 25 with (go_at_call 53; (with_reducible refine (HV9.out.v.readPg (HS4.out.write7 _ _)).mono ?_); rintro e w10 ⟨nb, rfl, hnb, hnc, h10, g10⟩; have HV10 := hid (HV9.out.grown g10); have HN10 := hid hnc; clear c5 c6 c0 h10 g10 hnc hnb; have c5 := HV10.out.c5; have c6 := HV10.out.c6)
                  clear HV9
                  obtain ⟨wz, hwz⟩ : ∃ x, x = w10 := ⟨_, rfl⟩
                  subst hwz
                  go_wp2
                  go_loopw [30] (fun i wr => ∃ k : Nat, i = .int .i64 k ∧ k ≤ 256 ∧ wr = wz) (fun i _ => 256 - (intOf i).toNat)
                  case atStart => exact ⟨0, rfl, by omega, rfl⟩
                  case round =>
                    obtain ⟨k, rfl, hk, rfl⟩ := hrel
                    have hk0 : (0 : Int) ≤ k := by omega
                    by_cases hlt : k < 256
                    · have hlt' : (k : Int) < 256 := by omega
                      have y1 := HV10.out.ol k hlt
                      have y2 := HN10.out k hlt
                      have hla := HS4.out.laid ak bs (by omega) k hlt
                      rw [hla] at y2
                      clear hla
                      obtain ⟨j, hj⟩ : ∃ j : Int, (k : Int) - o - ak = j := ⟨_, rfl⟩
                      by_cases hk1 : k < o + ak
                      · rw [if_neg (by omega)] at y2
                        have f1 : (k : Int) < (o : Int) + ak := by omega
                        clear hj
                        generalize ((pg7 s).getD k 0).toNat = x at *
                        go_wp2
                        go_roundw
                        case rel => first | exact ⟨k + 1, by go_num, by omega, trivial⟩ | exact ⟨k + 1, by go_num, by omega⟩
                        case measure => simp [intOf]; omega
                      · have f1 : (o : Int) + ak ≤ k := by omega
                        by_cases hk2 : k < o + ak + bs.length
                        · rw [if_pos ⟨by omega, hk2⟩] at y2
                          obtain ⟨b, off, epb, hc⟩ := HBs.out.at (k := k - (o + ak)) (by omega)
                          have hcz := HV10.out.v.wt.g.cell hc (by simp)
                          obtain ⟨jn, hjn⟩ : ∃ jn : Nat, jn = k - (o + ak) := ⟨_, rfl⟩
                          have hj2 : (k : Int) - o - ak = (jn : Int) := by omega
                          have hj3 : (jn : Int) < bs.length := by omega
                          have hj0 : (0 : Int) ≤ jn := by omega
                          rw [← hjn] at hcz y2
                          rw [epb]
                          generalize ((pg7 s).getD k 0).toNat = x at *
                          generalize (bs.getD jn 0).toNat = x2 at *
                          clear hj hjn hc hk1
                          go_wp2
                          go_roundw
                          case rel => first | exact ⟨k + 1, by go_num, by omega, trivial⟩ | exact ⟨k + 1, by go_num, by omega⟩
                          case measure => simp [intOf]; omega
                        · rw [if_neg (by omega)] at y2
                          have f2 : (bs.length : Int) ≤ j := by omega
                          generalize ((pg7 s).getD k 0).toNat = x at *
                          clear hk1 hk2
                          go_wp2
                          go_roundw
                          case rel => first | exact ⟨k + 1, by go_num, by omega, trivial⟩ | exact ⟨k + 1, by go_num, by omega⟩
                          case measure => simp [intOf]; omega
                    · obtain rfl : k = 256 := by omega
                      go_wp2
                      go_ret
                      exact ⟨rfl, HV10.out.v.wt.g⟩
            · have hn0 : 0 ≤ n := by omega
              by_cases hnx : (1 : Int) + z - a < n
              · by_cases hlx : (1 : Int) + z - a < bs.length
                · as_aux_lemma =>
                    have hdn : decide (n ≤ (1 : Int) + z - a) = false := decide_eq_false (by omega)
                    go_upto_region 18 with (go_at_call 58; (with_reducible refine (HV7.out.v.pullR HS4.out hoz (by omega) a n h0 ha2 hn0 (by omega)).mono ?_); rintro e w8 ⟨q, cp, rfl, ⟨m, h8, hm⟩, hc8⟩; have HV8 := hid (HV7.out.chg h8 hc8); have HM8 := hid hm; clear c1 c5 c6 h8 hc8 hm; have c1 := HV8.out.v.wt.c1; have c5 := HV8.out.c5; have c6 := HV8.out.c6)
                    go_quiet (fail)
                    clear HV7
                    go_upto_region 22 with (go_at_call 60; (with_reducible refine ((HV8.out.grown (grownBy_drewN w8 _ none)).v.pushN HS4.out hoz (by have := HM8.out; omega) a h0 ha2 cb (by have := HBl.out; omega) HBs.out (by omega)).mono ?_); rintro e w9 ⟨rfl, ⟨m9, h9, hm9⟩, hc9⟩; have HV9 := hid ((HV8.out.grown (grownBy_drewN w8 _ none)).chg h9 hc9); clear c1 c5 c6 h9 hc9 hm9; have c5 := HV9.out.c5; have c6 := HV9.out.c6; have c0 := HV9.out.v.wt.c0)
                    clear HV8
                    go_upto_region 25 with (go_at_call 53; (with_reducible refine (HV9.out.v.readPg HS4.out).mono ?_); rintro e w10 ⟨nb, rfl, hnb, hnc, h10, g10⟩; have HV10 := hid (HV9.out.grown g10); have HN10 := hid hnc; clear c5 c6 c0 h10 g10 hnc hnb; have c5 := HV10.out.c5; have c6 := HV10.out.c6)
                    clear HV9
                    obtain ⟨wz, hwz⟩ : ∃ x, x = w10 := ⟨_, rfl⟩
                    subst hwz
                    go_wp2
                    go_loopw [30] (fun i wr => ∃ k : Nat, i = .int .i64 k ∧ k ≤ 256 ∧ wr = wz) (fun i _ => 256 - (intOf i).toNat)
                    case atStart => exact ⟨0, rfl, by omega, rfl⟩
                    case round =>
                      obtain ⟨k, rfl, hk, rfl⟩ := hrel
                      have hk0 : (0 : Int) ≤ k := by omega
                      by_cases hlt : k < 256
                      · have hlt' : (k : Int) < 256 := by omega
                        have y1 := HV10.out.ol k hlt
                        have y2 := HN10.out k hlt
                        generalize ((pg7 s).getD k 0).toNat = x at *
                        go_wp2
                        go_roundw
                        case rel => first | exact ⟨k + 1, by go_num, by omega, trivial⟩ | exact ⟨k + 1, by go_num, by omega⟩
                        case measure => simp [intOf]; omega
                      · obtain rfl : k = 256 := by omega
                        go_wp2
                        go_ret
                        exact ⟨rfl, HV10.out.v.wt.g⟩
                · have hlx' : (bs.length : Int) ≤ (1 : Int) + z - a := by omega
                  clear hlx
                  as_aux_lemma =>
                    obtain ⟨ak, rfl⟩ := Int.eq_ofNat_of_zero_le h0
                    have hdn : decide (n ≤ (1 : Int) + z - (ak : Int)) = false := decide_eq_false (by omega)
                    go_upto_region 18 with (go_at_call 58; (with_reducible refine (HV7.out.v.pullR HS4.out hoz (by omega) (ak : Int) n h0 ha2 hn0 (by omega)).mono ?_); rintro e w8 ⟨q, cp, rfl, ⟨m, h8, hm⟩, hc8⟩; have HV8 := hid (HV7.out.chg h8 hc8); have HM8 := hid hm; clear c1 c5 c6 h8 hc8 hm; have c1 := HV8.out.v.wt.c1; have c5 := HV8.out.c5; have c6 := HV8.out.c6)
                    go_quiet (fail)
                    clear HV7
                    go_upto_region 22 with (go_at_call 60; (with_reducible refine ((HV8.out.grown (grownBy_drewN w8 _ none)).v.pushY HS4.out hoz (by have := HM8.out; omega) ak cb (by have := HBl.out; omega) HBs.out (by omega)).mono ?_); rintro e w9 ⟨rfl, ⟨m9, h9, hm9⟩, hc9⟩; have HV9 := hid ((HV8.out.grown (grownBy_drewN w8 _ none)).chg h9 hc9); clear c1 c5 c6 h9 hc9 hm9; have c5 := HV9.out.c5; have c6 := HV9.out.c6; have c0 := HV9.out.v.wt.c0)
                    clear HV8
                    go_upto_region 25 with (go_at_call 53; (with_reducible refine (HV9.out.v.readPg (HS4.out.write7 _ _)).mono ?_); rintro e w10 ⟨nb, rfl, hnb, hnc, h10, g10⟩; have HV10 := hid (HV9.out.grown g10); have HN10 := hid hnc; clear c5 c6 c0 h10 g10 hnc hnb; have c5 := HV10.out.c5; have c6 := HV10.out.c6)
                    clear HV9
                    obtain ⟨wz, hwz⟩ : ∃ x, x = w10 := ⟨_, rfl⟩
                    subst hwz
                    go_wp2
                    go_loopw [30] (fun i wr => ∃ k : Nat, i = .int .i64 k ∧ k ≤ 256 ∧ wr = wz) (fun i _ => 256 - (intOf i).toNat)
                    case atStart => exact ⟨0, rfl, by omega, rfl⟩
                    case round =>
                      obtain ⟨k, rfl, hk, rfl⟩ := hrel
                      have hk0 : (0 : Int) ≤ k := by omega
                      by_cases hlt : k < 256
                      · have hlt' : (k : Int) < 256 := by omega
                        have y1 := HV10.out.ol k hlt
                        have y2 := HN10.out k hlt
                        have hla := HS4.out.laid ak bs (by omega) k hlt
                        rw [hla] at y2
                        clear hla
                        obtain ⟨j, hj⟩ : ∃ j : Int, (k : Int) - o - ak = j := ⟨_, rfl⟩
                        by_cases hk1 : k < o + ak
                        · rw [if_neg (by omega)] at y2
                          have f1 : (k : Int) < (o : Int) + ak := by omega
                          clear hj
                          generalize ((pg7 s).getD k 0).toNat = x at *
                          go_wp2
                          go_roundw
                          case rel => first | exact ⟨k + 1, by go_num, by omega, trivial⟩ | exact ⟨k + 1, by go_num, by omega⟩
                          case measure => simp [intOf]; omega
                        · have f1 : (o : Int) + ak ≤ k := by omega
                          by_cases hk2 : k < o + ak + bs.length
                          · rw [if_pos ⟨by omega, hk2⟩] at y2
                            obtain ⟨b, off, epb, hc⟩ := HBs.out.at (k := k - (o + ak)) (by omega)
                            have hcz := HV10.out.v.wt.g.cell hc (by simp)
                            obtain ⟨jn, hjn⟩ : ∃ jn : Nat, jn = k - (o + ak) := ⟨_, rfl⟩
                            have hj2 : (k : Int) - o - ak = (jn : Int) := by omega
                            have hj3 : (jn : Int) < bs.length := by omega
                            have hj0 : (0 : Int) ≤ jn := by omega
                            rw [← hjn] at hcz y2
                            rw [epb]
                            generalize ((pg7 s).getD k 0).toNat = x at *
                            generalize (bs.getD jn 0).toNat = x2 at *
                            clear hj hjn hc hk1
                            go_wp2
                            go_roundw
                            case rel => first | exact ⟨k + 1, by go_num, by omega, trivial⟩ | exact ⟨k + 1, by go_num, by omega⟩
                            case measure => simp [intOf]; omega
                          · rw [if_neg (by omega)] at y2
                            have f2 : (bs.length : Int) ≤ j := by omega
                            generalize ((pg7 s).getD k 0).toNat = x at *
                            clear hk1 hk2
                            go_wp2
                            go_roundw
                            case rel => first | exact ⟨k + 1, by go_num, by omega, trivial⟩ | exact ⟨k + 1, by go_num, by omega⟩
                            case measure => simp [intOf]; omega
                      · obtain rfl : k = 256 := by omega
                        go_wp2
                        go_ret
                        exact ⟨rfl, HV10.out.v.wt.g⟩
              · have hnx' : n ≤ (1 : Int) + z - a := by omega
                clear hnx
                by_cases hlx : (1 : Int) + z - a < bs.length
                · as_aux_lemma =>
                    obtain ⟨ak, rfl⟩ := Int.eq_ofNat_of_zero_le h0
                    obtain ⟨nk, rfl⟩ := Int.eq_ofNat_of_zero_le hn0
                    go_upto_region 18 with (go_at_call 58; (with_reducible refine (HV7.out.v.pullY HS4.out hoz (by omega) ak nk (by omega)).mono ?_); rintro e w8 ⟨q, cp, rfl, hk8, ⟨m, h8, hm⟩, hc8⟩; have HV8 := hid (HV7.out.chg h8 hc8); have HM8 := hid hm; have HK8 := hid hk8; clear c1 c5 c6 h8 hc8 hm hk8; have c1 := HV8.out.v.wt.c1; have c5 := HV8.out.c5; have c6 := HV8.out.c6)
                    have hL : (((pg7 s).drop (o + ak)).take nk).length = nk := by rw [List.length_take, List.length_drop, pg7_len]; omega
                    have hcp := fun (i : Nat) => kept_string HK8.out cp (w8.drewN i) (grownBy_drewN w8 i none)
                    rw [hL] at hcp
                    obtain ⟨pq, cq', hsl, hco⟩ := old_part (w := w8) (ob := ob) (x := o + ak) (y := nk) (O := pg7 s) (pg7_len s) HV8.out.ol (by omega)
                    have e1 : ((o + ak : Nat) : Int) = (o : Int) + ak := by omega
                    rw [e1] at hsl
                    clear e1 hL
                    go_quiet (fail)
                    clear hsl hco hcp
                    clear HV7
                    go_upto_region 22 with (go_at_call 60; (with_reducible refine ((HV8.out.grown (grownBy_drewN w8 _ none)).v.pushN HS4.out hoz (by have := HM8.out; omega) (ak : Int) h0 ha2 cb (by have := HBl.out; omega) HBs.out (by omega)).mono ?_); rintro e w9 ⟨rfl, ⟨m9, h9, hm9⟩, hc9⟩; have HV9 := hid ((HV8.out.grown (grownBy_drewN w8 _ none)).chg h9 hc9); clear c1 c5 c6 h9 hc9 hm9; have c5 := HV9.out.c5; have c6 := HV9.out.c6; have c0 := HV9.out.v.wt.c0)
                    clear HV8
                    go_upto_region 25 with (go_at_call 53; (with_reducible refine (HV9.out.v.readPg HS4.out).mono ?_); rintro e w10 ⟨nb, rfl, hnb, hnc, h10, g10⟩; have HV10 := hid (HV9.out.grown g10); have HN10 := hid hnc; clear c5 c6 c0 h10 g10 hnc hnb; have c5 := HV10.out.c5; have c6 := HV10.out.c6)
                    clear HV9
                    obtain ⟨wz, hwz⟩ : ∃ x, x = w10 := ⟨_, rfl⟩
                    subst hwz
                    go_wp2
                    go_loopw [30] (fun i wr => ∃ k : Nat, i = .int .i64 k ∧ k ≤ 256 ∧ wr = wz) (fun i _ => 256 - (intOf i).toNat)
                    case atStart => exact ⟨0, rfl, by omega, rfl⟩
                    case round =>
                      obtain ⟨k, rfl, hk, rfl⟩ := hrel
                      have hk0 : (0 : Int) ≤ k := by omega
                      by_cases hlt : k < 256
                      · have hlt' : (k : Int) < 256 := by omega
                        have y1 := HV10.out.ol k hlt
                        have y2 := HN10.out k hlt
                        generalize ((pg7 s).getD k 0).toNat = x at *
                        go_wp2
                        go_roundw
                        case rel => first | exact ⟨k + 1, by go_num, by omega, trivial⟩ | exact ⟨k + 1, by go_num, by omega⟩
                        case measure => simp [intOf]; omega
                      · obtain rfl : k = 256 := by omega
                        go_wp2
                        go_ret
                        exact ⟨rfl, HV10.out.v.wt.g⟩
                · have hlx' : (bs.length : Int) ≤ (1 : Int) + z - a := by omega
                  clear hlx
                  as_aux_lemma =>
                    obtain ⟨ak, rfl⟩ := Int.eq_ofNat_of_zero_le h0
                    obtain ⟨nk, rfl⟩ := Int.eq_ofNat_of_zero_le hn0
                    go_upto_region 18 with (go_at_call 58; (with_reducible refine (HV7.out.v.pullY HS4.out hoz (by omega) ak nk (by omega)).mono ?_); rintro e w8 ⟨q, cp, rfl, hk8, ⟨m, h8, hm⟩, hc8⟩; have HV8 := hid (HV7.out.chg h8 hc8); have HM8 := hid hm; have HK8 := hid hk8; clear c1 c5 c6 h8 hc8 hm hk8; have c1 := HV8.out.v.wt.c1; have c5 := HV8.out.c5; have c6 := HV8.out.c6)
                    have hL : (((pg7 s).drop (o + ak)).take nk).length = nk := by rw [List.length_take, List.length_drop, pg7_len]; omega
                    have hcp := fun (i : Nat) => kept_string HK8.out cp (w8.drewN i) (grownBy_drewN w8 i none)
                    rw [hL] at hcp
                    obtain ⟨pq, cq', hsl, hco⟩ := old_part (w := w8) (ob := ob) (x := o + ak) (y := nk) (O := pg7 s) (pg7_len s) HV8.out.ol (by omega)
                    have e1 : ((o + ak : Nat) : Int) = (o : Int) + ak := by omega
                    rw [e1] at hsl
                    clear e1 hL
                    go_quiet (fail)
                    clear hsl hco hcp
                    clear HV7
                    go_upto_region 22 with (go_at_call 60; (with_reducible refine ((HV8.out.grown (grownBy_drewN w8 _ none)).v.pushY HS4.out hoz (by have := HM8.out; omega) ak cb (by have := HBl.out; omega) HBs.out (by omega)).mono ?_); rintro e w9 ⟨rfl, ⟨m9, h9, hm9⟩, hc9⟩; have HV9 := hid ((HV8.out.grown (grownBy_drewN w8 _ none)).chg h9 hc9); clear c1 c5 c6 h9 hc9 hm9; have c5 := HV9.out.c5; have c6 := HV9.out.c6; have c0 := HV9.out.v.wt.c0)
                    clear HV8
                    go_upto_region 25 with (go_at_call 53; (with_reducible refine (HV9.out.v.readPg (HS4.out.write7 _ _)).mono ?_); rintro e w10 ⟨nb, rfl, hnb, hnc, h10, g10⟩; have HV10 := hid (HV9.out.grown g10); have HN10 := hid hnc; clear c5 c6 c0 h10 g10 hnc hnb; have c5 := HV10.out.c5; have c6 := HV10.out.c6)
                    clear HV9
                    obtain ⟨wz, hwz⟩ : ∃ x, x = w10 := ⟨_, rfl⟩
                    subst hwz
                    go_wp2
                    go_loopw [30] (fun i wr => ∃ k : Nat, i = .int .i64 k ∧ k ≤ 256 ∧ wr = wz) (fun i _ => 256 - (intOf i).toNat)
                    case atStart => exact ⟨0, rfl, by omega, rfl⟩
                    case round =>
                      obtain ⟨k, rfl, hk, rfl⟩ := hrel
                      have hk0 : (0 : Int) ≤ k := by omega
                      by_cases hlt : k < 256
                      · have hlt' : (k : Int) < 256 := by omega
                        have y1 := HV10.out.ol k hlt
                        have y2 := HN10.out k hlt
                        have hla := HS4.out.laid ak bs (by omega) k hlt
                        rw [hla] at y2
                        clear hla
                        obtain ⟨j, hj⟩ : ∃ j : Int, (k : Int) - o - ak = j := ⟨_, rfl⟩
                        by_cases hk1 : k < o + ak
                        · rw [if_neg (by omega)] at y2
                          have f1 : (k : Int) < (o : Int) + ak := by omega
                          clear hj
                          generalize ((pg7 s).getD k 0).toNat = x at *
                          go_wp2
                          go_roundw
                          case rel => first | exact ⟨k + 1, by go_num, by omega, trivial⟩ | exact ⟨k + 1, by go_num, by omega⟩
                          case measure => simp [intOf]; omega
                        · have f1 : (o : Int) + ak ≤ k := by omega
                          by_cases hk2 : k < o + ak + bs.length
                          · rw [if_pos ⟨by omega, hk2⟩] at y2
                            obtain ⟨b, off, epb, hc⟩ := HBs.out.at (k := k - (o + ak)) (by omega)
                            have hcz := HV10.out.v.wt.g.cell hc (by simp)
                            obtain ⟨jn, hjn⟩ : ∃ jn : Nat, jn = k - (o + ak) := ⟨_, rfl⟩
                            have hj2 : (k : Int) - o - ak = (jn : Int) := by omega
                            have hj3 : (jn : Int) < bs.length := by omega
                            have hj0 : (0 : Int) ≤ jn := by omega
                            rw [← hjn] at hcz y2
                            rw [epb]
                            generalize ((pg7 s).getD k 0).toNat = x at *
                            generalize (bs.getD jn 0).toNat = x2 at *
                            clear hj hjn hc hk1
                            go_wp2
                            go_roundw
                            case rel => first | exact ⟨k + 1, by go_num, by omega, trivial⟩ | exact ⟨k + 1, by go_num, by omega⟩
                            case measure => simp [intOf]; omega
                          · rw [if_neg (by omega)] at y2
                            have f2 : (bs.length : Int) ≤ j := by omega
                            generalize ((pg7 s).getD k 0).toNat = x at *
                            clear hk1 hk2
                            go_wp2
                            go_roundw
                            case rel => first | exact ⟨k + 1, by go_num, by omega, trivial⟩ | exact ⟨k + 1, by go_num, by omega⟩
                            case measure => simp [intOf]; omega
                      · obtain rfl : k = 256 := by omega
                        go_wp2
                        go_ret
                        exact ⟨rfl, HV10.out.v.wt.g⟩
theorem main {H : Type} {enc : TypeId × Value → H} (v0 v1 v2 v3 v4 : Value) (W : World) (c0 : Flat.Came enc Try.prog W 0 (fun _ => true) true 5 v0) (c1 : Flat.Came enc Try.prog W 0 (fun _ => true) true 5 v1) (c2 : Flat.Came enc Try.prog W 0 (fun _ => true) true 3 v2) (c3 : Flat.Came enc Try.prog W 0 (fun _ => true) true 3 v3) (c4 : Flat.Came enc Try.prog W 0 (fun _ => true) true 31 v4) :
    Calls Try.prog 11 #[v0, v1, v2, v3, v4] W fun e w' => e = .returned (.bool true) ∧ W.grownBy w' none := by
  obtain ⟨o, rfl, wo⟩ := c0.int Try.underlying5
  obtain ⟨z, rfl, wz⟩ := c1.int Try.underlying5
  obtain ⟨a, rfl, wa⟩ := c2.int Try.underlying3
  obtain ⟨n, rfl, wn⟩ := c3.int Try.underlying3
  obtain ⟨pb, bs, cb, rfl, hbs, hbl⟩ := came_bytes c4
  have bo := bounds_u8 wo
  have bz := bounds_u8 wz
  have ba := bounds_i64 wa
  have bn := bounds_i64 wn
  obtain ⟨on, rfl⟩ := Int.eq_ofNat_of_zero_le bo.1
  obtain ⟨zn, rfl⟩ := Int.eq_ofNat_of_zero_le bz.1
  exact walk on zn (by omega) (by omega) a n (by omega) (by omega) (by omega) (by omega) pb cb bs W hbs hbl

theorem own : ownKnob Try.prog.godebug = none := by kernel_rfl
theorem laidOut : laidOutB Try.prog = true := by kernel_rfl

set_option maxRecDepth 100000 in
theorem lifted (os : Os) (started : os.Started) (H : Type) (enc : TypeId × Value → H) :
    ReturnsInHanded {} Try.checked os 11 .any (Rows.grantRangeSpec.pre6 enc Try.prog Try.f11 Rows.grantRangeRow.domain false) (Rows.grantRangeSpec.post enc Try.prog Try.f11 false true false false) := by
  refine returnsInHanded_of_change_sized (C := Try.checked) own started (by kernel_rfl) Try.func11
    (ChangeSpec.witness6 (enc := enc) (C := Try.checked) false ⟨#[], #[.int .u8 0, .int .u8 0, .int .i64 0, .int .i64 0, .slice none 0 0], []⟩ 8 (by kernel_rfl) (by kernel_rfl) (by kernel_rfl) (by kernel_rfl)) ?_
  intro W base args ds gs before hval0 hW _ hsz0 _
  have hsz : (DataW.weightsEach Try.prog (Try.f11.params.toList ++ Rows.grantRangeSpec.plain.varTypes Try.prog) (ds ++ gs)).all (· ≤ reachBytes) = true := hsz0
  clear hsz0
  have hval : ∀ (j : Nat) t v, Try.f11.params[j]? = some t → args[j]? = some v → Value.okWide Try.prog W .any base t v := hval0
  have hW' := hW
  obtain ⟨p, q, hA0, hV, rfl, hfz, hnd⟩ := hW
  have hA : DataW.TrodAll enc Try.prog W 0 (fun _ => true) true Try.f11.params.toList args.toList ds p := hA0
  rw [Try.params11] at hA hval hsz
  obtain ⟨v0, vs0, d0, ds0, p0, q0, hargs, rfl, rfl, h0, r0⟩ := trodAll_cons hA
  obtain ⟨v1, vs1, d1, ds1, p1, q1, rfl, rfl, rfl, h1, r1⟩ := trodAll_cons r0
  obtain ⟨v2, vs2, d2, ds2, p2, q2, rfl, rfl, rfl, h2, r2⟩ := trodAll_cons r1
  obtain ⟨v3, vs3, d3, ds3, p3, q3, rfl, rfl, rfl, h3, r3⟩ := trodAll_cons r2
  obtain ⟨v4, vs4, d4, ds4, p4, q4, rfl, rfl, rfl, h4, r4⟩ := trodAll_cons r3
  obtain ⟨rfl, rfl, rfl⟩ := trodAll_nil r4
  obtain rfl : args = #[v0, v1, v2, v3, v4] := by cases args; simp_all
  obtain ⟨rfl, rfl⟩ := trodVars_none hV
  obtain ⟨a0, rfl, rfl, rfl, w0⟩ := open_int Try.underlying5 (hval 0 5 v0 rfl rfl) h0
  have k0 := h0
  have lt0 : ∀ x ∈ ([] : List MemPlace), x.block < W.heap.size := by obtain ⟨m, hm⟩ := k0; exact DataW.trod_lt m _ _ _ hm
  have c0 : Flat.Came enc Try.prog W 0 (fun _ => true) true 5 (.int .u8 a0) := by
    obtain ⟨fuel, hf⟩ := h0
    exact ⟨fuel, _, hf, fun n hn => by
      have := List.all_eq_true.1 hsz n (DataW.weights_mem_each (j := 0) rfl rfl n hn)
      simpa using this⟩
  obtain ⟨a1, rfl, rfl, rfl, w1⟩ := open_int Try.underlying5 (hval 1 5 v1 rfl rfl) h1
  have k1 := h1
  have lt1 : ∀ x ∈ ([] : List MemPlace), x.block < W.heap.size := by obtain ⟨m, hm⟩ := k1; exact DataW.trod_lt m _ _ _ hm
  have c1 : Flat.Came enc Try.prog W 0 (fun _ => true) true 5 (.int .u8 a1) := by
    obtain ⟨fuel, hf⟩ := h1
    exact ⟨fuel, _, hf, fun n hn => by
      have := List.all_eq_true.1 hsz n (DataW.weights_mem_each (j := 1) rfl rfl n hn)
      simpa using this⟩
  obtain ⟨a2, rfl, rfl, rfl, w2⟩ := open_int Try.underlying3 (hval 2 3 v2 rfl rfl) h2
  have k2 := h2
  have lt2 : ∀ x ∈ ([] : List MemPlace), x.block < W.heap.size := by obtain ⟨m, hm⟩ := k2; exact DataW.trod_lt m _ _ _ hm
  have c2 : Flat.Came enc Try.prog W 0 (fun _ => true) true 3 (.int .i64 a2) := by
    obtain ⟨fuel, hf⟩ := h2
    exact ⟨fuel, _, hf, fun n hn => by
      have := List.all_eq_true.1 hsz n (DataW.weights_mem_each (j := 2) rfl rfl n hn)
      simpa using this⟩
  obtain ⟨a3, rfl, rfl, rfl, w3⟩ := open_int Try.underlying3 (hval 3 3 v3 rfl rfl) h3
  have k3 := h3
  have lt3 : ∀ x ∈ ([] : List MemPlace), x.block < W.heap.size := by obtain ⟨m, hm⟩ := k3; exact DataW.trod_lt m _ _ _ hm
  have c3 : Flat.Came enc Try.prog W 0 (fun _ => true) true 3 (.int .i64 a3) := by
    obtain ⟨fuel, hf⟩ := h3
    exact ⟨fuel, _, hf, fun n hn => by
      have := List.all_eq_true.1 hsz n (DataW.weights_mem_each (j := 3) rfl rfl n hn)
      simpa using this⟩
  obtain ⟨ps4, ln4, cp4, rfl⟩ := okWide_slice Try.underlying31 (hval 4 31 v4 rfl rfl)
  have k4 := h4
  have lt4 : ∀ x ∈ p4, x.block < W.heap.size := by obtain ⟨m, hm⟩ := k4; exact DataW.trod_lt m _ _ _ hm
  have c4 : Flat.Came enc Try.prog W 0 (fun _ => true) true 31 (.slice ps4 ln4 cp4) := by
    obtain ⟨fuel, hf⟩ := h4
    exact ⟨fuel, _, hf, fun n hn => by
      have := List.all_eq_true.1 hsz n (DataW.weights_mem_each (j := 4) rfl rfl n hn)
      simpa using this⟩
  clear hA0 hval0
  refine (main (.int .u8 a0) (.int .u8 a1) (.int .i64 a2) (.int .i64 a3) (.slice ps4 ln4 cp4) W c0 c1 c2 c3 c4).mono fun e W' ⟨he, hg⟩ => ?_
  subst he
  have bel := below_grown' hg
  simp only [List.append_nil, List.nil_append] at hW'
  exact ⟨_, rfl, _, _, _, [], _, [], hW', trodAll_mk1 (shut_bool Try.underlying4 _), (trodAll_cons_mk (Below.trod laidOut (by kernel_rfl) (of_decide_eq_true (by kernel_rfl)) k0 bel lt0) (trodAll_cons_mk (Below.trod laidOut (by kernel_rfl) (of_decide_eq_true (by kernel_rfl)) k1 bel lt1) (trodAll_cons_mk (Below.trod laidOut (by kernel_rfl) (of_decide_eq_true (by kernel_rfl)) k2 bel lt2) (trodAll_cons_mk (Below.trod laidOut (by kernel_rfl) (of_decide_eq_true (by kernel_rfl)) k3 bel lt3) (trodAll_cons_mk (Below.trod laidOut (by kernel_rfl) (of_decide_eq_true (by kernel_rfl)) k4 bel lt4) trodAll_mk0))))), rfl, bel.frame _, fun h => by cases h⟩

theorem proved : Rows.GrantRangeSaid :=
  OpenClaim.holds_of_wide 11 Try.f11 rfl rfl rfl rfl rfl rfl rfl ⟨rfl, rfl, rfl, rfl, rfl⟩ rfl rfl rfl rfl rfl (by kernel_rfl) Try.func11 (by kernel_rfl)
    (of_decide_eq_true (by kernel_rfl)) (by unfold Func.isWrapper; first | (rw [if_pos (by decide +kernel)]; kernel_rfl) | (rw [if_neg (by decide +kernel)]; exact ⟨rfl, rfl⟩))
    (fun os started H enc _ => lifted os started H enc)
#print axioms proved

end Go.Proofs.Ytkdoaidcmmehoaa.lawGrRange
