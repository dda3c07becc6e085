/-
  BridgeCounts: for every number and every script the law returns true, and what was there stays. No condition.
-/
import Derived.Test.YtakofhhfdgankaaBrOp
import Derived.Test.YtakofhhfdgankaaBrMo
import Derived.Test.YtakofhhfdgankaaBrO
import Derived.Test.YtakofhhfdgankaaOpen
import Derived.Test.YtakofhhfdgankaaLift
import Derived.OpenShut
import Derived.Deep.Cut
set_option linter.unusedSimpArgs false
set_option linter.unusedVariables false
namespace Go.Proofs.Ytakofhhfdgankaa.lawBrCounts
open Go.ChangeShapes Go.WideShapes Go.ChangeAt Go.RowKit Gen Br Bk
set_option maxHeartbeats 16000000

/-- the numbers as cells -/
def ctc (s : Sd) : Nat → Value
  | 0 => .int .i64 s.taken
  | 1 => .int .i64 s.fw
  | 2 => .int .i64 s.mal
  | 3 => .int .i64 s.noCr
  | 4 => .int .i64 s.dir
  | 5 => .int .i64 s.del
  | 6 => .int .i64 s.q.length
  | 7 => .int .i64 s.noBuf
  | _ => .int .i64 s.full
def ocell (F : Nat → Sd) (j : Nat) : Value := ctc (F (j / 9)) (j % 9)
theorem ocell_at (F : Nat → Sd) {k f : Nat} (hf : f < 9) : ocell F (k * 9 + f) = ctc (F k) f := by
  unfold ocell
  rw [show (k * 9 + f) / 9 = k by omega, show (k * 9 + f) % 9 = f by omega]
theorem Row_step {w : World} {g : Nat} {t : TypeId} {N o m : Nat} {v X : Nat → Value} (h : Row w g t N (fun j => if o ≤ j ∧ j < o + m then v (j - o) else X j)) :
    Row (w.setCell ⟨g, o + m, none⟩ (v m)) g t N (fun j => if o ≤ j ∧ j < o + (m + 1) then v (j - o) else X j) :=
  h.set (by rw [if_pos ⟨by omega, by omega⟩]; congr 1; omega) (fun j _ hne => by
    by_cases e : o ≤ j ∧ j < o + m
    · rw [if_pos e, if_pos ⟨e.1, by omega⟩]
    · rw [if_neg e, if_neg (by omega)])
def set9 (w : World) (b o : Nat) (s : Sd) : World := ((((((((w.setCell ⟨b, o, none⟩ (.int .i64 s.taken)).setCell ⟨b, o + 1, none⟩ (.int .i64 s.fw)).setCell ⟨b, o + 2, none⟩ (.int .i64 s.mal)).setCell ⟨b, o + 3, none⟩ (.int .i64 s.noCr)).setCell ⟨b, o + 4, none⟩ (.int .i64 s.dir)).setCell ⟨b, o + 5, none⟩ (.int .i64 s.del)).setCell ⟨b, o + 6, none⟩ (.int .i64 s.q.length)).setCell ⟨b, o + 7, none⟩ (.int .i64 s.noBuf)).setCell ⟨b, o + 8, none⟩ (.int .i64 s.full)
theorem lay9 {w : World} {g N k : Nat} {t : TypeId} {F : Nat → Sd} (h : Row w g t (N * 9) (ocell F)) (s : Sd) :
    Row (set9 w g (k * 9) s) g t (N * 9) (ocell (fun i => if i = k then s else F i)) ∧ w.grownBy (set9 w g (k * 9) s) (some g) := by
  have h0 : Row w g t (N * 9) (fun j => if k * 9 ≤ j ∧ j < k * 9 + 0 then ctc s (j - k * 9) else ocell F j) := h.congr fun j _ => by rw [if_neg (by omega)]
  have h9 := Row_step (Row_step (Row_step (Row_step (Row_step (Row_step (Row_step (Row_step (Row_step h0))))))))
  refine ⟨h9.congr fun j hj => ?_, ?_⟩
  · show ctc (if j / 9 = k then s else F (j / 9)) (j % 9) = (if k * 9 ≤ j ∧ j < k * 9 + 9 then ctc s (j - k * 9) else ctc (F (j / 9)) (j % 9))
    by_cases e : j / 9 = k
    · rw [if_pos e, if_pos ⟨by omega, by omega⟩]
      congr 1
      omega
    · rw [if_neg e, if_neg (by omega)]
  · exact ((((((((grownBy_setCell w g _ none _).trans (grownBy_setCell _ g _ none _)).trans (grownBy_setCell _ g _ none _)).trans (grownBy_setCell _ g _ none _)).trans (grownBy_setCell _ g _ none _)).trans (grownBy_setCell _ g _ none _)).trans (grownBy_setCell _ g _ none _)).trans (grownBy_setCell _ g _ none _)).trans (grownBy_setCell _ g _ none _)
theorem info_ct : (Try.prog.info? 39).map (fun i => (i.zero, i.size, i.bytes)) = some (some (.agg (ctC 0 0 0 0 0 0 0 0 0)), 9, 72) := by kernel_rfl
theorem make_cts (W : World) (n : Nat) (hn : n ≤ 8) : ∃ cs : Array Value, (Instr.makeSlice 37 (.int .i64 n) (.int .i64 n)).run Try.prog W = .ok (.slice (some ⟨W.heap.size, 0, none⟩) n n) (W.alloc (.cells cs 39)) ∧ Row (W.alloc (.cells cs 39)) W.heap.size 39 (n * 9) (ocell fun _ => Sd.zero) := by
  obtain ⟨i0, hi, hz0, hz1, hz2⟩ := info_parts info_ct
  have hr := run_make W 37 39 i0 (.agg (ctC 0 0 0 0 0 0 0 0 0)) Try.underlying37 hi hz0 .i64 .i64 n n (by omega) (by omega) (by rw [hz2]; omega) (by omega)
  rw [hz1] at hr
  simp only [Int.toNat_natCast] at hr
  refine ⟨_, hr, _, heap_alloc_new W _, by rw [size_madeCells]; omega, fun k hk => ?_⟩
  have hm : k % 9 < 9 := Nat.mod_lt _ (by decide)
  simp only [madeCells, Value.cells]
  rw [Array.getElem?_map, Array.getElem?_range, if_pos hk]
  simp only [Option.map_some, Option.some.injEq]
  have hs : (ctC 0 0 0 0 0 0 0 0 0).size = 9 := rfl
  rw [hs]
  unfold ocell
  obtain ⟨f, hf⟩ : ∃ f, k % 9 = f := ⟨_, rfl⟩
  rw [hf] at hm ⊢
  match f, hm with | 0, _ => rfl | 1, _ => rfl | 2, _ => rfl | 3, _ => rfl | 4, _ => rfl | 5, _ => rfl | 6, _ => rfl | 7, _ => rfl | 8, _ => rfl
theorem ocell_next {F G : Nat → Sd} {j : Nat} {s : Sd} (h : F j = s) (k : Nat) : ocell (fun i => if i < j + 1 then F i else G i) k = ocell (fun i => if i = j then s else if i < j then F i else G i) k := by
  unfold ocell
  congr 1
  by_cases e : k / 9 = j
  · rw [e]
    simp [h]
  · by_cases l : k / 9 < j
    · simp only [e, l, if_true, if_false]
      rw [if_pos (by omega)]
    · simp only [e, l, if_false]
      rw [if_neg (by omega)]
/-- the nine cells of a port -/
theorem nine {w : World} {g N k : Nat} {t : TypeId} {F : Nat → Sd} (h : Row w g t (N * 9) (ocell F)) (hk : k < N) (f : Nat) (hf : f < 9) : w.cell? ⟨g, k * 9 + f, none⟩ = some (ctc (F k) f) := by
  rw [h.cell (k := k * 9 + f) (by omega), ocell_at _ hf]
set_option maxRecDepth 100000 in
theorem walk (x : Nat) (hx : x ≤ 255) (pa : Option Addr) (ops : List OpV) (cap : Nat) (w : World) (ho : OpsIn w pa ops) (hol : ops.length ≤ 140737488351232) :
    Calls Try.prog 4 #[.int .u8 x, .slice pa ops.length cap] w fun e w' => e = .returned (.bool true) ∧ w.grownBy w' none := by
  obtain ⟨N, hN⟩ : ∃ N, 1 + x % 8 = N := ⟨_, rfl⟩
  have hNi : (1 : Int) + (x : Int) % 8 = N := by omega
  have hN1 : 1 ≤ N := by omega
  have hN8 : N ≤ 8 := by omega
  have HN := hid (cNew N hN1 hN8 w)
  have HNN := hid (And.intro hN1 hN8)
  have HO := hid ho
  have HOL := hid hol
  have HW := hid cAwake
  have HMk := hid (fun W => make_cts W N hN8)
  clear ho hol hN
  go_enter Try.func4, Try.ntmps4
  go_wp2_with (first
    | (go_at_call 9; (with_reducible refine HN.out.mono ?_); rintro e w1 ⟨b, lab, rfl, h1⟩; have HQ := hid (qNew h1 HNN.out.1 HNN.out.2); clear h1)
    | (go_at_call 10; (with_reducible refine HQ.out.mono ?_); rintro e w2 ⟨y, lab2, rfl, h2⟩; have H2 := hid h2; obtain ⟨cs, hmk, hrw⟩ := HMk.out w2; have HRw := hid hrw; clear h2 hrw))
  have H3 := hid (H2.out.fresh9 (World.grownBy_alloc w2 (.cells cs 39) none))
  have HD := hid (lab9_new lab2 w2 (Nat.le_refl w2.heap.size))
  obtain ⟨D, hD⟩ : ∃ D, w2.heap.size = D := ⟨_, rfl⟩
  rw [hD] at HRw HD ⊢
  clear HN HQ H2 HMk hmk hD
  go_loopw [11] (fun i wr => ∃ (k : Nat) (lab : Nat → Nat) (S : Sw), i = .int .i64 k ∧ k ≤ ops.length ∧ BX w lab wr b y S S k ∧ S.n = N ∧ lab D = 99 ∧ Row wr D 39 (N * 9) (ocell S.P)) (fun i _ => ops.length - (intOf i).toNat)
  case atStart => exact ⟨0, _, _, rfl, by omega, H3.out, rfl, HD.out, HRw.out⟩
  case round =>
    clear H3 HRw HD
    obtain ⟨k, lab, S, rfl, hk, hb, hn, hD, hrw⟩ := hrel
    have H := hid hb
    have HS := hid (And.intro hn hD)
    have HRw := hid hrw
    have hm := HOL.out
    clear hb hn hD hrw
    have hk0 : (0 : Int) ≤ k := by omega
    by_cases hlt : k < ops.length
    · have hlt' : (k : Int) < ops.length := by omega
      obtain ⟨pb, off, rfl, o0, o1, o2, o3, o4, o5, hfit⟩ := HO.out k hlt
      obtain ⟨o, hoq⟩ : ∃ o, ops[k] = o := ⟨_, rfl⟩
      rw [hoq] at o0 o1 o2 o3 o4 o5 hfit
      have HPl := hid (lPlay H.out (by omega) o hfit)
      have HLe := hid (fun i => S.le_go o i)
      have HGn := hid ((S.go_n o).trans HS.out.1)
      obtain ⟨S1, hS1⟩ : ∃ S1, o.go S = S1 := ⟨_, rfl⟩
      rw [hS1] at HPl HLe HGn
      obtain ⟨what, xa, xb, xc, on, bp, bl, bc⟩ := o
      simp only [OpV.val] at o0 o1 o2 o3 o4 o5 HPl
      have g := H.out.g0
      have c0 := g.cell o0 (by simp)
      have c1 := g.cell o1 (by simp)
      have c2 := g.cell o2 (by simp)
      have c3 := g.cell o3 (by simp)
      have c4 := g.cell o4 (by simp)
      have c5 := g.cell o5 (by simp)
      clear hoq o0 o1 o2 o3 o4 o5 hfit g hS1
      go_wp2_with (go_at_call 11; (with_reducible refine HPl.out.mono ?_); rintro e w4 ⟨rfl, lab4, h4, st4⟩; have H4 := hid h4; have HRw4 := hid (st4.row HRw.out (by rw [HS.out.2]; exact not_SX99)); have HD4 := hid ((st4.keep _ HRw.out.lt).trans HS.out.2); clear h4 st4)
      go_loopw [12] (fun i wr => ∃ (j : Nat), i = .int .i64 j ∧ j ≤ N ∧ BX w lab4 wr b y S1 S1 (k + 1) ∧ Row wr D 39 (N * 9) (ocell fun i => if i < j then S1.P i else S.P i)) (fun i _ => N - (intOf i).toNat)
      case atStart => exact ⟨0, rfl, by omega, H4.out, HRw4.out⟩
      case round =>
        clear H4 HRw4 HRw H HPl
        obtain ⟨j, rfl, hj, hb, hrw⟩ := hrel
        have H := hid hb
        have HRw := hid hrw
        clear hb hrw
        have hj0 : (0 : Int) ≤ j := by omega
        have hN8' := HNN.out.2
        by_cases hjl : j < N
        · have hjl' : (j : Int) < N := by omega
          have hjn : j < S1.n := by rw [HGn.out]; exact hjl
          have ok := H.out.ok.sd j hjn
          have hT := H.out.ok.T62
          have le := HLe.out j
          have HC := hid (pCounts H.out j)
          have hcE : S1.countsE j = ((S1.P j).cts, 0) := by unfold Sw.countsE; rw [if_pos (Sw.is_mk hjn), Int.toNat_natCast]
          rw [hcE] at HC
          have HCr := hid (fun (W : World) (hW : wr.grownBy W none) => pCredit (H.out.more hW) j)
          rw [S1.creditE_at hjn] at HCr
          have HNi := hid (fun (W : World) (hW : wr.grownBy W none) => nine (HRw.out.grown hW (by simp)) hjl)
          have HFz := hid (fun (W : World) (hW : wr.grownBy W none) => (HRw.out.grown hW (by simp)).frozen)
          have HLay := hid (fun (W : World) (hW : wr.grownBy W none) => lay9 (k := j) (HRw.out.grown hW (by simp)) (S1.P j))
          simp only [Nat.lt_irrefl, if_false] at HNi
          obtain ⟨s, hs⟩ : ∃ s, S1.P j = s := ⟨_, rfl⟩
          obtain ⟨z, hz⟩ : ∃ z, S.P j = z := ⟨_, rfl⟩
          have HSj := hid hs
          rw [hs] at HC HCr ok le HLay
          rw [hz] at HNi le
          clear hcE hs hz hjn
          obtain ⟨i1, i2, i3, i4, i5, i6, i7, -, -⟩ := ok
          obtain ⟨l1, l2, l3, l4, l5, l6, l7⟩ := le
          unfold Sd.cts at HC
          obtain ⟨cr, bu, ra, q, tk, fw, mal, nc, dr, dl, nb, fl⟩ := s
          obtain ⟨cr', bu', ra', q', tk', fw', mal', nc', dr', dl', nb', fl'⟩ := z
          simp only at HC HCr i1 i2 i3 i4 i5 i6 i7 l1 l2 l3 l4 l5 l6 l7
          obtain ⟨n, hn⟩ : ∃ n, q.length = n := ⟨_, rfl⟩
          have Hn := hid hn
          rw [hn] at HC i2 i5
          clear hn
          obtain ⟨s1, hs1⟩ : ∃ s1, fw + mal = s1 := ⟨_, rfl⟩
          obtain ⟨s2, hs2⟩ : ∃ s2, dl + n = s2 := ⟨_, rfl⟩
          obtain ⟨s3, hs3⟩ : ∃ s3, s2 + nb = s3 := ⟨_, rfl⟩
          have e1 : (fw : Int) + mal = s1 := by omega
          have e2 : (s1 : Int) + nc = tk := by omega
          have e3 : (dl : Int) + n = s2 := by omega
          have e4 : (s2 : Int) + nb = s3 := by omega
          have e5 : (s3 : Int) + fl = dr := by omega
          have g1 : decide ((4 : Int) < n) = false := by simp <;> omega
          have g2 : decide ((n : Int) < 0) = false := by simp <;> omega
          have g3 : decide ((cr : Int) < 0) = false := by simp <;> omega
          have b1 : s1 ≤ tk := by omega
          have b2 : s2 ≤ s3 := by omega
          have b3 : s3 ≤ dr := by omega
          clear hs1 hs2 hs3 i1 i2
          go_upto_region 15 with (first
            | (go_at_call 14; (with_reducible refine HC.out.mono ?_); rintro e w5 ⟨rfl, g5'⟩; have G5 := hid g5'; clear g5')
            | (refine wpList_alloc_ct (w := w5) rfl rfl ?_; intro w6 hs6 hb6 hg6; have B6 := hid hb6; have G6 := hid (G5.out.trans hg6); clear hs6 hb6 hg6)
            | (refine wpList_store_ct (w := w6) rfl (.tmp 13) (.tmp 56) rfl _ (ctC tk fw mal nc dr dl n nb fl) rfl (ctC_one _ _ _ _ _ _ _ _ _) rfl rfl _ B6.out ?_; intro w7 hs7 hb7 hg7; have B7 := hid hb7; have G7 := hid (G6.out.andThen hg7 fun j hj => by cases hj; exact .inl G5.out.size); have k0 := hb7.cell 0; have k1 := hb7.cell 1; have k2 := hb7.cell 2; have k3 := hb7.cell 3; have k4 := hb7.cell 4; have k5 := hb7.cell 5; have k6 := hb7.cell 6; have k7 := hb7.cell 7; have k8 := hb7.cell 8; clear hs7 hb7 hg7; simp only [ctC, List.getElem?_toArray, List.getElem?_cons_zero, List.getElem?_cons_succ] at k0 k1 k2 k3 k4 k5 k6 k7 k8))
          go_upto_region 17 with (go_at_call 15; (with_reducible refine (HCr.out _ G7.out).mono ?_); rintro e w9 ⟨rfl, rfl⟩)
          have n0 : w7.cell? ⟨D, j * 9, none⟩ = some (.int .i64 tk') := HNi.out w7 G7.out 0 (by omega)
          have n1 : w7.cell? ⟨D, j * 9 + 1, none⟩ = some (.int .i64 fw') := HNi.out w7 G7.out 1 (by omega)
          have n2 : w7.cell? ⟨D, j * 9 + 2, none⟩ = some (.int .i64 mal') := HNi.out w7 G7.out 2 (by omega)
          have n3 : w7.cell? ⟨D, j * 9 + 3, none⟩ = some (.int .i64 nc') := HNi.out w7 G7.out 3 (by omega)
          have n4 : w7.cell? ⟨D, j * 9 + 4, none⟩ = some (.int .i64 dr') := HNi.out w7 G7.out 4 (by omega)
          have n5 : w7.cell? ⟨D, j * 9 + 5, none⟩ = some (.int .i64 dl') := HNi.out w7 G7.out 5 (by omega)
          have n6 : w7.cell? ⟨D, j * 9 + 6, none⟩ = some (.int .i64 q'.length) := HNi.out w7 G7.out 6 (by omega)
          have n7 : w7.cell? ⟨D, j * 9 + 7, none⟩ = some (.int .i64 nb') := HNi.out w7 G7.out 7 (by omega)
          have n8 : w7.cell? ⟨D, j * 9 + 8, none⟩ = some (.int .i64 fl') := HNi.out w7 G7.out 8 (by omega)
          clear k0 k1 k2 k3 k4 k5 k6 k7 k8 e1 e2 e3 e4 e5 b1 b2 b3
          go_upto_region 18 with (first
            | (refine wpList_alloc_ct (w := w7) rfl rfl ?_; intro w8 hs8 hb8 hg8; have B8 := hid hb8; have G78 := hid hg8; have G8 := hid (G7.out.trans hg8); clear hs8 hb8 hg8 n0 n1 n2 n3 n4 n5 n6 n7 n8)
            | (refine wpList_store_ct (w := w8) rfl (.tmp 15) (.tmp 108) rfl _ (ctC tk' fw' mal' nc' dr' dl' q'.length nb' fl') rfl (ctC_one _ _ _ _ _ _ _ _ _) rfl rfl _ B8.out ?_; intro w9 hs9 hb9 hg9; have G9 := hid (G8.out.andThen hg9 fun j hj => by cases hj; exact .inl G7.out.size); have K9 := hid ((B7.out.grown G78.out (by simp)).grown hg9 (fun e => by have h1 := (Array.getElem?_eq_some_iff.1 B7.out.1).1; simp only [Option.some.injEq] at e; omega)); have p1 := hb9.cell 1; have p2 := hb9.cell 2; have p3 := hb9.cell 3; have p4 := hb9.cell 4; have p5 := hb9.cell 5; have p7 := hb9.cell 7; have p8 := hb9.cell 8; have k1 := K9.out.cell 1; have k2 := K9.out.cell 2; have k3 := K9.out.cell 3; have k4 := K9.out.cell 4; have k5 := K9.out.cell 5; have k7 := K9.out.cell 7; have k8 := K9.out.cell 8; clear hs9 hb9 hg9; simp only [ctC, List.getElem?_toArray, List.getElem?_cons_zero, List.getElem?_cons_succ] at k1 k2 k3 k4 k5 k7 k8 p1 p2 p3 p4 p5 p7 p8))
          go_upto_region 20 with fail
          clear k1 k2 k3 k4 k5 k7 k8 p1 p2 p3 p4 p5 p7 p8 g1 g2 g3 l1 l2 l3 l4 l5 l6 l7
          have k0 := K9.out.cell 0
          have k1 := K9.out.cell 1
          have k2 := K9.out.cell 2
          have k3 := K9.out.cell 3
          have k4 := K9.out.cell 4
          have k5 := K9.out.cell 5
          have k6 := K9.out.cell 6
          have k7 := K9.out.cell 7
          have k8 := K9.out.cell 8
          simp only [ctC, List.getElem?_toArray, List.getElem?_cons_zero, List.getElem?_cons_succ] at k0 k1 k2 k3 k4 k5 k6 k7 k8
          have n0 : w9.cell? ⟨D, j * 9, none⟩ = some (.int .i64 tk') := HNi.out w9 G9.out 0 (by omega)
          have n1 : w9.cell? ⟨D, j * 9 + 1, none⟩ = some (.int .i64 fw') := HNi.out w9 G9.out 1 (by omega)
          have n2 : w9.cell? ⟨D, j * 9 + 2, none⟩ = some (.int .i64 mal') := HNi.out w9 G9.out 2 (by omega)
          have n3 : w9.cell? ⟨D, j * 9 + 3, none⟩ = some (.int .i64 nc') := HNi.out w9 G9.out 3 (by omega)
          have n4 : w9.cell? ⟨D, j * 9 + 4, none⟩ = some (.int .i64 dr') := HNi.out w9 G9.out 4 (by omega)
          have n5 : w9.cell? ⟨D, j * 9 + 5, none⟩ = some (.int .i64 dl') := HNi.out w9 G9.out 5 (by omega)
          have n6 : w9.cell? ⟨D, j * 9 + 6, none⟩ = some (.int .i64 q'.length) := HNi.out w9 G9.out 6 (by omega)
          have n7 : w9.cell? ⟨D, j * 9 + 7, none⟩ = some (.int .i64 nb') := HNi.out w9 G9.out 7 (by omega)
          have n8 : w9.cell? ⟨D, j * 9 + 8, none⟩ = some (.int .i64 fl') := HNi.out w9 G9.out 8 (by omega)
          have z0 := HFz.out w9 G9.out (j * 9)
          have z1 := HFz.out w9 G9.out (j * 9 + 1)
          have z2 := HFz.out w9 G9.out (j * 9 + 2)
          have z3 := HFz.out w9 G9.out (j * 9 + 3)
          have z4 := HFz.out w9 G9.out (j * 9 + 4)
          have z5 := HFz.out w9 G9.out (j * 9 + 5)
          have z6 := HFz.out w9 G9.out (j * 9 + 6)
          have z7 := HFz.out w9 G9.out (j * 9 + 7)
          have z8 := HFz.out w9 G9.out (j * 9 + 8)
          go_wp2_with fail
          have hl := HLay.out w9 G9.out
          unfold set9 at hl
          simp only [Hn.out] at hl
          go_roundw
          case rel => exact ⟨j + 1, by go_num, hjl, (H.out.more G9.out).own HD4.out hl.2, hl.1.congr fun k _ => ocell_next HSj.out k⟩
          case measure => simp [intOf]; omega
        · obtain rfl : j = N := by omega
          have hge : ¬ ((j : Int) < j) := by omega
          have hS := HRw.out.congr (X' := ocell S1.P) fun k hk => by
            show ctc (S1.P (k / 9)) (k % 9) = ctc (if k / 9 < j then S1.P (k / 9) else S.P (k / 9)) (k % 9)
            rw [if_pos (by omega)]
          have HSw := hid hS
          clear hS
          go_wp2_with fail
          go_roundw
          case rel => exact ⟨k + 1, lab4, S1, by go_num, hlt, H.out, HGn.out, HD4.out, HSw.out⟩
          case measure => simp [intOf]; omega
    · obtain rfl : k = ops.length := by omega
      have hge : ¬ ((ops.length : Int) < ops.length) := by omega
      go_wp2_with (go_at_call 13; (with_reducible refine (HW.out _).mono ?_); rintro e w3 ⟨rfl, g3⟩; have G3 := hid g3; clear g3)
      go_ret
      exact ⟨rfl, H.out.g0.trans G3.out⟩
theorem main {H : Type} {enc : TypeId × Value → H} (v0 v1 : Value) (W : World) (c0 : Flat.Came enc Try.prog W 0 (fun _ => true) true 5 v0) (c1 : Flat.Came enc Try.prog W 0 (fun _ => true) true 22 v1) :
    Calls Try.prog 4 #[v0, v1] W fun e w' => e = .returned (.bool true) ∧ W.grownBy w' none := by
  obtain ⟨a, rfl, ha⟩ := c0.int Try.underlying5
  obtain ⟨p, ops, c, rfl, ho, hol⟩ := open_ops c1
  have ha := bounds_u8 ha
  have := walk a.toNat (by omega) p ops c W ho hol
  rw [Int.toNat_of_nonneg ha.1] at this
  exact this

theorem own : ownKnob Try.prog.godebug = none := by kernel_rfl
theorem laidOut : laidOutB Try.prog = true := by kernel_rfl

set_option maxRecDepth 100000 in
theorem lifted (os : Os) (started : os.Started) (H : Type) (enc : TypeId × Value → H) :
    ReturnsInHanded {} Try.checked os 4 .any (Rows.bridgeCountsSpec.pre6 enc Try.prog Try.f4 Rows.bridgeCountsRow.domain false) (Rows.bridgeCountsSpec.post enc Try.prog Try.f4 false true false false) := by
  refine returnsInHanded_of_change_sized (C := Try.checked) own started (by kernel_rfl) Try.func4
    (ChangeSpec.witness6 (enc := enc) (C := Try.checked) false ⟨#[], #[.int .u8 0, .slice none 0 0], []⟩ 8 (by kernel_rfl) (by kernel_rfl) (by kernel_rfl) (by kernel_rfl)) ?_
  intro W base args ds gs before hval0 hW _ hsz0 _
  have hsz : (DataW.weightsEach Try.prog (Try.f4.params.toList ++ Rows.bridgeCountsSpec.plain.varTypes Try.prog) (ds ++ gs)).all (· ≤ reachBytes) = true := hsz0
  clear hsz0
  have hval : ∀ (j : Nat) t v, Try.f4.params[j]? = some t → args[j]? = some v → Value.okWide Try.prog W .any base t v := hval0
  have hW' := hW
  obtain ⟨p, q, hA0, hV, rfl, hfz, hnd⟩ := hW
  have hA : DataW.TrodAll enc Try.prog W 0 (fun _ => true) true Try.f4.params.toList args.toList ds p := hA0
  rw [Try.params4] at hA hval hsz
  obtain ⟨v0, vs0, d0, ds0, p0, q0, hargs, rfl, rfl, h0, r0⟩ := trodAll_cons hA
  obtain ⟨v1, vs1, d1, ds1, p1, q1, rfl, rfl, rfl, h1, r1⟩ := trodAll_cons r0
  obtain ⟨rfl, rfl, rfl⟩ := trodAll_nil r1
  obtain rfl : args = #[v0, v1] := by cases args; simp_all
  obtain ⟨rfl, rfl⟩ := trodVars_none hV
  obtain ⟨a0, rfl, rfl, rfl, w0⟩ := open_int Try.underlying5 (hval 0 5 v0 rfl rfl) h0
  have k0 := h0
  have lt0 : ∀ x ∈ ([] : List MemPlace), x.block < W.heap.size := by obtain ⟨m, hm⟩ := k0; exact DataW.trod_lt m _ _ _ hm
  have c0 : Flat.Came enc Try.prog W 0 (fun _ => true) true 5 (.int .u8 a0) := by
    obtain ⟨fuel, hf⟩ := h0
    exact ⟨fuel, _, hf, fun n hn => by
      have := List.all_eq_true.1 hsz n (DataW.weights_mem_each (j := 0) rfl rfl n hn)
      simpa using this⟩
  obtain ⟨ps1, ln1, cp1, rfl⟩ := okWide_slice Try.underlying22 (hval 1 22 v1 rfl rfl)
  have k1 := h1
  have lt1 : ∀ x ∈ p1, x.block < W.heap.size := by obtain ⟨m, hm⟩ := k1; exact DataW.trod_lt m _ _ _ hm
  have c1 : Flat.Came enc Try.prog W 0 (fun _ => true) true 22 (.slice ps1 ln1 cp1) := by
    obtain ⟨fuel, hf⟩ := h1
    exact ⟨fuel, _, hf, fun n hn => by
      have := List.all_eq_true.1 hsz n (DataW.weights_mem_each (j := 1) rfl rfl n hn)
      simpa using this⟩
  clear hA0 hval0
  refine (main (.int .u8 a0) (.slice ps1 ln1 cp1) W c0 c1).mono fun e W' ⟨he, hg⟩ => ?_
  subst he
  have bel := below_grown' hg
  simp only [List.append_nil, List.nil_append] at hW'
  exact ⟨_, rfl, _, _, _, [], _, [], hW', trodAll_mk1 (shut_bool Try.underlying4 _), (trodAll_cons_mk (Below.trod laidOut (by kernel_rfl) (of_decide_eq_true (by kernel_rfl)) k0 bel lt0) (trodAll_cons_mk (Below.trod laidOut (by kernel_rfl) (of_decide_eq_true (by kernel_rfl)) k1 bel lt1) trodAll_mk0)), rfl, bel.frame _, fun h => by cases h⟩

theorem proved : Rows.BridgeCountsSaid :=
  OpenClaim.holds_of_wide 4 Try.f4 rfl rfl rfl rfl rfl rfl rfl ⟨rfl, rfl, rfl, rfl, rfl⟩ rfl rfl rfl rfl rfl (by kernel_rfl) Try.func4 (by kernel_rfl)
    (of_decide_eq_true (by kernel_rfl)) (by unfold Func.isWrapper; first | (rw [if_pos (by decide +kernel)]; kernel_rfl) | (rw [if_neg (by decide +kernel)]; exact ⟨rfl, rfl⟩))
    (fun os started H enc _ => lifted os started H enc)
#print axioms proved
end Go.Proofs.Ytakofhhfdgankaa.lawBrCounts
