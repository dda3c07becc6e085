/-
  WholeGrant: for every entry, every row of bytes, either mode and every two small numbers the law returns true, and what was there stays. No condition.
-/
import Derived.Test.YtaocnknofklmoaaJ6
import Derived.Test.YtaocnknofklmoaaJ2
import Derived.Test.YtaocnknofklmoaaOpen
import Derived.Test.YtaocnknofklmoaaRows
import Derived.Test.YtaocnknofklmoaaBytesIn
import Derived.Test.YtaocnknofklmoaaJ3
import Derived.ProofKit
import Derived.OpenShut
import Derived.Deep.Cut
import Derived.Lib.SlBytesConst
set_option linter.unusedSimpArgs false
set_option linter.unusedVariables false
namespace Go.Proofs.Ytaocnknofklmoaa.lawGrWhole
open Go.ChangeShapes Go.WideShapes Go.ChangeAt Go.RowKit KM
set_option maxHeartbeats 4000000
set_option maxRecDepth 100000

theorem pk_some {l : List UInt8} {w : World} {e : Ending} {w' : World} (hl : l.length = 8) (h : PkPost l w e w') : ∃ g c, e = .returned (.tuple #[.slice (some ⟨g, 0, none⟩) 8 c, .int .i64 0]) ∧ w'.ownsRow (w.heap.size + 1) 5 1 (.slice (some ⟨g, 0, none⟩) 8 c) 8 (bcells l) ∧ w.grownBy w' none := by
  obtain ⟨p, c, rfl, ho, hg⟩ := h
  rw [hl] at ho ⊢
  obtain ⟨g, c', e⟩ := own_some ho (by decide)
  cases e
  exact ⟨g, c, rfl, ho, hg⟩
theorem own_kept {w : World} {B g c : Nat} {l : List UInt8} (hl : l.length = 8) (h : w.ownsRow B 5 1 (.slice (some ⟨g, 0, none⟩) 8 c) 8 (bcells l)) : KeptBytes w (fun k => k = g) (some ⟨g, 0, none⟩) l ∧ B ≤ g := by
  refine ⟨.inr ⟨g, rfl, rfl, fun k hk => ?_⟩, ?_⟩
  · have := own_news h k (.int .u8 (l.getD k 0).toNat) (by rw [bcells_get, List.getElem?_eq_getElem hk]; simp [List.getD, List.getElem?_eq_getElem hk])
    have e : (⟨g, 0, none⟩ : Addr).add k = ⟨g, k, none⟩ := by unfold Addr.add; split <;> simp_all
    rw [e] at this
    exact this
  · rcases h.2 with ⟨e, _⟩ | ⟨g', cap, cur, e, hb, hg, _⟩
    · cases e
    · cases e; exact hb
theorem kept_lt {w : World} {gq : Nat} {l : List UInt8} (h : KeptBytes w (fun k => k = gq) (some ⟨gq, 0, none⟩) l) (hl : l.length = 8) : gq < w.heap.size := by
  rcases h with e | ⟨g', e, he, hc⟩
  · rw [e] at hl; cases hl
  · have := World.block_lt_of_cell? w _ (hc 0 (by omega))
    simp only at this he
    omega
/-- the text that is laid into the granted page -/
def txtW : List UInt8 := [116, 104, 101, 32, 103, 114, 97, 110, 116, 101, 100, 32, 112, 97, 103, 101]
theorem txt_is (w : World) (B : Nat) (hB : B < w.heap.size) : IsBytes (w.alloc (.cells #[.int .u8 116, .int .u8 104, .int .u8 101, .int .u8 32, .int .u8 103, .int .u8 114, .int .u8 97, .int .u8 110, .int .u8 116, .int .u8 101, .int .u8 100, .int .u8 32, .int .u8 112, .int .u8 97, .int .u8 103, .int .u8 101] 5 (16, 17))) B (.slice (some ⟨w.heap.size, 0, none⟩) 16 16) txtW := by
  refine .inr ⟨⟨w.heap.size, 0, none⟩, 16, rfl, fun e => by simp only at e; omega, fun k x hx => ?_⟩
  have hk : k < 16 := by
    obtain ⟨h, _⟩ := List.getElem?_eq_some_iff.1 hx
    exact h
  have e : (⟨w.heap.size, 0, none⟩ : Addr).add k = ⟨w.heap.size, k, none⟩ := by unfold Addr.add; split <;> simp_all
  rw [e, cell_of_row _ w.heap.size k _ _ _ (MapKept.heap_alloc w _).1]
  have : k = 0 ∨ k = 1 ∨ k = 2 ∨ k = 3 ∨ k = 4 ∨ k = 5 ∨ k = 6 ∨ k = 7 ∨ k = 8 ∨ k = 9 ∨ k = 10 ∨ k = 11 ∨ k = 12 ∨ k = 13 ∨ k = 14 ∨ k = 15 := by omega
  rcases this with rfl | rfl | rfl | rfl | rfl | rfl | rfl | rfl | rfl | rfl | rfl | rfl | rfl | rfl | rfl | rfl <;> (cases hx; rfl)
def lateC (pa : Option Addr) (n cap : Nat) (k : Nat) : Value := [.int .i64 1, .int .i64 2, .int .i64 0, .slice pa n cap, .int .i64 2, .int .i64 2, .int .i64 0, .slice pa n cap].getD k undef
theorem pokes_of {W : World} {pb cap : Nat} {pa : Option Addr} {l : List UInt8} (hr : Row W pb 139 8 (lateC pa l.length cap)) (hin : InBytes W pa l) (hl : l.length ≤ 8) : PokesIn W (some ⟨pb, 0, none⟩) (lateW l) := fun j hj => by
  have hf : ∀ t : Int, t = 1 ∨ t = 2 → (⟨t, 2, 0, l⟩ : PokeV).fits := fun t ht => ⟨WalkArith.wf_i64 (by simp only; omega), WalkArith.wf_i64 (by simp only; omega), WalkArith.wf_i64 (by simp only; omega), by simp only; omega⟩
  have : j = 0 ∨ j = 1 := by simp [lateW] at hj; omega
  rcases this with rfl | rfl
  · exact ⟨pb, 0, pa, cap, rfl, hr.lt, hr.cell (k := 0) (by omega), hr.cell (k := 1) (by omega), hr.cell (k := 2) (by omega), hr.cell (k := 3) (by omega), hf 1 (.inl rfl), hin⟩
  · exact ⟨pb, 0, pa, cap, rfl, hr.lt, hr.cell (k := 4) (by omega), hr.cell (k := 5) (by omega), hr.cell (k := 6) (by omega), hr.cell (k := 7) (by omega), hf 2 (.inr rfl), hin⟩
theorem late_fits (l : List UInt8) (hl : l.length ≤ 8) : ∀ p ∈ lateW l, p.fits := fun p hp => by
  simp only [lateW, List.mem_cons, List.not_mem_nil, or_false] at hp
  rcases hp with rfl | rfl <;> exact ⟨WalkArith.wf_i64 (by simp only; omega), WalkArith.wf_i64 (by simp only; omega), WalkArith.wf_i64 (by simp only; omega), by simp only; omega⟩

theorem far_start {w0 wr : World} {B : Nat} (hg : w0.grownBy wr none) (hB : w0.heap.size ≤ B) (pm : Nat → Nat × Nat × Nat) (q : Nat) (hq : gfoot (wr.heap.size + 1) B wr.heap.size pm 0 q) : w0.heap.size ≤ q := by
  have := hg.size
  rcases hq with e | e | e | ⟨i, hi, _⟩ <;> omega
theorem walk (g : GV) (pa : Option Addr) (cap : Nat) (l : List UInt8) (md : Bool) (fr k : Nat) (w : World) (hin : InBytes w pa l) (hfr : fr < 256) (hk : k < 256) :
    Calls Try.prog 13 #[.agg #[.int .i64 g.k, .bool g.ro, .bool g.sub, .int .i64 g.dom, .int .i64 g.gpfn, .int .i64 g.off, .int .i64 g.len], .slice pa l.length cap, .bool md, .int .u8 fr, .int .u8 k] w fun e w' => e = .returned (.bool true) ∧ w.grownBy w' none := by
  obtain ⟨W0, hW0⟩ : ∃ W, w.alloc (.cells #[.int .i64 g.k, .bool g.ro, .bool g.sub, .int .i64 g.dom, .int .i64 g.gpfn, .int .i64 g.off, .int .i64 g.len] 73) = W := ⟨_, rfl⟩
  have hg0 : w.grownBy W0 none := hW0 ▸ World.grownBy_alloc _ _ none
  have HB := hid (hW0 ▸ rowB w (.int .i64 g.k) (.bool g.ro) (.bool g.sub) (.int .i64 g.dom) (.int .i64 g.gpfn) (.int .i64 g.off) (.int .i64 g.len) : Row W0 w.heap.size 73 7 _)
  have HIn := hid (hin.grown hg0)
  have HG0 := hid hg0
  have HN := hid (New_yes 4 W0 (by omega) (by omega))
  clear hin hg0
  go_enter Try.func13, Try.ntmps13
  go_wp2_with (go_at_call 14; refine HN.out.mono ?_; rintro e w1 ⟨v, rfl, B, rfl, hB, hM, hg1⟩; have HM := hid hM; have HB1 := hid hB; have HG1 := hid hg1; clear hM hB hg1)
  go_loopw [13] (fun i wr => ∃ j : Nat, i = .int .i64 j ∧ j ≤ 4 ∧ PM wr B (alW j) ∧ W0.grownBy wr none) (fun i _ => 4 - (intOf i).toNat)
  case atStart => exact ⟨0, rfl, by omega, HM.out, HG1.out⟩
  case round =>
    obtain ⟨j, rfl, hj, hm, hg⟩ := hrel
    have HMj := hid hm
    have HGj := hid hg
    clear hm hg HM HG1
    have hj0 : (0 : Int) ≤ j := by omega
    by_cases hlt : j < 4
    · have hlt' : (j : Int) < 4 := by omega
      go_wp2_with (go_at_call 19; refine (Alloc_any B ((j : Int) / 2) _ (alW j) 0 HMj.out (alW_ok j)).mono ?_; rintro e w2 ⟨rfl, h2, g2⟩; have HM2 := hid h2; have HG2 := hid (grown_own HGj.out g2 HB1.out); clear h2 g2)
      go_roundw
      case rel => exact ⟨j + 1, by go_num, by omega, HM2.out, HG2.out⟩
      case measure => simp [intOf]; omega
    · obtain rfl : j = 4 := by omega
      clear hlt hj hj0
      obtain ⟨wa, hwa⟩ : ∃ x, x = wr := ⟨_, rfl⟩
      subst hwa
      have hn1 : 1 ≤ (alW 4).n := (alW_ok 4).n1
      go_wp2_with (go_at_call 57; refine (gNew_yes B _ (alW 4) HMj.out hn1).mono ?_; rintro e w2 ⟨rfl, ht, hm, g2⟩; have HS := hid (⟨GA.start (HMj.out.grown g2 (by simp)) ht hm (fun _ => (0, 0, 0)) (fun _ => Mp.empty 0), far_start HGj.out HB1.out _, HGj.out.trans g2⟩ : WS W0 w2 _ B _ _ 0 (stW 0) 0); clear ht hm g2)
      go_loopw [15] (fun i wx => ∃ (j : Nat) (pm : Nat → Nat × Nat × Nat), i = .int .i64 j ∧ j ≤ 2 ∧ WS W0 wx (wa.heap.size + 1) B wa.heap.size pm j (stW j) (2 * j)) (fun i _ => 2 - (intOf i).toNat)
      case atStart => exact ⟨0, _, rfl, by omega, HS.out⟩
      case round =>
        obtain ⟨j, pm, rfl, hj, hs⟩ := hrel
        have HS1 := hid hs
        clear hs HS
        have hj0 : (0 : Int) ≤ j := by omega
        by_cases hlt : j < 2
        · have hlt' : (j : Int) < 2 := by omega
          go_wp2_with (first
            | (go_at_call 31; refine (pNew_yes 2 _ (by omega)).mono ?_; rintro e w3 ⟨v, rfl, b, f, p, rfl, hP, g3, hf⟩; have HS2 := hid (HS1.out.add (stW_mem j hlt) hP (Nat.zero_le _) g3 hf); clear hP g3 hf)
            | (go_at_call 63; first
                | ((with_reducible refine (HS2.out.set (i := j) (b := b) (by unfold maxLen; omega) (by omega) (by rw [upPm_same]) 0 (2 * (j : Int)) (I64.of (by omega) (by omega)) (I64.of (by omega) (by omega))).mono ?_); rintro e w4 ⟨rfl, hs4⟩; have HS3 := hid hs4; clear hs4)
                | ((with_reducible refine (HS3.out.set (i := j) (b := b) (by unfold maxLen; omega) (by omega) (by rw [upPm_same]) 1 (2 * (j : Int) + 1) (I64.of (by omega) (by omega)) (I64.of (by omega) (by omega))).mono ?_); rintro e w5 ⟨rfl, hs5⟩; have HS4 := hid hs5; clear hs5)
                | fail)
            | (go_at_call 59; (with_reducible refine (HS4.out.join (i := j) (b := b) (K := 2) (Mach.ok.mono (stW_ok j) (by omega)) (by omega) (by omega) (by rw [upPm_same]) (j : Int) (2 * (j : Int))).mono ?_); rintro e w6 ⟨rfl, hs6⟩; have HS5 := hid hs6; clear hs6))
          go_roundw
          case rel => exact ⟨j + 1, _, by go_num, by omega, by
            have h := HS5.out
            simp only [upP_same, upP_upP] at h
            exact h⟩
          case measure => simp [intOf]; omega
        · obtain rfl : j = 2 := by omega
          clear hlt hj hj0
          obtain ⟨wb, hwb⟩ : ∃ x, x = wr := ⟨_, rfl⟩
          subst hwb
          obtain ⟨X, hX⟩ : ∃ X, wa.heap.size + 1 = X := ⟨_, rfl⟩
          obtain ⟨G, hG⟩ : ∃ G, wa.heap.size = G := ⟨_, rfl⟩
          rw [hX, hG] at HS1
          rw [hX]
          clear hX hG hn1 HMj HGj
          have rb := Row.grown HB.out HS1.out.g (by simp)
          have q0 := rb.cell (k := 0) (by omega); have q1 := rb.cell (k := 1) (by omega); have q2 := rb.cell (k := 2) (by omega); have q3 := rb.cell (k := 3) (by omega); have q4 := rb.cell (k := 4) (by omega); have q5 := rb.cell (k := 5) (by omega); have q6 := rb.cell (k := 6) (by omega)
          simp only [sevV, List.getD_cons_zero, List.getD_cons_succ] at q0 q1 q2 q3 q4 q5 q6
          clear rb
          cases hp : packV g with
          | false =>
            have HPk := hid (fun w' => rPk_no g.k g.ro g.sub g.dom g.gpfn g.off g.len w' hp)
            have HUn := hid (fun w' => gPn_len none 0 0 w' (by omega))
            simp only [g0, GV.val] at HUn
            clear hp
            go_wp2_with (first
              | (go_at_call 39; (with_reducible refine (HPk.out _).mono ?_); rintro e w3 ⟨rfl, g3⟩; have G3 := hid (HG0.out.trans (HS1.out.g.trans g3)); clear g3)
              | (go_at_call 40; (with_reducible refine (HUn.out _).mono ?_); rintro e w4 ⟨rfl, g4⟩; have G4 := hid (G3.out.trans g4); clear g4))
            go_ret
            exact ⟨rfl, G4.out.trans (World.grownBy_alloc _ _ none)⟩
          | true =>
            have HPk := hid (rPk_yes g wb hp)
            simp only [GV.val] at HPk
            by_cases hl8 : l.length ≤ 8
            · have hl8' : (l.length : Int) ≤ 8 := by omega
              have hBlt := HS1.out.a.m.lt
              have HFoot := hid (fun q (hq : gfoot X B G pm 2 q) => HS1.out.a.lt hq)
              have HPp := hid hp
              have HL8 := hid hl8
              have HBlt := hid hBlt
              clear hp hBlt hl8
              go_upto_region 24 with (first
                | (go_at_call 39; (with_reducible refine HPk.out.mono ?_); intro e w3 h3; obtain ⟨gq, cq, rfl, ho3, g3⟩ := pk_some (pkL_len g) h3; obtain ⟨hq3, hqb⟩ := own_kept (pkL_len g) ho3; have HS3 := hid (HS1.out.grown g3); have HQ3 := hid hq3; have HQb := hid hqb; have HW1 := hid (Write_any B 2 0 (.slice (some ⟨gq, 0, none⟩) 8 cq) (pkL g) w3 (stW 2).M 2 HS3.out.a.m SW.start.ok (by omega) (KeptBytes.is hq3 cq B (fun e => by have := HBlt.out; omega)) (by rw [pkL_len]; omega)); clear g3 h3 ho3 hq3 hqb)
                | (go_at_call 18; first
                    | ((with_reducible refine HW1.out.mono ?_); rintro e w4 ⟨rfl, h4, g4⟩; have HS4 := hid (HS3.out.mach h4 g4); have HQ4 := hid (KeptBytes.chg HQ3.out (Chg.of (S := fun k => k = B) g4 fun j e => .inl (Option.some.inj e).symm) (fun k hk e => by have := HBlt.out; have := HQb.out; omega)); have hcv := Lib.run_convert_bytes_const (P := Try.prog) w4 31 5 #[.int .u8 116, .int .u8 104, .int .u8 101, .int .u8 32, .int .u8 103, .int .u8 114, .int .u8 97, .int .u8 110, .int .u8 116, .int .u8 101, .int .u8 100, .int .u8 32, .int .u8 112, .int .u8 97, .int .u8 103, .int .u8 101] 16 16 Try.underlying31 Try.underlying5; clear h4 g4)
                    | (refine (Write_any B 3 0 _ txtW _ _ 2 (HS4.out.a.m.alloc _) (SW.start.write 2 0 (pkL g)).ok (by omega) (txt_is _ B HS4.out.a.m.lt) (by decide)).mono ?_; rintro e w5 ⟨rfl, h5, g5⟩; have HS5 := hid ((HS4.out.grown (World.grownBy_alloc w4 _ none)).mach h5 g5); have HQ5 := hid (KeptBytes.chg (KeptBytes.chg HQ4.out (Chg.of0 (S := fun _ => False) (World.grownBy_alloc w4 _ none)) (fun _ _ e => e)) (Chg.of (S := fun k => k = B) g5 fun j e => .inl (Option.some.inj e).symm) (fun k hk e => by have := HBlt.out; have := HQb.out; omega)); clear h5 g5)
                    | fail))
              clear hcv
              obtain ⟨sB, hs5, hsw, heb⟩ : ∃ sB, WS W0 w5 X B G pm 2 sB (2 * 2) ∧ SW sB ∧ sB.entB 1 0 = pkL g := ⟨_, HS5.out, (SW.start.write 2 0 (pkL g)).write 3 0 txtW, by rw [SW.entB_other (SW.start.write 2 0 _) 3 0 txtW (by decide), SW.start.entB_write _ (pkL_len g)]⟩
              obtain ⟨wL, hwL⟩ : ∃ W, w5.alloc (.cells #[.int .i64 1, .int .i64 2, .int .i64 0, .slice pa l.length cap, .int .i64 2, .int .i64 2, .int .i64 0, .slice pa l.length cap] 139) = W := ⟨_, rfl⟩
              have gL : w5.grownBy wL none := hwL ▸ World.grownBy_alloc _ _ none
              have hRow : Row wL w5.heap.size 139 8 (lateC pa l.length cap) := hwL ▸ (Gen.Row.new w5 _ 139 8 _ (by simp) fun k hk => by match k, hk with | 0, _ => rfl | 1, _ => rfl | 2, _ => rfl | 3, _ => rfl | 4, _ => rfl | 5, _ => rfl | 6, _ => rfl | 7, _ => rfl)
              have hn1 : 1 ≤ sB.M.n := hsw.ok.n1
              have HSL := hid (hs5.grown gL)
              have HVL := hid (show Calls Try.prog 23 #[.pointer (some ⟨B, 0, none⟩), .slice (some ⟨w5.heap.size, 0, none⟩) 2 2] wL _ from vNew B (some ⟨w5.heap.size, 0, none⟩) 2 (lateW l) wL sB.M HSL.out.a.m hn1 (by simp [lateW]) (pokes_of hRow (HIn.out.grown HSL.out.g) HL8.out))
              have HRow := hid hRow
              have HQL := hid (KeptBytes.chg HQ5.out (Chg.of0 (S := fun _ => False) gL) (fun _ _ e => e))
              have HGq5 := hid (kept_lt HQ5.out (pkL_len g))
              have HSw := hid hsw
              have HEb := hid heb
              have HN1 := hid hn1
              clear hs5 hsw heb hRow gL hn1 HS5 HS4 HS3 HQ3 HQ4 HW1
              go_upto_region 27 with (go_at_call 23; first
                | ((with_reducible refine HVL.out.mono ?_); rintro e w6 ⟨rfl, ⟨f6, hv6⟩, g6⟩; have HV6 := hid (HSL.out.a.view hv6 g6); have HS6 := hid (HSL.out.grown g6); have HG6 := hid g6; clear hv6 g6)
                | (refine (vNew B none 0 [] w6 sB.M HS6.out.a.m HN1.out (by simp) (fun j hj => by simp at hj)).mono ?_; rintro e w7 ⟨rfl, ⟨f7, hv7⟩, g7⟩; have HU7 := hid (HS6.out.a.view hv7 g7); have HV7 := hid (HV6.out.grown g7); have HS7 := hid (HS6.out.grown g7); have HG7 := hid (HG6.out.trans g7); clear hv7 g7)
                | fail)
              clear hwL
              obtain ⟨⟨bu, eu, su, nu⟩, hPu⟩ : ∃ P, sB.pullG [] 0 1 0 0 (fr : Int) (k : Int) = P := ⟨_, rfl⟩
              obtain ⟨⟨bv, ev, sv, nv⟩, hPv⟩ : ∃ P, sB.pullG (lateW l) 0 1 0 0 (fr : Int) (k : Int) = P := ⟨_, rfl⟩
              obtain rfl : su = sB := by have := pull_same sB 1 0 0 (fr : Int) (k : Int); rw [hPu] at this; exact this
              obtain rfl : eu = ev := by have := pull_err su l 1 0 0 (fr : Int) (k : Int); rw [hPu, hPv] at this; exact this
              have HSv := hid (by have := pull_sw HSw.out l 1 0 0 (fr : Int) (k : Int); rw [hPv] at this; exact this : SW sv)
              have HBy := hid (fun (h1 : g.gpfn = 1) => (by have := pull_bytes HSw.out HPp.out HEb.out h1 l (fr : Int) (k : Int); rw [hPu, hPv] at this; exact this : bu = bv))
              have HPu := hid (show Calls Try.prog 58 #[.pointer (some ⟨X, 0, none⟩), .pointer (some ⟨w6.heap.size + 1, 0, none⟩), .int .i64 0, .agg #[.bool true, .int .i64 1, .int .i64 0, .int .i64 0, .int .i64 fr], .int .i64 k] w7 _ from gPullG HU7.out HSw.out.ok (fun p hp => by cases hp) (by simp) (by omega) 0 (by decide) 1 0 (by omega) (by omega) 2 1 HSw.out.mem1 (by omega) (by rw [HSw.out.n]; omega) (by omega) 0 (fr : Int) (k : Int) (by omega) (by omega) (by omega) _ hPu)
              have hfr0 : (0 : Int) ≤ fr := by omega
              have hfr1 : (fr : Int) < 256 := by omega
              have hk0 : (0 : Int) ≤ k := by omega
              have hk1 : (k : Int) < 256 := by omega
              go_upto_region 28 with (go_at_call 58; (with_reducible refine HPu.out.mono ?_); rintro e w8 ⟨qu, cu, rfl, hbu, hr8⟩; have HBu := hid hbu; have HR8 := hid hr8; clear hbu hr8)
              obtain ⟨fv6, hvv6⟩ := HV6.out.v
              have HVlt := hid (fun q (hq : vfoot (wL.heap.size + 1) wL.heap.size (fun k => wL.heap.size + 2 ≤ k ∧ k < w6.heap.size) q) => hvv6.foot_lt hq)
              clear hvv6
              have z5 : wb.heap.size < w5.heap.size := by have := HGq5.out; have := HQb.out; omega
              have zL : w5.heap.size < wL.heap.size := HRow.out.lt
              have z6 : wL.heap.size + 1 < w6.heap.size := HVlt.out _ (.inl rfl)
              have z7 : w6.heap.size ≤ w7.heap.size := by have h1 := HG6.out.size; have h2 := HG7.out.size; have h3 := HU7.out.a.lt (.inr (.inl rfl)); obtain ⟨f, hv⟩ := HU7.out.v; have := hv.foot_lt (.inl rfl); omega
              have z8 : w7.heap.size ≤ w8.heap.size := HR8.out.c.size
              have z0 : W0.heap.size ≤ wb.heap.size := HS1.out.g.size
              have HAu := hid (fun q (h1 : wb.heap.size ≤ q) (h2 : q < w6.heap.size) (e : avfoot X B G pm 2 (w6.heap.size + 1) w6.heap.size q) => (by rcases e with e | e | e; exact absurd (HFoot.out q e) (by omega); all_goals omega : False))
              have HAv := hid (fun q (h1 : wb.heap.size ≤ q) (h2 : q ≠ wL.heap.size + 1) (h3 : q ≠ wL.heap.size) (e : avfoot X B G pm 2 (wL.heap.size + 1) wL.heap.size q) => (by rcases e with e | e | e; exact absurd (HFoot.out q e) (by omega); all_goals omega : False))
              have HV8 := hid (HV7.out.beside (n := 0) HR8.out (fun e => by have := HVlt.out _ e; omega) (fun e => by have := HVlt.out _ e; omega))
              have HRow8 := hid (Row.chg (Row.grown HRow.out HG7.out (by simp)) HR8.out.c (HAu.out _ (by omega) (by omega)))
              have HQ8 := hid (KeptBytes.chg (KeptBytes.chg HQL.out (Chg.of0 (S := fun _ => False) HG7.out) (fun _ _ e => e)) HR8.out.c (fun q hq => HAu.out q (by have := HQb.out; omega) (by have := HGq5.out; omega)))
              have HG8 := hid (HR8.out.c.grownR HS7.out.g (fun q e => by rcases e with e | e | e; exact HS7.out.far q e; all_goals omega))
              have HPv := hid (show Calls Try.prog 58 #[.pointer (some ⟨X, 0, none⟩), .pointer (some ⟨wL.heap.size + 1, 0, none⟩), .int .i64 0, .agg #[.bool true, .int .i64 1, .int .i64 0, .int .i64 0, .int .i64 fr], .int .i64 k] w8 _ from gPullG HV8.out HSw.out.ok (late_fits l HL8.out) (by simp [lateW]) (by omega) 0 (by decide) 1 0 (by omega) (by omega) 2 1 HSw.out.mem1 (by omega) (by rw [HSw.out.n]; omega) (by omega) 0 (fr : Int) (k : Int) (by omega) (by omega) (by omega) _ hPv)
              clear HPu hPu hPv HRow HQL HN1 HU7 HV7 HV6
              go_upto_region 29 with (go_at_call 58; (with_reducible refine HPv.out.mono ?_); rintro e w9 ⟨qv, cv, rfl, hbv, hr9⟩; have HBv := hid hbv; have HR9 := hid hr9; clear hbv hr9)
              have HBu9 := hid (KeptBytes.chg HBu.out HR9.out.c (fun q hq => HAv.out q (by omega) (by omega) (by omega)))
              have HRow9 := hid (Row.chg HRow8.out HR9.out.c (HAv.out _ (by omega) (by omega) (by omega)))
              have HQ9 := hid (KeptBytes.chg HQ8.out HR9.out.c (fun q hq => HAv.out q (by have := HQb.out; omega) (by have := HGq5.out; omega) (by have := HGq5.out; omega)))
              have HG9 := hid (HR9.out.c.grownR HG8.out (fun q e => by rcases e with e | e | e; exact HS7.out.far q e; all_goals omega))
              have HS9 := hid (⟨HR9.out.a.a, HS7.out.far, HG9.out⟩ : WS W0 w9 X B G pm 2 sv (2 * 2))
              have rb9 := Row.grown HB.out HG9.out (by simp)
              have p4 := rb9.cell (k := 4) (by omega)
              simp only [sevV, List.getD_cons_zero, List.getD_cons_succ] at p4
              have HFar := hid HS7.out.far
              have HGq := hid (show w5.heap.size ≠ B by have := HBlt.out; omega)
              have HGqB := hid (show gq ≠ B by have := HBlt.out; have := HQb.out; omega)
              have hee : (eu != eu) = false := by simp
              clear rb9 q0 q1 q2 q3 q4 q5 q6 HPv HBu HR8 HV8 HRow8 HQ8 HG8 z5 zL z6 z7 z8 z0 HAu HAv HG6 HG7 HS6 HS7 HSL HVL HQ5
              by_cases h1 : g.gpfn = 1
              · obtain rfl := HBy.out h1
                have hb1 : (g.gpfn == 1) = true := by simpa using h1
                have hcu := kept_string HBu9.out cu w9 (World.grownBy.refl _ _)
                have hcv := kept_string HBv.out cv w9 (World.grownBy.refl _ _)
                clear h1 HBy
                go_upto_region 31 with fail
                clear hcu hcv hb1 hee p4
                have HW2 := hid (Write_any B 2 0 (.slice (some ⟨gq, 0, none⟩) 8 cq) (pkL g) w9 sv.M 2 HS9.out.a.m HSv.out.ok (by omega) (KeptBytes.is HQ9.out cq B (fun e => HGqB.out e.symm)) (by rw [pkL_len]; omega))
                go_upto_region 32 with (go_at_call 18; (with_reducible refine HW2.out.mono ?_); rintro e w10 ⟨rfl, h10, g10⟩; have HS10 := hid (HS9.out.mach h10 g10); have HRow10 := hid (Row.grown HRow9.out g10 (fun e => HGq.out (Option.some.inj e))); clear h10 g10)
                obtain ⟨sD, hs10, hsw, heb⟩ : ∃ sD, WS W0 w10 X B G pm 2 sD (2 * 2) ∧ SW sD ∧ sD.entB 1 0 = pkL g := ⟨_, HS10.out, HSv.out.write 2 0 (pkL g), HSv.out.entB_write _ (pkL_len g)⟩
                have HS10' := hid hs10
                have HSD := hid hsw
                have HED := hid heb
                have hn2 : 1 ≤ sD.M.n := hsw.ok.n1
                have HVL2 := hid (show Calls Try.prog 23 #[.pointer (some ⟨B, 0, none⟩), .slice (some ⟨w5.heap.size, 0, none⟩) 2 2] w10 _ from vNew B (some ⟨w5.heap.size, 0, none⟩) 2 (lateW l) w10 sD.M HS10'.out.a.m hn2 (by simp [lateW]) (pokes_of HRow10.out (HIn.out.grown HS10'.out.g) HL8.out))
                clear hs10 hsw heb hn2 HS10 HW2 HS9 HRow9 HQ9 HR9 HBu9 HBv HRow10
                go_upto_region 33 with (go_at_call 23; (with_reducible refine HVL2.out.mono ?_); rintro e w11 ⟨rfl, ⟨f11, hv11⟩, g11⟩; have HV11 := hid (HS10'.out.a.view hv11 g11); have HS11 := hid (HS10'.out.grown g11); have HG11 := hid g11; clear hv11 g11)
                obtain ⟨⟨r1, r2, sE⟩, hR⟩ : ∃ R, sD.mapE (pkL g) 0 1 0 md 0 = R := ⟨_, rfl⟩
                have hfree : sD.g.free 0 = some 0 := Gst.free_at (by omega) (fun j hj => by omega) (by rw [HSD.out.mp]; rfl)
                have HMap := hid (show Calls Try.prog 44 #[.pointer (some ⟨X, 0, none⟩), .pointer (some ⟨w10.heap.size + 1, 0, none⟩), .int .i64 0, .int .i64 1, .int .i64 0, .bool md] w11 _ from gMap_rd HV11.out HSD.out.ok (by omega) (by unfold maxLen; omega) (late_fits l HL8.out) (by simp [lateW]) (by omega) 0 1 0 md (by decide) (by omega) (by omega) 2 1 HSD.out.mem1 (by omega) (by rw [HSD.out.n]; omega) (by omega) 0 hfree (r1, r2, sE) (by rw [sD.due_nil (late0 l), show sD.entB ((1 : Nat) : Int) ((0 : Nat) : Int) = pkL g from HED.out]; exact hR))
                simp only [mapRet] at HMap
                clear hfree
                have HNo := hid (fun (ho : okW g md = false) => (by have := map_no HSD.out HPp.out md ho 0; rw [hR] at this; exact this : r2 ≠ 0))
                have HYes := hid (fun (ho : okW g md = true) => (by have := map_yes HSD.out HPp.out md ho 0; rw [show sD.mapE (pkL g) 0 1 0 md 0 = (r1, r2, sE) from hR] at this; exact this : r1 = ((0 : Nat) : Int) ∧ r2 = 0 ∧ ∃ a, sE.g.mp (0, ((0 : Nat) : Int)) = some a ∧ sE.M.ok 3))
                clear hR
                go_upto_region 34 with (go_at_call 44; (with_reducible refine HMap.out.mono ?_); rintro e w12 ⟨rfl, h12⟩; have HR12 := hid h12; clear h12)
                have HG12 := hid (HR12.out.c.grownR HS11.out.g (fun q e => by have h1 := HS11.out.g.size; have h2 := HS10'.out.g.size; rcases e with e | e | e; exact HS11.out.far q e; all_goals omega))
                have HRd := hid (show Calls Try.prog 26 #[.pointer (some ⟨w10.heap.size + 1, 0, none⟩)] w12 (fun e w' => e = .returned (.int .i64 1) ∧ w12 = w') by obtain ⟨f, hv⟩ := HR12.out.a.v; exact vReads _ _ _ _ _ _ _ _ _ hv)
                have rb := Row.grown HB.out HG12.out (by simp)
                have q0 := rb.cell (k := 0) (by omega); have q1 := rb.cell (k := 1) (by omega); have q2 := rb.cell (k := 2) (by omega); have q3 := rb.cell (k := 3) (by omega); have q4 := rb.cell (k := 4) (by omega)
                simp only [sevV, List.getD_cons_zero, List.getD_cons_succ] at q0 q1 q2 q3 q4
                clear rb HMap HVL2 HV11 HS11 HS10' HG11 HSD HED
                by_cases a1 : g.k = 1
                · have b1 : (g.k == 1) = true := by simpa using a1
                  by_cases a2 : g.dom = 0
                  · have b2 : (g.dom == 0) = true := by simpa using a2
                    by_cases a3 : g.gpfn < 2
                    · have b3 : decide (g.gpfn < 2) = true := by simpa using a3
                      cases a4 : g.sub with
                      | true =>
                        rw [a4] at q2
                        have h2 := HNo.out (by unfold okW; simp [a1, a2, a3, a4])
                        have hb2 : (r2 == 0) = false := by simpa using h2
                        have hb3 : (r2 != 0) = true := by simpa using h2
                        clear HNo HYes h2
                        go_wp2_with (go_at_call 26; (with_reducible refine HRd.out.mono ?_); rintro e w' ⟨rfl, rfl⟩)
                        go_ret
                        exact ⟨rfl, HG0.out.trans HG12.out⟩
                      | false =>
                        rw [a4] at q2
                        cases md with
                        | false =>
                          obtain ⟨h1, h2, a, ha, hk3⟩ := HYes.out (by unfold okW; simp [a1, a2, a3, a4])
                          subst h1
                          subst h2
                          have HUm := hid (show Calls Try.prog 51 #[.pointer (some ⟨X, 0, none⟩), .int .i64 0, .int .i64 0] w12 (fun e w' => e = .returned (.int .i64 0) ∧ GL w12 X B G pm 2 (sE.unmap 0 0).2 (2 * 2 + 1) w') by
                            have hu : (sE.unmap 0 0).1 = 0 := by
                              have hl : sE.live 0 0 = (a, 0) := by unfold Gs.live; rw [if_neg (by decide), show sE.g.mp (0, 0) = some a from ha]
                              unfold Gs.unmap
                              rw [hl, if_pos rfl]
                            have := gUnmap HR12.out.a.a hk3 (by omega) 0 0 (by decide)
                            rw [hu] at this
                            exact this)
                          clear HNo HYes ha hk3
                          go_wp2_with (first
                            | (go_at_call 26; (with_reducible refine HRd.out.mono ?_); rintro e w' ⟨rfl, rfl⟩)
                            | (go_at_call 51; (with_reducible refine HUm.out.mono ?_); rintro e w13 ⟨rfl, h13⟩; have HG13 := hid (h13.c.grownR HG12.out (fun q e => HFar.out q e)); clear h13))
                          go_ret
                          exact ⟨rfl, HG0.out.trans HG13.out⟩
                        | true =>
                          cases a5 : g.ro with
                          | false =>
                            rw [a5] at q1
                            obtain ⟨h1, h2, a, ha, hk3⟩ := HYes.out (by unfold okW; simp [a1, a2, a3, a4, a5])
                            subst h1
                            subst h2
                            have HUm := hid (show Calls Try.prog 51 #[.pointer (some ⟨X, 0, none⟩), .int .i64 0, .int .i64 0] w12 (fun e w' => e = .returned (.int .i64 0) ∧ GL w12 X B G pm 2 (sE.unmap 0 0).2 (2 * 2 + 1) w') by
                              have hu : (sE.unmap 0 0).1 = 0 := by
                                have hl : sE.live 0 0 = (a, 0) := by unfold Gs.live; rw [if_neg (by decide), show sE.g.mp (0, 0) = some a from ha]
                                unfold Gs.unmap
                                rw [hl, if_pos rfl]
                              have := gUnmap HR12.out.a.a hk3 (by omega) 0 0 (by decide)
                              rw [hu] at this
                              exact this)
                            clear HNo HYes ha hk3
                            go_wp2_with (first
                              | (go_at_call 26; (with_reducible refine HRd.out.mono ?_); rintro e w' ⟨rfl, rfl⟩)
                              | (go_at_call 51; (with_reducible refine HUm.out.mono ?_); rintro e w13 ⟨rfl, h13⟩; have HG13 := hid (h13.c.grownR HG12.out (fun q e => HFar.out q e)); clear h13))
                            go_ret
                            exact ⟨rfl, HG0.out.trans HG13.out⟩
                          | true =>
                            rw [a5] at q1
                            have h2 := HNo.out (by unfold okW; simp [a1, a2, a3, a4, a5])
                            have hb2 : (r2 == 0) = false := by simpa using h2
                            have hb3 : (r2 != 0) = true := by simpa using h2
                            clear HNo HYes h2
                            go_wp2_with (go_at_call 26; (with_reducible refine HRd.out.mono ?_); rintro e w' ⟨rfl, rfl⟩)
                            go_ret
                            exact ⟨rfl, HG0.out.trans HG12.out⟩
                    · have b3 : decide (g.gpfn < 2) = false := by simpa using a3
                      have h2 := HNo.out (by unfold okW; simp [a1, a2, a3])
                      have hb2 : (r2 == 0) = false := by simpa using h2
                      have hb3 : (r2 != 0) = true := by simpa using h2
                      clear HNo HYes h2
                      go_wp2_with (go_at_call 26; (with_reducible refine HRd.out.mono ?_); rintro e w' ⟨rfl, rfl⟩)
                      go_ret
                      exact ⟨rfl, HG0.out.trans HG12.out⟩
                  · have b2 : (g.dom == 0) = false := by simpa using a2
                    have h2 := HNo.out (by unfold okW; simp [a1, a2])
                    have hb2 : (r2 == 0) = false := by simpa using h2
                    have hb3 : (r2 != 0) = true := by simpa using h2
                    clear HNo HYes h2
                    go_wp2_with (go_at_call 26; (with_reducible refine HRd.out.mono ?_); rintro e w' ⟨rfl, rfl⟩)
                    go_ret
                    exact ⟨rfl, HG0.out.trans HG12.out⟩
                · have b1 : (g.k == 1) = false := by simpa using a1
                  have h2 := HNo.out (by unfold okW; simp [a1])
                  have hb2 : (r2 == 0) = false := by simpa using h2
                  have hb3 : (r2 != 0) = true := by simpa using h2
                  clear HNo HYes h2
                  go_wp2_with (go_at_call 26; (with_reducible refine HRd.out.mono ?_); rintro e w' ⟨rfl, rfl⟩)
                  go_ret
                  exact ⟨rfl, HG0.out.trans HG12.out⟩
              · have hb1 : (g.gpfn == 1) = false := by simpa using h1
                clear h1 HBy
                go_upto_region 31 with fail
                clear hb1 hee p4
                have HW2 := hid (Write_any B 2 0 (.slice (some ⟨gq, 0, none⟩) 8 cq) (pkL g) w9 sv.M 2 HS9.out.a.m HSv.out.ok (by omega) (KeptBytes.is HQ9.out cq B (fun e => HGqB.out e.symm)) (by rw [pkL_len]; omega))
                go_upto_region 32 with (go_at_call 18; (with_reducible refine HW2.out.mono ?_); rintro e w10 ⟨rfl, h10, g10⟩; have HS10 := hid (HS9.out.mach h10 g10); have HRow10 := hid (Row.grown HRow9.out g10 (fun e => HGq.out (Option.some.inj e))); clear h10 g10)
                obtain ⟨sD, hs10, hsw, heb⟩ : ∃ sD, WS W0 w10 X B G pm 2 sD (2 * 2) ∧ SW sD ∧ sD.entB 1 0 = pkL g := ⟨_, HS10.out, HSv.out.write 2 0 (pkL g), HSv.out.entB_write _ (pkL_len g)⟩
                have HS10' := hid hs10
                have HSD := hid hsw
                have HED := hid heb
                have hn2 : 1 ≤ sD.M.n := hsw.ok.n1
                have HVL2 := hid (show Calls Try.prog 23 #[.pointer (some ⟨B, 0, none⟩), .slice (some ⟨w5.heap.size, 0, none⟩) 2 2] w10 _ from vNew B (some ⟨w5.heap.size, 0, none⟩) 2 (lateW l) w10 sD.M HS10'.out.a.m hn2 (by simp [lateW]) (pokes_of HRow10.out (HIn.out.grown HS10'.out.g) HL8.out))
                clear hs10 hsw heb hn2 HS10 HW2 HS9 HRow9 HQ9 HR9 HBu9 HBv HRow10
                go_upto_region 33 with (go_at_call 23; (with_reducible refine HVL2.out.mono ?_); rintro e w11 ⟨rfl, ⟨f11, hv11⟩, g11⟩; have HV11 := hid (HS10'.out.a.view hv11 g11); have HS11 := hid (HS10'.out.grown g11); have HG11 := hid g11; clear hv11 g11)
                obtain ⟨⟨r1, r2, sE⟩, hR⟩ : ∃ R, sD.mapE (pkL g) 0 1 0 md 0 = R := ⟨_, rfl⟩
                have hfree : sD.g.free 0 = some 0 := Gst.free_at (by omega) (fun j hj => by omega) (by rw [HSD.out.mp]; rfl)
                have HMap := hid (show Calls Try.prog 44 #[.pointer (some ⟨X, 0, none⟩), .pointer (some ⟨w10.heap.size + 1, 0, none⟩), .int .i64 0, .int .i64 1, .int .i64 0, .bool md] w11 _ from gMap_rd HV11.out HSD.out.ok (by omega) (by unfold maxLen; omega) (late_fits l HL8.out) (by simp [lateW]) (by omega) 0 1 0 md (by decide) (by omega) (by omega) 2 1 HSD.out.mem1 (by omega) (by rw [HSD.out.n]; omega) (by omega) 0 hfree (r1, r2, sE) (by rw [sD.due_nil (late0 l), show sD.entB ((1 : Nat) : Int) ((0 : Nat) : Int) = pkL g from HED.out]; exact hR))
                simp only [mapRet] at HMap
                clear hfree
                have HNo := hid (fun (ho : okW g md = false) => (by have := map_no HSD.out HPp.out md ho 0; rw [hR] at this; exact this : r2 ≠ 0))
                have HYes := hid (fun (ho : okW g md = true) => (by have := map_yes HSD.out HPp.out md ho 0; rw [show sD.mapE (pkL g) 0 1 0 md 0 = (r1, r2, sE) from hR] at this; exact this : r1 = ((0 : Nat) : Int) ∧ r2 = 0 ∧ ∃ a, sE.g.mp (0, ((0 : Nat) : Int)) = some a ∧ sE.M.ok 3))
                clear hR
                go_upto_region 34 with (go_at_call 44; (with_reducible refine HMap.out.mono ?_); rintro e w12 ⟨rfl, h12⟩; have HR12 := hid h12; clear h12)
                have HG12 := hid (HR12.out.c.grownR HS11.out.g (fun q e => by have h1 := HS11.out.g.size; have h2 := HS10'.out.g.size; rcases e with e | e | e; exact HS11.out.far q e; all_goals omega))
                have HRd := hid (show Calls Try.prog 26 #[.pointer (some ⟨w10.heap.size + 1, 0, none⟩)] w12 (fun e w' => e = .returned (.int .i64 1) ∧ w12 = w') by obtain ⟨f, hv⟩ := HR12.out.a.v; exact vReads _ _ _ _ _ _ _ _ _ hv)
                have rb := Row.grown HB.out HG12.out (by simp)
                have q0 := rb.cell (k := 0) (by omega); have q1 := rb.cell (k := 1) (by omega); have q2 := rb.cell (k := 2) (by omega); have q3 := rb.cell (k := 3) (by omega); have q4 := rb.cell (k := 4) (by omega)
                simp only [sevV, List.getD_cons_zero, List.getD_cons_succ] at q0 q1 q2 q3 q4
                clear rb HMap HVL2 HV11 HS11 HS10' HG11 HSD HED
                by_cases a1 : g.k = 1
                · have b1 : (g.k == 1) = true := by simpa using a1
                  by_cases a2 : g.dom = 0
                  · have b2 : (g.dom == 0) = true := by simpa using a2
                    by_cases a3 : g.gpfn < 2
                    · have b3 : decide (g.gpfn < 2) = true := by simpa using a3
                      cases a4 : g.sub with
                      | true =>
                        rw [a4] at q2
                        have h2 := HNo.out (by unfold okW; simp [a1, a2, a3, a4])
                        have hb2 : (r2 == 0) = false := by simpa using h2
                        have hb3 : (r2 != 0) = true := by simpa using h2
                        clear HNo HYes h2
                        go_wp2_with (go_at_call 26; (with_reducible refine HRd.out.mono ?_); rintro e w' ⟨rfl, rfl⟩)
                        go_ret
                        exact ⟨rfl, HG0.out.trans HG12.out⟩
                      | false =>
                        rw [a4] at q2
                        cases md with
                        | false =>
                          obtain ⟨h1, h2, a, ha, hk3⟩ := HYes.out (by unfold okW; simp [a1, a2, a3, a4])
                          subst h1
                          subst h2
                          have HUm := hid (show Calls Try.prog 51 #[.pointer (some ⟨X, 0, none⟩), .int .i64 0, .int .i64 0] w12 (fun e w' => e = .returned (.int .i64 0) ∧ GL w12 X B G pm 2 (sE.unmap 0 0).2 (2 * 2 + 1) w') by
                            have hu : (sE.unmap 0 0).1 = 0 := by
                              have hl : sE.live 0 0 = (a, 0) := by unfold Gs.live; rw [if_neg (by decide), show sE.g.mp (0, 0) = some a from ha]
                              unfold Gs.unmap
                              rw [hl, if_pos rfl]
                            have := gUnmap HR12.out.a.a hk3 (by omega) 0 0 (by decide)
                            rw [hu] at this
                            exact this)
                          clear HNo HYes ha hk3
                          go_wp2_with (first
                            | (go_at_call 26; (with_reducible refine HRd.out.mono ?_); rintro e w' ⟨rfl, rfl⟩)
                            | (go_at_call 51; (with_reducible refine HUm.out.mono ?_); rintro e w13 ⟨rfl, h13⟩; have HG13 := hid (h13.c.grownR HG12.out (fun q e => HFar.out q e)); clear h13))
                          go_ret
                          exact ⟨rfl, HG0.out.trans HG13.out⟩
                        | true =>
                          cases a5 : g.ro with
                          | false =>
                            rw [a5] at q1
                            obtain ⟨h1, h2, a, ha, hk3⟩ := HYes.out (by unfold okW; simp [a1, a2, a3, a4, a5])
                            subst h1
                            subst h2
                            have HUm := hid (show Calls Try.prog 51 #[.pointer (some ⟨X, 0, none⟩), .int .i64 0, .int .i64 0] w12 (fun e w' => e = .returned (.int .i64 0) ∧ GL w12 X B G pm 2 (sE.unmap 0 0).2 (2 * 2 + 1) w') by
                              have hu : (sE.unmap 0 0).1 = 0 := by
                                have hl : sE.live 0 0 = (a, 0) := by unfold Gs.live; rw [if_neg (by decide), show sE.g.mp (0, 0) = some a from ha]
                                unfold Gs.unmap
                                rw [hl, if_pos rfl]
                              have := gUnmap HR12.out.a.a hk3 (by omega) 0 0 (by decide)
                              rw [hu] at this
                              exact this)
                            clear HNo HYes ha hk3
                            go_wp2_with (first
                              | (go_at_call 26; (with_reducible refine HRd.out.mono ?_); rintro e w' ⟨rfl, rfl⟩)
                              | (go_at_call 51; (with_reducible refine HUm.out.mono ?_); rintro e w13 ⟨rfl, h13⟩; have HG13 := hid (h13.c.grownR HG12.out (fun q e => HFar.out q e)); clear h13))
                            go_ret
                            exact ⟨rfl, HG0.out.trans HG13.out⟩
                          | true =>
                            rw [a5] at q1
                            have h2 := HNo.out (by unfold okW; simp [a1, a2, a3, a4, a5])
                            have hb2 : (r2 == 0) = false := by simpa using h2
                            have hb3 : (r2 != 0) = true := by simpa using h2
                            clear HNo HYes h2
                            go_wp2_with (go_at_call 26; (with_reducible refine HRd.out.mono ?_); rintro e w' ⟨rfl, rfl⟩)
                            go_ret
                            exact ⟨rfl, HG0.out.trans HG12.out⟩
                    · have b3 : decide (g.gpfn < 2) = false := by simpa using a3
                      have h2 := HNo.out (by unfold okW; simp [a1, a2, a3])
                      have hb2 : (r2 == 0) = false := by simpa using h2
                      have hb3 : (r2 != 0) = true := by simpa using h2
                      clear HNo HYes h2
                      go_wp2_with (go_at_call 26; (with_reducible refine HRd.out.mono ?_); rintro e w' ⟨rfl, rfl⟩)
                      go_ret
                      exact ⟨rfl, HG0.out.trans HG12.out⟩
                  · have b2 : (g.dom == 0) = false := by simpa using a2
                    have h2 := HNo.out (by unfold okW; simp [a1, a2])
                    have hb2 : (r2 == 0) = false := by simpa using h2
                    have hb3 : (r2 != 0) = true := by simpa using h2
                    clear HNo HYes h2
                    go_wp2_with (go_at_call 26; (with_reducible refine HRd.out.mono ?_); rintro e w' ⟨rfl, rfl⟩)
                    go_ret
                    exact ⟨rfl, HG0.out.trans HG12.out⟩
                · have b1 : (g.k == 1) = false := by simpa using a1
                  have h2 := HNo.out (by unfold okW; simp [a1])
                  have hb2 : (r2 == 0) = false := by simpa using h2
                  have hb3 : (r2 != 0) = true := by simpa using h2
                  clear HNo HYes h2
                  go_wp2_with (go_at_call 26; (with_reducible refine HRd.out.mono ?_); rintro e w' ⟨rfl, rfl⟩)
                  go_ret
                  exact ⟨rfl, HG0.out.trans HG12.out⟩
            · have hl8' : decide (8 < l.length) = true := by simp; omega
              have hl9 : (8 : Int) < l.length := by omega
              have HUn := hid (fun w' => gPn_len none 0 0 w' (by omega))
              simp only [g0, GV.val] at HUn
              clear hp hl8
              go_wp2_with (first
                | (go_at_call 39; (with_reducible refine HPk.out.mono ?_); intro e w3 h3; obtain ⟨gq, cq, rfl, -, g3⟩ := pk_some (pkL_len g) h3; have G3 := hid (HG0.out.trans (HS1.out.g.trans g3)); clear g3 h3)
                | (go_at_call 40; (with_reducible refine (HUn.out _).mono ?_); rintro e w4 ⟨rfl, g4⟩; have G4 := hid (G3.out.trans g4); clear g4))
              go_ret
              exact ⟨rfl, G4.out.trans (World.grownBy_alloc _ _ none)⟩
theorem grant_flat : Flat.isFlat Try.prog 73 [3, 4, 4, 3, 3, 3, 3] = true := by kernel_rfl
theorem list7 {α : Type} {l : List α} (h : l.length = 7) : ∃ a b c d e f g, l = [a, b, c, d, e, f, g] := by
  match l, h with
  | [a, b, c, d, e, f, g], _ => exact ⟨a, b, c, d, e, f, g, rfl⟩
theorem main {H : Type} {enc : TypeId × Value → H} (l0 : List Value) (v1 v2 v3 v4 : Value) (W : World)
    (z0 : l0.length = [3, 4, 4, 3, 3, 3, 3].length) (c0 : ∀ (j : Nat) (t : TypeId), [3, 4, 4, 3, 3, 3, 3][j]? = some t → ∃ u : Value, l0[j]? = some u ∧ Flat.Came enc Try.prog W 0 (fun _ => true) true t u)
    (c1 : Flat.Came enc Try.prog W 0 (fun _ => true) true 31 v1) (c2 : Flat.Came enc Try.prog W 0 (fun _ => true) true 4 v2)
    (c3 : Flat.Came enc Try.prog W 0 (fun _ => true) true 5 v3) (c4 : Flat.Came enc Try.prog W 0 (fun _ => true) true 5 v4) :
    Calls Try.prog 13 #[.agg l0.toArray, v1, v2, v3, v4] W fun e w' => e = .returned (.bool true) ∧ W.grownBy w' none := by
  obtain ⟨u0, u1, u2, u3, u4, u5, u6, rfl⟩ := list7 z0
  obtain ⟨_, e0, k0⟩ := c0 0 _ rfl
  obtain ⟨_, e1, k1⟩ := c0 1 _ rfl
  obtain ⟨_, e2, k2⟩ := c0 2 _ rfl
  obtain ⟨_, e3, k3⟩ := c0 3 _ rfl
  obtain ⟨_, e4, k4⟩ := c0 4 _ rfl
  obtain ⟨_, e5, k5⟩ := c0 5 _ rfl
  obtain ⟨_, e6, k6⟩ := c0 6 _ rfl
  simp only [List.getElem?_cons_zero, List.getElem?_cons_succ, Option.some.injEq] at e0 e1 e2 e3 e4 e5 e6
  subst e0 e1 e2 e3 e4 e5 e6
  obtain ⟨k, rfl, _⟩ := k0.int Try.underlying3
  obtain ⟨ro, rfl⟩ := k1.bool Try.underlying4
  obtain ⟨sub, rfl⟩ := k2.bool Try.underlying4
  obtain ⟨d, rfl, _⟩ := k3.int Try.underlying3
  obtain ⟨gp, rfl, _⟩ := k4.int Try.underlying3
  obtain ⟨off, rfl, _⟩ := k5.int Try.underlying3
  obtain ⟨ln, rfl, _⟩ := k6.int Try.underlying3
  obtain ⟨pa, l, cap, rfl, hin, hl⟩ := came_bytes c1
  obtain ⟨md, rfl⟩ := c2.bool Try.underlying4
  obtain ⟨a, rfl, h3⟩ := c3.int Try.underlying5
  obtain ⟨b, rfl, h4⟩ := c4.int Try.underlying5
  obtain ⟨a0, a1⟩ := bounds_u8 h3
  obtain ⟨b0, b1⟩ := bounds_u8 h4
  obtain ⟨fr, rfl⟩ := Int.eq_ofNat_of_zero_le a0
  obtain ⟨kk, rfl⟩ := Int.eq_ofNat_of_zero_le b0
  exact walk ⟨k, ro, sub, d, gp, off, ln⟩ pa cap l md fr kk W hin (by omega) (by omega)
theorem own : ownKnob Try.prog.godebug = none := by kernel_rfl
theorem laidOut : laidOutB Try.prog = true := by kernel_rfl

set_option maxRecDepth 100000 in
theorem lifted (os : Os) (started : os.Started) (H : Type) (enc : TypeId × Value → H) :
    ReturnsInHanded {} Try.checked os 13 .any (Rows.wholeGrantSpec.pre6 enc Try.prog Try.f13 Rows.wholeGrantRow.domain false) (Rows.wholeGrantSpec.post enc Try.prog Try.f13 false true false false) := by
  refine returnsInHanded_of_change_sized (C := Try.checked) own started (by kernel_rfl) Try.func13
    (ChangeSpec.witness6 (enc := enc) (C := Try.checked) false ⟨#[], #[.agg #[.int .i64 0, .bool false, .bool false, .int .i64 0, .int .i64 0, .int .i64 0, .int .i64 0], .slice none 0 0, .bool false, .int .u8 0, .int .u8 0], []⟩ 8 (by kernel_rfl) (by kernel_rfl) (by kernel_rfl) (by kernel_rfl)) ?_
  intro W base args ds gs before hval0 hW _ hsz0 _
  have hsz : (DataW.weightsEach Try.prog (Try.f13.params.toList ++ Rows.wholeGrantSpec.plain.varTypes Try.prog) (ds ++ gs)).all (· ≤ reachBytes) = true := hsz0
  clear hsz0
  have hval : ∀ (j : Nat) t v, Try.f13.params[j]? = some t → args[j]? = some v → Value.okWide Try.prog W .any base t v := hval0
  have hW' := hW
  obtain ⟨p, q, hA0, hV, rfl, hfz, hnd⟩ := hW
  have hA : DataW.TrodAll enc Try.prog W 0 (fun _ => true) true Try.f13.params.toList args.toList ds p := hA0
  rw [Try.params13] at hA hval hsz
  obtain ⟨v0, vs0, d0, ds0, p0, q0, hargs, rfl, rfl, h0, r0⟩ := trodAll_cons hA
  obtain ⟨v1, vs1, d1, ds1, p1, q1, rfl, rfl, rfl, h1, r1⟩ := trodAll_cons r0
  obtain ⟨v2, vs2, d2, ds2, p2, q2, rfl, rfl, rfl, h2, r2⟩ := trodAll_cons r1
  obtain ⟨v3, vs3, d3, ds3, p3, q3, rfl, rfl, rfl, h3, r3⟩ := trodAll_cons r2
  obtain ⟨v4, vs4, d4, ds4, p4, q4, rfl, rfl, rfl, h4, r4⟩ := trodAll_cons r3
  obtain ⟨rfl, rfl, rfl⟩ := trodAll_nil r4
  obtain rfl : args = #[v0, v1, v2, v3, v4] := by cases args; simp_all
  obtain ⟨rfl, rfl⟩ := trodVars_none hV
  have sz0 : ∀ n ∈ d0.weights Try.prog 73, n ≤ reachBytes := fun n hn => by
    have := List.all_eq_true.1 hsz n (DataW.weights_mem_each (j := 0) rfl rfl n hn)
    simpa using this
  obtain ⟨l0, rfl, z0, c0⟩ := Flat.open_agg grant_flat (hval 0 73 v0 rfl rfl) h0 sz0
  have k0 := h0
  have lt0 : ∀ x ∈ p0, x.block < W.heap.size := by obtain ⟨m, hm⟩ := k0; exact DataW.trod_lt m _ _ _ hm
  obtain ⟨ps1, ln1, cp1, rfl⟩ := okWide_slice Try.underlying31 (hval 1 31 v1 rfl rfl)
  have k1 := h1
  have lt1 : ∀ x ∈ p1, x.block < W.heap.size := by obtain ⟨m, hm⟩ := k1; exact DataW.trod_lt m _ _ _ hm
  have c1 : Flat.Came enc Try.prog W 0 (fun _ => true) true 31 (.slice ps1 ln1 cp1) := by
    obtain ⟨fuel, hf⟩ := h1
    exact ⟨fuel, _, hf, fun n hn => by
      have := List.all_eq_true.1 hsz n (DataW.weights_mem_each (j := 1) rfl rfl n hn)
      simpa using this⟩
  obtain ⟨a2, rfl, rfl, rfl⟩ := open_bool Try.underlying4 (hval 2 4 v2 rfl rfl) h2
  have k2 := h2
  have lt2 : ∀ x ∈ ([] : List MemPlace), x.block < W.heap.size := by obtain ⟨m, hm⟩ := k2; exact DataW.trod_lt m _ _ _ hm
  have c2 : Flat.Came enc Try.prog W 0 (fun _ => true) true 4 (.bool a2) := by
    obtain ⟨fuel, hf⟩ := h2
    exact ⟨fuel, _, hf, fun n hn => by
      have := List.all_eq_true.1 hsz n (DataW.weights_mem_each (j := 2) rfl rfl n hn)
      simpa using this⟩
  obtain ⟨a3, rfl, rfl, rfl, w3⟩ := open_int Try.underlying5 (hval 3 5 v3 rfl rfl) h3
  have k3 := h3
  have lt3 : ∀ x ∈ ([] : List MemPlace), x.block < W.heap.size := by obtain ⟨m, hm⟩ := k3; exact DataW.trod_lt m _ _ _ hm
  have c3 : Flat.Came enc Try.prog W 0 (fun _ => true) true 5 (.int .u8 a3) := by
    obtain ⟨fuel, hf⟩ := h3
    exact ⟨fuel, _, hf, fun n hn => by
      have := List.all_eq_true.1 hsz n (DataW.weights_mem_each (j := 3) rfl rfl n hn)
      simpa using this⟩
  obtain ⟨a4, rfl, rfl, rfl, w4⟩ := open_int Try.underlying5 (hval 4 5 v4 rfl rfl) h4
  have k4 := h4
  have lt4 : ∀ x ∈ ([] : List MemPlace), x.block < W.heap.size := by obtain ⟨m, hm⟩ := k4; exact DataW.trod_lt m _ _ _ hm
  have c4 : Flat.Came enc Try.prog W 0 (fun _ => true) true 5 (.int .u8 a4) := by
    obtain ⟨fuel, hf⟩ := h4
    exact ⟨fuel, _, hf, fun n hn => by
      have := List.all_eq_true.1 hsz n (DataW.weights_mem_each (j := 4) rfl rfl n hn)
      simpa using this⟩
  clear hA0 hval0
  refine (main l0 (.slice ps1 ln1 cp1) (.bool a2) (.int .u8 a3) (.int .u8 a4) W z0 c0 c1 c2 c3 c4).mono fun e W' ⟨he, hg⟩ => ?_
  subst he
  have bel := below_grown' hg
  simp only [List.append_nil, List.nil_append] at hW'
  exact ⟨_, rfl, _, _, _, [], _, [], hW', trodAll_mk1 (shut_bool Try.underlying4 _), (trodAll_cons_mk (Below.trod laidOut (by kernel_rfl) (of_decide_eq_true (by kernel_rfl)) k0 bel lt0) (trodAll_cons_mk (Below.trod laidOut (by kernel_rfl) (of_decide_eq_true (by kernel_rfl)) k1 bel lt1) (trodAll_cons_mk (Below.trod laidOut (by kernel_rfl) (of_decide_eq_true (by kernel_rfl)) k2 bel lt2) (trodAll_cons_mk (Below.trod laidOut (by kernel_rfl) (of_decide_eq_true (by kernel_rfl)) k3 bel lt3) (trodAll_cons_mk (Below.trod laidOut (by kernel_rfl) (of_decide_eq_true (by kernel_rfl)) k4 bel lt4) trodAll_mk0))))), rfl, bel.frame _, fun h => by cases h⟩

theorem proved : Rows.WholeGrantSaid :=
  OpenClaim.holds_of_wide 13 Try.f13 rfl rfl rfl rfl rfl rfl rfl ⟨rfl, rfl, rfl, rfl, rfl⟩ rfl rfl rfl rfl rfl (by kernel_rfl) Try.func13 (by kernel_rfl)
    (of_decide_eq_true (by kernel_rfl)) (by unfold Func.isWrapper; first | (rw [if_pos (by decide +kernel)]; kernel_rfl) | (rw [if_neg (by decide +kernel)]; exact ⟨rfl, rfl⟩))
    (fun os started H enc _ => lifted os started H enc)
#print axioms proved
end Go.Proofs.Ytaocnknofklmoaa.lawGrWhole
