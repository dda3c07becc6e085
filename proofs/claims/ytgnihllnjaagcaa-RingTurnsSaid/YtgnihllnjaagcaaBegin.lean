/-
  Package tenementlaw02: begin.
-/
import Derived.Test.YtgnihllnjaagcaaViewD
import Derived.Test.YtgnihllnjaagcaaBg
import Derived.Test.YtgnihllnjaagcaaOpen
import Derived.StillTailTactics
set_option linter.unusedSimpArgs false
set_option linter.unusedVariables false
namespace Go.Proofs.Ytgnihllnjaagcaa
open Go.RowKit
set_option maxHeartbeats 2000000

/-- what a frame begins with -/
structure StartV where
  owner : Int
  kind : Int
  l : List UInt8
instance : Inhabited StartV := ⟨⟨0, 0, []⟩⟩
def Mach.start (M : Mach) (i : Int) (s : StartV) : Mach := ((((M.alloc (-2)).2.2.give i s.owner).2.get i s.owner s.kind).2.write i 0 s.l).2
/-- the machine that begin makes, behind k rounds -/
def beginK (ss : List StartV) (n : Nat) : Nat → Mach
  | 0 => upTo ((n + 1 : Nat) : Int) (n + 1)
  | k + 1 => (beginK ss n k).start k (ss.getD k default)
theorem Mach.start_ok {M : Mach} {T : Int} (h : M.ok T) (i : Int) (s : StartV) : (M.start i s).ok (T + 1) :=
  Mach.write_ok (Mach.get_ok (Mach.give_ok (Mach.alloc_ok h _) _ _) _ _ _) _ _ _
theorem Mach.start_n (M : Mach) (i : Int) (s : StartV) : (M.start i s).n = M.n := by
  unfold Mach.start; rw [Mach.vwrite_n, Mach.get_vn, Mach.give_vn, Mach.alloc_vn]
theorem beginK_ok (ss : List StartV) (n : Nat) (hn : n ≤ 8) (k : Nat) : (beginK ss n k).ok k := by
  induction k with
  | zero => exact upTo_ok' (n + 1) (by omega) (by omega)
  | succ k ih => have := Mach.start_ok ih k (ss.getD k default); simpa [beginK] using this
theorem beginK_n (ss : List StartV) (n k : Nat) : (beginK ss n k).n = ((n + 1 : Nat) : Int) := by
  induction k with
  | zero => rfl
  | succ k ih => exact (Mach.start_n _ _ _).trans ih

/-- starts that came in -/
def StartsIn (w : World) (pa : Option Addr) (ss : List StartV) : Prop := ∀ j (h : j < ss.length), ∃ sb off qa cap, pa = some ⟨sb, off, none⟩ ∧ sb < w.heap.size ∧
  w.cell? ⟨sb, off + j * 3, none⟩ = some (.int .i64 ss[j].owner) ∧ w.cell? ⟨sb, off + j * 3 + 1, none⟩ = some (.int .i64 ss[j].kind) ∧ w.cell? ⟨sb, off + j * 3 + 2, none⟩ = some (.slice qa ss[j].l.length cap) ∧ InBytes w qa ss[j].l ∧ ss[j].l.length ≤ 140737488351232
theorem StartsIn.grown {w w' : World} {pa : Option Addr} {ss : List StartV} (h : StartsIn w pa ss) (hg : w.grownBy w' none) : StartsIn w' pa ss := fun j hj => by
  obtain ⟨sb, off, qa, cap, e, hb, d0, d1, d2, hi, hl⟩ := h j hj
  exact ⟨sb, off, qa, cap, e, Nat.lt_of_lt_of_le hb hg.size, hg.cell d0 (by simp), hg.cell d1 (by simp), hg.cell d2 (by simp), hi.grown hg, hl⟩
set_option maxRecDepth 100000 in
theorem vBegin (pa : Option Addr) (cap : Nat) (ss : List StartV) (n : Nat) (w : World) (hin : StartsIn w pa ss) (hn : n = min ss.length 8) (hss : ss.length ≤ 9223372036854775807) :
    Calls Try.prog 19 #[.slice pa ss.length cap] w fun e w' => ∃ B b L, e = .returned (.tuple #[.pointer (some ⟨B, 0, none⟩), .pointer (some ⟨b, 0, none⟩), .bool true]) ∧ Bg w w' B b (beginK ss n n) L n := by
  have hn8 : n ≤ 8 := by omega
  have hns : n ≤ ss.length := by omega
  have HIn := hid hin
  have en : ((n + 1 : Nat) : Int) = (n : Int) + 1 := by omega
  have HN1 := hid (fun w => en ▸ New_yes (n + 1) w (by omega) (by omega) : ∀ w : World, Calls Try.prog 11 #[.int .i64 ((n : Int) + 1)] w fun e w' => ∃ v, e = .returned (.tuple #[v, .int .i64 0]) ∧ NewMach w (upTo ((n + 1 : Nat) : Int) (n + 1)) v w')
  have HN2 := hid (fun w => en ▸ rNew_yes (n + 1) w (by omega) (by omega) : ∀ w : World, Calls Try.prog 12 #[.int .i64 ((n : Int) + 1)] w fun e w' => ∃ v, e = .returned (.tuple #[v, .int .i64 0]) ∧ NewRef w (upTo ((n + 1 : Nat) : Int) (n + 1)) v w')
  have hmin : (if 8 < (ss.length : Int) then (8 : Int) else (ss.length : Int)) = (n : Int) := by split <;> omega
  have hn0 : (0 : Int) ≤ n := by omega
  have hn8' : (n : Int) ≤ 8 := by omega
  have HNs := hid hns
  have HSs := hid hss
  clear hin en hn hss hns
  go_enter Try.func19, Try.ntmps19
  go_wp2_with (first
    | (go_at_call 11; refine (HN1.out _).mono ?_; rintro e w1 ⟨v, rfl, B, rfl, hB, hM1, hg1⟩; have HB := hid hB; have HM1 := hid hM1; have HG1 := hid hg1; clear hM1 hg1 hB)
    | (go_at_call 12; refine (HN2.out _).mono ?_; rintro e w2 ⟨v, rfl, b, L, rfl, hr, hg2, hf⟩; have HO := hid (Bg.mk (w := w) (HM1.out.grown hg2 (by simp)) hr (beginK_ok ss n hn8 0) HB.out (fun k hk => Nat.le_trans HG1.out.size (hf k hk)) (HG1.out.trans hg2)); clear hr hg2 hf))
  clear hmin
  go_loopw [10] (fun i wr => ∃ (k : Nat) (L : Lay), i = .int .i64 k ∧ k ≤ n ∧ Bg w wr B b (beginK ss n k) L k) (fun i _ => n - (intOf i).toNat)
  case atStart => exact ⟨0, L, rfl, by omega, HO.out⟩
  case round =>
    clear HO HM1 HG1 HB
    obtain ⟨k, L, rfl, hk, hbg⟩ := hrel
    have HO := hid hbg
    clear hbg
    have hk0 : (0 : Int) ≤ k := by omega
    by_cases hkn : k < n
    · have hkn' : (k : Int) < n := by omega
      have hks : k < ss.length := Nat.lt_of_lt_of_le hkn HNs.out
      have hks' : (k : Int) < ss.length := by omega
      obtain ⟨sb, off, qa, qc, rfl, hsb, d0, d1, d2, hby, hbl⟩ := HIn.out k hks
      have HBk := hid (show beginK ss n (k + 1) = (beginK ss n k).start k ss[k] by show (beginK ss n k).start k (ss.getD k default) = _; simp [List.getD, List.getElem?_eq_getElem hks])
      have hn2 := HO.out.ok.n2
      have HOk := hid HO.out.ok
      obtain ⟨M, hM⟩ : ∃ M, beginK ss n k = M := ⟨_, rfl⟩
      rw [hM] at HO HBk HOk hn2
      clear hM
      generalize ss[k] = s at *
      have HBy := hid hby
      have HBl := hid hbl
      have hBs : sb ≠ B := by have := HO.out.farB; omega
      have D0 := hid d0; have D1 := hid d1; have D2 := hid d2
      have HT := hid (show (k : Int) < 9223372036854775807 by omega)
      clear hby hbl d0 d1 d2
      have HOk1 := hid (Mach.alloc_ok HOk.out (-2))
      have HOk2 := hid (Mach.give_ok HOk1.out k s.owner)
      have HOk3 := hid (Mach.get_ok HOk2.out k s.owner s.kind)
      have HOk4 := hid (Mach.write_ok HOk3.out k 0 s.l)
      go_upto_region 13 with (first
        | (go_at_call 16; refine (Alloc_any B (-2) _ M k HO.out.m HOk.out).mono ?_; rintro e w3 ⟨rfl, h3, g3⟩; have HM3 := hid h3; have HG3 := hid g3; have HR3 := hid (HO.out.r1 g3); clear h3 g3)
        | (go_at_call 56; refine (rAlloc b (-2) _ M L HR3.out hn2).mono ?_; rintro e w4 ⟨rfl, L4, h4, hn4, c4, f4⟩; have HO4 := hid (HO.out.step HM3.out HG3.out h4 c4 f4 HOk1.out); have e0 := HO4.out.grown.cell D0.out (by simp); clear h4 hn4 c4 f4)
        | (go_at_call 59; refine (Give_any B k s.owner _ _ k HO4.out.m HOk1.out).mono ?_; rintro e w5 ⟨rfl, h5, g5⟩; have HM5 := hid h5; have HG5 := hid g5; have HR5 := hid (HO4.out.r1 g5); have e1 := g5.cell (a := ⟨sb, off + k * 3, none⟩) e0 (by simp; exact hBs); clear h5 g5)
        | (go_at_call 60; refine (rGive b k s.owner _ _ L4 HR5.out).mono ?_; rintro e w6 ⟨rfl, L6, h6, hn6, c6, f6⟩; have HO6 := hid (HO4.out.step HM5.out HG5.out h6 c6 f6 HOk2.out); have HO6d := hid (HO6.out.more (grownBy_drew _ none)); have e2 := HO6.out.grown.cell D0.out (by simp); have e3 := HO6.out.grown.cell D1.out (by simp); clear h6 hn6 c6 f6))
      have q5 : ((k : Int)).toNat = k := by omega
      go_still_tail 12, (by kernel_rfl)
      change wpList _ _ _ _ _ w6.drew
      go_upto_region 14 with (go_at_call 61; refine (Get_any B k s.owner s.kind _ _ k HO6d.out.m HOk2.out HT.out).mono ?_; rintro e w7 ⟨rfl, h7, g7⟩; have HM7 := hid ((PM.grown h7 (grownBy_drew w7 none) (by simp))); have HG7 := hid (g7.trans (grownBy_drew w7 (some B))); have HR7 := hid ((HO6d.out.r1 g7).grown (grownBy_drew w7 none)); have e4 := g7.cell (a := ⟨sb, off + k * 3, none⟩) (v := .int .i64 s.owner) (HO6d.out.grown.cell D0.out (by simp)) (by simp; exact hBs); have e5 := g7.cell (a := ⟨sb, off + k * 3 + 1, none⟩) (v := .int .i64 s.kind) (HO6d.out.grown.cell D1.out (by simp)) (by simp; exact hBs); clear h7 g7)
      go_still_tail 12, (by kernel_rfl)
      change wpList _ _ _ _ _ w7.drew
      clear q5
      go_wp2_with (first
        | (go_at_call 62; refine (rGet b k s.owner s.kind _ _ L6 k HR7.out HOk2.out HT.out).mono ?_; rintro e w8 ⟨rfl, L8, h8, hn8', c8, f8⟩; have HO8 := hid (HO6d.out.step HM7.out HG7.out h8 c8 f8 HOk3.out); have e6 := HO8.out.grown.cell D2.out (by simp); clear h8 hn8' c8 f8)
        | (go_at_call 15; refine (Write_any B k 0 _ s.l _ _ (k + 1) HO8.out.m HOk3.out (by omega) (HBy.out.far HO8.out.grown HO8.out.farB _) (by have := HBl.out; omega)).mono ?_; rintro e w9 ⟨rfl, h9, g9⟩; have HM9 := hid h9; have HG9 := hid g9; have HR9 := hid (HO8.out.r1 g9); have e7 := g9.cell (a := ⟨sb, off + k * 3 + 2, none⟩) e6 (by simp; exact hBs); clear h9 g9)
        | (go_at_call 66; refine (rWrite b k 0 qa qc s.l _ _ L8 HR9.out (by have := HBl.out; omega) (HBy.out.apart (grown_own HO8.out.grown HG9.out HO8.out.farB) HO8.out.far)).mono ?_; rintro e w10 ⟨rfl, L10, h10, hn10, c10, f10⟩; have HO10 := hid (HO8.out.step HM9.out HG9.out h10 c10 f10 HOk4.out); clear h10 hn10 c10 f10))
      go_roundw
      case rel => exact ⟨k + 1, L10, by go_num, by omega, by rw [HBk.out]; simpa [Mach.start] using HO10.out⟩
      case measure => simp [intOf]; omega
    · obtain rfl : k = n := by omega
      have hge : (k : Int) ≤ k := by omega
      go_wp2
      go_ret3
      exact ⟨B, b, L, rfl, HO.out⟩
end Go.Proofs.Ytgnihllnjaagcaa
