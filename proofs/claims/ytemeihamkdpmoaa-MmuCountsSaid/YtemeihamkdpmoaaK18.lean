/-
  Contracts of package tenementref01: Free.
-/
import Derived.Test.YtemeihamkdpmoaaK17
import Derived.Test.YtemeihamkdpmoaaK03
import Derived.Test.YtemeihamkdpmoaaK01
import Derived.Test.YtemeihamkdpmoaaK14
set_option linter.unusedSimpArgs false
set_option linter.unusedVariables false
namespace Go.Proofs.Ytemeihamkdpmoaa
open Go.RowKit
set_option maxHeartbeats 400000

/-- a new page -/
def zeros : Array Value := madeCells #[.int .u8 0] 256
theorem zeros_size : zeros.size = 256 := size_madeCells _ _
theorem zeros_at (k : Nat) (h : k < 256) : zeros[k]? = some (.int .u8 0) := by
  unfold zeros
  simp [madeCells, h, Nat.mod_one]
attribute [irreducible] zeros
theorem make_zeros (W : World) : (Instr.makeSlice 31 (.int .i64 256) (.int .i64 256)).run Try.prog W = .ok (.slice (some ⟨W.heap.size, 0, none⟩) 256 256) (W.alloc (.cells zeros 5)) := by
  have := u8_make W 256 (by omega)
  unfold zeros
  exact this
theorem zeros_row (W : World) : Row (W.alloc (.cells zeros 5)) W.heap.size 5 256 (byt blankFr) :=
  ⟨zeros, heap_alloc_new W _, by rw [zeros_size]; omega, fun k hk => by rw [zeros_at k hk]; rfl⟩

theorem free_left {w W : World} {b : Nat} {M : Mach} {L : Lay} {j : Nat} (h : RM W b (M.upd j { M.fr j with owner := -1 }) L) (hc : Chg (L.foot b) w W) (hj : j < L.n) (h1 : (M.fr j).ty = 0) (h2 : (M.fr j).cnt = 0) (h3 : (M.fr j).tot = 0) :
    ∃ L', RM ((W.alloc (.cells zeros 5)).setCell ⟨L.fB, j, none⟩ (.slice (some ⟨W.heap.size, 0, none⟩) 256 256)).drew b (M.upd j blankFr) L' ∧ L'.n = L.n ∧
      Chg (L.foot b) w ((W.alloc (.cells zeros 5)).setCell ⟨L.fB, j, none⟩ (.slice (some ⟨W.heap.size, 0, none⟩) 256 256)).drew ∧ ∀ k, L'.foot b k → L.foot b k ∨ w.heap.size ≤ k := by
  have h' := (h.grown (World.grownBy_alloc W (.cells zeros 5) none)).setRow hj (f := blankFr) (G := W.heap.size) (c := 256) (by omega) (zeros_row W) (fun i hi e => by
    have := (h.row i hi).lt
    omega) (fun q hq => by
    rw [Mach.upd_same]
    match q, hq with
    | 0, _ => rfl
    | 1, _ => simp [Fr.cell, blankFr, h1]
    | 2, _ => simp [Fr.cell, blankFr, h2]
    | 3, _ => simp [Fr.cell, blankFr, h3])
  rw [Mach.upd_upd] at h'
  have st : ∀ k, L.foot b k → L.foot b k ∨ w.heap.size ≤ k := fun _ h => .inl h
  refine ⟨_, h'.grown (grownBy_drew _ none), rfl, ((hc.trans (Chg.of0 (S := L.foot b) (World.grownBy_alloc W (.cells zeros 5) none)) st).trans (Chg.of (S := L.foot b) (grownBy_setCell _ L.fB j none _) fun k e => .inl (.inr (.inr (.inl (Option.some.inj e).symm)))) st).trans (Chg.of0 (S := L.foot b) (grownBy_drew _ none)) st, fun k hk => ?_⟩
  rcases hk with rfl | rfl | rfl | ⟨i, hi, rfl⟩
  · exact .inl (.inl rfl)
  · exact .inl (.inr (.inl rfl))
  · exact .inl (.inr (.inr (.inl rfl)))
  · simp only
    split
    · exact .inr hc.size
    · exact .inl (.inr (.inr (.inr ⟨i, hi, rfl⟩)))

set_option maxRecDepth 100000 in
theorem rFree (b : Nat) (i : Int) (w : World) (M : Mach) (L : Lay) (T : Int) (h : RM w b M L) (hok : M.ok T) :
    Calls Try.prog 63 #[.pointer (some ⟨b, 0, none⟩), .int .i64 i] w (RLeft b L w (M.free i).1 (M.free i).2) := by
  by_cases hi : i < 0 ∨ M.n ≤ i
  · have H := hid (show M.free i = (1, M) by simp [Mach.free, Mach.is_no hi])
    go_enter Try.func63, Try.ntmps63
    go_wp2_with (go_at_call 77; refine (Is_no _ _ _ _ _ h hi).mono ?_; rintro e w' ⟨rfl, rfl⟩)
    go_ret
    rw [H.out]
    exact RLeft.same h
  obtain ⟨j, rfl⟩ := Int.eq_ofNat_of_zero_le (show 0 ≤ i by omega)
  have hjn : (j : Int) < M.n := by omega
  have hj : j < L.n := by have := h.hn; omega
  have his : M.is j = true := Mach.is_yes (by omega) hjn
  obtain ⟨hf, ht⟩ := hok.fr j hjn
  have hc0 := hf.c0; have hct := hf.ct; have hzz := hf.z
  have HM := hid h
  have hj' : (j : Int) < L.n := by omega
  have hj0 : (0 : Int) ≤ j := by omega
  clear hi hjn hf
  by_cases hfree : (M.fr j).owner = -1
  · have H := hid (show M.free j = (11, M) by simp [Mach.free, his, hfree])
    have HO := hid hfree
    clear his hfree hzz
    go_enter Try.func63, Try.ntmps63
    go_wp2_with (first | (go_at_call 77; refine (Is_yes _ _ _ _ _ HM.out hj).mono ?_; rintro e w' ⟨rfl, rfl⟩) | (go_at_call 105; refine (still_free _ _ _ _ _ HM.out hj HO.out).mono ?_; rintro e w' ⟨rfl, rfl⟩))
    go_ret
    rw [H.out]
    exact RLeft.same HM.out
  have hfb := hid (show ((M.fr j).owner == -1) = false by simp [hfree])
  by_cases hb : (M.fr j).tot = 0
  · have H := hid (show M.free j = (0, M.upd j blankFr) by simp [Mach.free, his, hfree, hb])
    have HB := hid hb
    have hcz : (M.fr j).cnt = 0 := by omega
    have hty := hzz.1 hcz
    have hb0 : (M.fr j).ty = 0 ∧ (M.fr j).cnt = 0 ∧ (M.fr j).tot = 0 := ⟨hty, hcz, hb⟩
    have HB0 := hid hb0
    clear hb0 hty hcz
    obtain ⟨c0, d0, d1, d2, d3, f0, f1, f2, f3⟩ := h.nine hj
    have cB := h.slB; have cb := h.sl hj; have fb := h.bs.frozen j
    have hBF := h.fr.type_ne h.bs (by decide)
    clear his hfree hb hzz h
    go_enter Try.func63, Try.ntmps63
    go_wp2_with (first | (go_at_call 77; refine (Is_yes _ _ _ _ _ HM.out hj).mono ?_; rintro e w' ⟨rfl, rfl⟩) | (go_at_call 105; refine (still_no _ _ _ _ _ HM.out hj hfb.out HB.out).mono ?_; rintro e w' ⟨rfl, rfl⟩))
    obtain ⟨W1, hW1⟩ : ∃ W1, w.setCell ⟨L.fF, j * 4, none⟩ (.int .i64 (-1)) = W1 := ⟨_, rfl⟩
    have HM1 := hid (show RM W1 b (M.upd j { M.fr j with owner := -1 }) L from hW1 ▸ HM.out.setOwner hj (-1))
    have HC1 := hid (show Chg (L.foot b) w W1 from hW1 ▸ chgF b L w _ _)
    rw [hW1]
    clear c0 d0 d1 d2 d3 f0 f1 f2 f3 cB cb fb hW1
    have c0 := HM1.out.slB; have c1 := HM1.out.sl hj; have f1 := HM1.out.bs.frozen j
    have hmk := make_zeros
    have HM2 := hid (HM1.out.grown (World.grownBy_alloc W1 (.cells zeros 5) none))
    have c0' := HM2.out.slB; have c1' := HM2.out.sl hj; have f1' := HM2.out.bs.frozen j
    go_region
    all_goals go_wp2
    all_goals go_ret
    all_goals rw [H.out]
    all_goals exact ⟨rfl, free_left HM1.out HC1.out hj HB0.out.1 HB0.out.2.1 HB0.out.2.2⟩
  · have htb := hid (show ((M.fr j).tot != 0) = true by simp [hb])
    have H := hid (show M.free j = (9, M) by simp [Mach.free, his, hfree, hb])
    clear his hfree hb hzz
    go_enter Try.func63, Try.ntmps63
    go_wp2_with (first | (go_at_call 77; refine (Is_yes _ _ _ _ _ HM.out hj).mono ?_; rintro e w' ⟨rfl, rfl⟩) | (go_at_call 105; refine (still_busy _ _ _ _ _ HM.out hj hfb.out htb.out).mono ?_; rintro e w' ⟨rfl, rfl⟩))
    go_ret
    rw [H.out]
    exact RLeft.same HM.out
end Go.Proofs.Ytemeihamkdpmoaa

/-
  Contracts of package tenementref01: Read, Write.
-/
set_option linter.unusedSimpArgs false
set_option linter.unusedVariables false
namespace Go.Proofs.Ytemeihamkdpmoaa
open Go.RowKit
set_option maxHeartbeats 400000

/-- bytes in memory of their own -/
def OutBytes (w : World) (l : List UInt8) (v : Value) (w' : World) : Prop := ∃ p c, v = .slice p l.length c ∧ InBytes w' p l ∧ w.grownBy w' none
theorem info_u8 : (Try.prog.info? 5).map (fun i => (i.zero, i.size, i.bytes)) = some (some (.int .u8 0), 1, 1) := by kernel_rfl

theorem outBytes_of {w w' : World} {base n : Nat} {v : Value} {l : List UInt8} (h : w'.ownsRow base 5 1 v n (bcells l)) (hn : l.length = n) (hg : w.grownBy w' none) : OutBytes w l v w' := by
  subst hn
  obtain ⟨p, c, rfl⟩ := ownsRow_slice h
  refine ⟨p, c, rfl, ?_, hg⟩
  by_cases hl : l = []
  · exact .inl hl
  · obtain ⟨m, hm⟩ : ∃ m, l.length = m + 1 := ⟨l.length - 1, by have := List.length_pos_iff.2 hl; omega⟩
    have h' := h
    rw [hm] at h'
    obtain ⟨g, cap, e⟩ := ownsRow_succ h'
    cases e
    have hb := (h.lt g rfl).2
    refine .inr ⟨g, 0, rfl, hb, fun k hk => ?_⟩
    rw [Nat.zero_add, h'.cellAt k (by omega), bcells_get, List.getElem?_eq_getElem hk]
    simp [List.getD, List.getElem?_eq_getElem hk]
theorem part_cells {w : World} {b : Nat} {M : Mach} {L : Lay} (h : RM w b M L) {j off n : Nat} (hj : j < L.n) (hp : off + n ≤ 256) (k : Nat) (u : Value) (hu : (bcells ((M.fr j).part off n))[k]? = some u) :
    w.cell? ((⟨L.g j, off, none⟩ : Addr).add k) = some u := by
  rw [bcells_get, Fr.part_get] at hu
  split at hu
  · cases hu
    have e : (⟨L.g j, off, none⟩ : Addr).add k = ⟨L.g j, off + k, none⟩ := by unfold Addr.add; split <;> simp_all
    rw [e]
    exact h.byte hj (by omega)
  · cases hu

theorem rRead_no (b : Nat) (i off n : Int) (w : World) (M : Mach) (L : Lay) (h : RM w b M L) (hn : n ≤ 9223372036854775807) (hi : M.is i = false ∨ inP off n = false) :
    Calls Try.prog 69 #[.pointer (some ⟨b, 0, none⟩), .int .i64 i, .int .i64 off, .int .i64 n] w fun e w' => e = .returned (.tuple #[.slice none 0 0, .int .i64 1]) ∧ w = w' := by
  go_enter Try.func69, Try.ntmps69
  go_wp2_with (go_at_call 107; refine (In_no _ _ _ _ _ _ _ h hn hi).mono ?_; rintro e w' ⟨rfl, rfl⟩)
  go_ret2
  exact ⟨rfl, rfl⟩
theorem rRead_yes (b j off n : Nat) (w : World) (M : Mach) (L : Lay) (h : RM w b M L) (hj : j < L.n) (hp : off + n ≤ 256) :
    Calls Try.prog 69 #[.pointer (some ⟨b, 0, none⟩), .int .i64 j, .int .i64 off, .int .i64 n] w fun e w' => ∃ v, e = .returned (.tuple #[v, .int .i64 0]) ∧ OutBytes w ((M.fr j).part off n) v w' := by
  have HM := hid h
  have hcg := h.cap j hj
  have c0 := h.slB; have c1 := h.sl hj
  have hj' : (j : Int) < L.n := by omega
  have hj0 : (0 : Int) ≤ j := by omega
  have h0 : (0 : Int) ≤ off := by omega
  have h1 : (0 : Int) ≤ n := by omega
  have h2 : (off : Int) + n ≤ 256 := by omega
  have h3 : (off : Int) + n ≤ L.cg j := by omega
  obtain ⟨i0, hi, hz0, hz1, hz2⟩ := info_parts info_u8
  have Hi := hid hi; have Hz0 := hid hz0; have Hz1 := hid hz1; have Hz2 := hid hz2
  clear hi hz0 hz1 hz2 h
  have HM2 := hid (HM.out.grown (World.grownBy_alloc w (.cells #[] 5) none))
  have c0' := HM2.out.slB; have c1' := HM2.out.sl hj
  by_cases he : L.cg j = off
  · obtain rfl : off = 256 := by omega
    obtain rfl : n = 0 := by omega
    go_enter Try.func69, Try.ntmps69
    go_wp2_with (first
      | (go_at_call 107; refine (In_yes _ _ _ _ _ _ _ HM.out hj hp).mono ?_; rintro e w' ⟨rfl, rfl⟩)
      | (at_builtin; refine wpList_append_own _ rfl _ _ 31 rfl w.heap.size 5 i0 (.int .u8 0) 1 1 Try.underlying31 Hi.out Hz0.out Hz1.out Hz2.out rfl (by decide) _ 0 [] rfl (World.ownsRow_made w #[] 0 (Nat.le_refl _) (by unfold maxLen; omega) (by simp)) _ 0 _ (bcells ((M.fr j).part 256 0)) rfl (by rw [bcells_len, part_len]) (fun k u hu => by rw [bcells_get] at hu; simp [Fr.part] at hu) (bcells_one _) (by unfold maxLen; omega) (by omega) (by simp) ?_; intro v' w2 hown' hgrow hnil; simp only [Nat.zero_add, List.nil_append] at hown'; have HO := hid hown'; have HG := hid ((World.grownBy_alloc w (.cells #[] 5) none).andThen hgrow (fun j hj => by cases hj; exact .inl (Nat.le_refl _))); clear hown' hgrow hnil))
    go_ret2
    exact ⟨_, rfl, outBytes_of HO.out (part_len _ _ _) HG.out⟩
  · go_enter Try.func69, Try.ntmps69
    go_wp2_with (first
      | (go_at_call 107; refine (In_yes _ _ _ _ _ _ _ HM.out hj hp).mono ?_; rintro e w' ⟨rfl, rfl⟩)
      | (at_builtin; refine wpList_append_own _ rfl _ _ 31 rfl w.heap.size 5 i0 (.int .u8 0) 1 1 Try.underlying31 Hi.out Hz0.out Hz1.out Hz2.out rfl (by decide) _ 0 [] rfl (World.ownsRow_made w #[] 0 (Nat.le_refl _) (by unfold maxLen; omega) (by simp)) ⟨L.g j, off, none⟩ (off + n - off) _ (bcells ((M.fr j).part off n)) rfl (by simp [bcells_len, part_len]) (fun k u hu => part_cells HM2.out hj hp k u hu) (bcells_one _) (by unfold maxLen; omega) (by omega) (by simp) ?_; intro v' w2 hown' hgrow hnil; simp only [Nat.zero_add, List.nil_append] at hown'; have HO := hid hown'; have HG := hid ((World.grownBy_alloc w (.cells #[] 5) none).andThen hgrow (fun j hj => by cases hj; exact .inl (Nat.le_refl _))); clear hown' hgrow hnil))
    go_ret2
    exact ⟨_, rfl, outBytes_of HO.out (by rw [part_len]; omega) HG.out⟩
end Go.Proofs.Ytemeihamkdpmoaa

/-
  Contracts of package tenementref04: Unpack, At.
-/
set_option linter.unusedSimpArgs false
set_option linter.unusedVariables false
namespace Go.Proofs.Ytemeihamkdpmoaa
open Go.RowKit
set_option maxHeartbeats 1000000

theorem rUnpack_no (n : Nat) (wd : World) (hn : n < 4294967296) (h : n % 2 = 0) : Calls Try.prog 35 #[.int .u32 n] wd fun e w' => e = .returned (.tuple #[ent0.val, .int .i64 0]) ∧ wd.grownBy w' none := by
  have h1 : ((n : Int) % 2 == 0) = true := by simp; omega
  go_enter Try.func35, Try.ntmps35
  go_wp2_with fail
  exact bodyPost_ret (v := .tuple #[.agg #[.bool false, .bool false, .int .i64 0], .int .i64 0]) (by simp [results, Try.results35, go_sem]) rfl ⟨rfl, World.grownBy_alloc _ _ _⟩
theorem rUnpack_bad (n : Nat) (wd : World) (hn : n < 4294967296) (h : n % 2 = 1) (h3 : 3 < n % 256) : Calls Try.prog 35 #[.int .u32 n] wd fun e w' => e = .returned (.tuple #[ent0.val, .int .i64 4]) ∧ wd.grownBy w' none := by
  have h1 : ((n : Int) % 2 == 0) = false := by simp; omega
  have h3' : (3 : Int) < n % 256 := by omega
  go_enter Try.func35, Try.ntmps35
  go_wp2_with fail
  exact bodyPost_ret (v := .tuple #[.agg #[.bool false, .bool false, .int .i64 0], .int .i64 4]) (by simp [results, Try.results35, go_sem]) rfl ⟨rfl, World.grownBy_alloc _ _ _⟩
theorem rUnpack_yes (n : Nat) (wd : World) (hn : n < 4294967296) (h : n % 2 = 1) (h3 : ¬ 3 < n % 256) : Calls Try.prog 35 #[.int .u32 n] wd fun e w' => e = .returned (.tuple #[(Ent.mk true (decide (n % 4 = 3)) ((n / 256 : Nat) : Int)).val, .int .i64 0]) ∧ wd.grownBy w' none := by
  have h1 : ((n : Int) % 2 == 0) = false := by simp; omega
  have h3' : ¬ (3 : Int) < n % 256 := by omega
  have h4 : ((n : Int) % 4 == 3) = decide (n % 4 = 3) := by rw [Bool.eq_iff_iff]; simp; omega
  obtain ⟨x, hx⟩ : ∃ x, decide (n % 4 = 3) = x := ⟨_, rfl⟩
  rw [hx] at h4 ⊢
  clear hx h h3
  go_enter Try.func35, Try.ntmps35
  go_wp2_with fail
  exact bodyPost_ret (v := .tuple #[.agg #[.bool true, .bool x, .int .i64 ((n / 256 : Nat) : Int)], .int .i64 0]) (by simp [results, Try.results35, go_sem]) rfl ⟨rfl, World.grownBy_alloc _ _ _⟩
theorem rUnpack_any (n : Nat) (wd : World) (hn : n < 4294967296) : Calls Try.prog 35 #[.int .u32 n] wd fun e w' => e = .returned (.tuple #[(unpackV n).1.val, .int .i64 (unpackV n).2]) ∧ wd.grownBy w' none := by
  by_cases h : n % 2 = 0
  · rw [show unpackV n = (ent0, 0) by unfold unpackV; rw [if_pos h]]; exact rUnpack_no n wd hn h
  have h1 : n % 2 = 1 := by omega
  by_cases h3 : 3 < n % 256
  · rw [show unpackV n = (ent0, 4) by unfold unpackV; rw [if_neg h, if_pos h3]]; exact rUnpack_bad n wd hn h1 h3
  · rw [show unpackV n = (⟨true, decide (n % 4 = 3), (n / 256 : Nat)⟩, 0) by unfold unpackV; rw [if_neg h, if_neg h3]]
    exact rUnpack_yes n wd hn h1 h3
theorem rAt_no (b : Nat) (t i : Int) (w : World) (M : Mach) (L : Lay) (h : RM w b M L) (hi : M.is t = false ∨ idx i = false) : Calls Try.prog 26 #[.pointer (some ⟨b, 0, none⟩), .int .i64 t, .int .i64 i] w fun e w' => e = .returned (.tuple #[.int .u32 0, .int .i64 1]) ∧ w = w' := by
  have hn := h.hn
  have HR := hid h
  by_cases ht : t < 0 ∨ M.n ≤ t
  · clear hi hn h
    go_enter Try.func26, Try.ntmps26
    go_wp2_with (go_at_call 77; refine (Is_no _ _ _ _ _ HR.out ht).mono ?_; rintro e w2 ⟨rfl, rfl⟩)
    go_ret2
    exact ⟨rfl, rfl⟩
  · obtain ⟨k, rfl⟩ : ∃ k : Nat, t = k := ⟨t.toNat, by omega⟩
    have hk : k < L.n := by omega
    have hi' : idx i = false := by
      rcases hi with hi | hi
      · rw [Mach.is_yes (by omega) (by omega)] at hi; cases hi
      · exact hi
    rcases (show i < 0 ∨ (0 ≤ i ∧ 63 < i) by simp only [idx, Bool.and_eq_false_iff, decide_eq_false_iff_not] at hi'; omega) with h1 | ⟨h1, h2⟩
    all_goals
      clear hi' hi ht hn h
      go_enter Try.func26, Try.ntmps26
      go_wp2_with (go_at_call 77; refine (Is_yes _ _ _ _ _ HR.out hk).mono ?_; rintro e w2 ⟨rfl, rfl⟩)
      go_ret2
      exact ⟨rfl, rfl⟩
theorem rAt_yes (b t i : Nat) (w : World) (M : Mach) (L : Lay) (h : RM w b M L) (ht : t < L.n) (hi : i < 64) : Calls Try.prog 26 #[.pointer (some ⟨b, 0, none⟩), .int .i64 t, .int .i64 i] w fun e w' => e = .returned (.tuple #[.int .u32 (word4 (M.fr t).bs (4 * i) : Nat), .int .i64 0]) ∧ w = w' := by
  have HR := hid h
  have s1 := h.slB
  have s2 := h.sl ht
  have c0 := h.byte ht (k := 4 * i) (by omega)
  have c1 := h.byte ht (k := 4 * i + 1) (by omega)
  have c2 := h.byte ht (k := 4 * i + 2) (by omega)
  have c3 := h.byte ht (k := 4 * i + 3) (by omega)
  obtain ⟨x0, h0⟩ : ∃ x, ((M.fr t).bs (4 * i)).toNat = x := ⟨_, rfl⟩
  obtain ⟨x1, h1⟩ : ∃ x, ((M.fr t).bs (4 * i + 1)).toNat = x := ⟨_, rfl⟩
  obtain ⟨x2, h2⟩ : ∃ x, ((M.fr t).bs (4 * i + 2)).toNat = x := ⟨_, rfl⟩
  obtain ⟨x3, h3⟩ : ∃ x, ((M.fr t).bs (4 * i + 3)).toNat = x := ⟨_, rfl⟩
  have b0 : x0 < 256 := h0 ▸ ((M.fr t).bs (4 * i)).toNat_lt
  have b1 : x1 < 256 := h1 ▸ ((M.fr t).bs (4 * i + 1)).toNat_lt
  have b2 : x2 < 256 := h2 ▸ ((M.fr t).bs (4 * i + 2)).toNat_lt
  have b3 : x3 < 256 := h3 ▸ ((M.fr t).bs (4 * i + 3)).toNat_lt
  have HW := hid (show ((word4 (M.fr t).bs (4 * i) : Nat) : Int) = (x0 : Int) + 256 * x1 + 65536 * x2 + 16777216 * x3 by
    unfold word4; rw [h0, h1, h2, h3]; omega)
  rw [h0] at c0; rw [h1] at c1; rw [h2] at c2; rw [h3] at c3
  clear h0 h1 h2 h3 h
  go_enter Try.func26, Try.ntmps26
  go_wp2_with (go_at_call 77; refine (Is_yes _ _ _ _ _ HR.out ht).mono ?_; rintro e w2 ⟨rfl, rfl⟩)
  go_loop [8, 9] (fun n k => (k = .int .i64 3 ∧ n = .int .u32 0) ∨ (k = .int .i64 2 ∧ n = .int .u32 x3) ∨ (k = .int .i64 1 ∧ n = .int .u32 ((x3 : Int) * 256 + x2)) ∨ (k = .int .i64 0 ∧ n = .int .u32 (((x3 : Int) * 256 + x2) * 256 + x1)) ∨ (k = .int .i64 (-1) ∧ n = .int .u32 ((((x3 : Int) * 256 + x2) * 256 + x1) * 256 + x0))) (fun _ k => (intOf k + 1).toNat)
  case atStart => exact .inl ⟨rfl, rfl⟩
  case round =>
    rcases hrel with ⟨rfl, rfl⟩ | ⟨rfl, rfl⟩ | ⟨rfl, rfl⟩ | ⟨rfl, rfl⟩ | ⟨rfl, rfl⟩
    · go_wp2
      go_round
      case rel => exact .inr (.inl ⟨rfl, rfl⟩)
      case measure => simp [intOf]
    · go_wp2
      go_round
      case rel => exact .inr (.inr (.inl ⟨rfl, rfl⟩))
      case measure => simp [intOf]
    · go_wp2
      go_round
      case rel => exact .inr (.inr (.inr (.inl ⟨rfl, rfl⟩)))
      case measure => simp [intOf]
    · go_wp2
      go_round
      case rel => exact .inr (.inr (.inr (.inr ⟨rfl, rfl⟩)))
      case measure => simp [intOf]
    · go_wp2
      go_ret2
      exact ⟨ret_u (by rw [HW.out]; omega), rfl⟩
theorem rAt (b : Nat) (t i : Int) (w : World) (M : Mach) (L : Lay) (h : RM w b M L) : Calls Try.prog 26 #[.pointer (some ⟨b, 0, none⟩), .int .i64 t, .int .i64 i] w fun e w' => e = .returned (.tuple #[.int .u32 ((M.pat t i).1 : Nat), .int .i64 (M.pat t i).2]) ∧ w = w' := by
  have hn := h.hn
  cases hi : idx i
  · rw [show M.pat t i = (0, 1) by unfold Mach.pat; rw [if_pos hi]]
    exact rAt_no b t i w M L h (.inr hi)
  · have hi' : 0 ≤ i ∧ i < 64 := by simpa [idx] using hi
    obtain ⟨j, rfl⟩ : ∃ j : Nat, i = j := ⟨i.toNat, by omega⟩
    cases ht : M.is t
    · rw [show M.pat t j = (0, 1) by unfold Mach.pat; rw [if_neg (by simp [hi]), if_pos ht]]
      exact rAt_no b t j w M L h (.inl ht)
    · have ht' := Mach.is_iff.1 ht
      obtain ⟨k, rfl⟩ : ∃ j : Nat, t = j := ⟨t.toNat, by omega⟩
      rw [show M.pat k j = (word4 (M.fr k).bs (4 * j), 0) by unfold Mach.pat; rw [if_neg (by simp [hi]), if_neg (by simp [ht])]; rfl]
      exact rAt_yes b k j w M L h (by omega) (by omega)
end Go.Proofs.Ytemeihamkdpmoaa

/-
  Package tenementref05: over its machine; an entry's reference to a page.
-/
set_option linter.unusedSimpArgs false
set_option linter.unusedVariables false
namespace Go.Proofs.Ytemeihamkdpmoaa
open Go.RowKit
set_option maxHeartbeats 1000000

/-- package tenementref05 over its machine: block Y holds the machine's address; since w0 the machine's blocks (S) alone have changed -/
structure YM (w0 w : World) (b Y : Nat) (S : Nat → Prop) (M : Mach) : Prop where
  r : ∃ L, RM w b M L ∧ ∀ k, L.foot b k → S k ∨ w0.heap.size ≤ k
  y : w.cell? ⟨Y, 0, none⟩ = some (.pointer (some ⟨b, 0, none⟩))
  c : Chg S w0 w
  yS : ¬ S Y
  yl : Y < w0.heap.size
section
variable {w0 w W : World} {b Y : Nat} {S S' : Nat → Prop} {M M' : Mach}
theorem YM.more (h : YM w0 w b Y S M) (hg : w.grownBy W none) : YM w0 W b Y S M := by
  obtain ⟨L, hL, hf⟩ := h.r
  exact ⟨⟨L, hL.grown hg, hf⟩, hg.cell h.y (by simp), h.c.trans (Chg.of0 (S := S) hg) fun _ h => .inl h, h.yS, h.yl⟩
theorem YM.put (h : YM w0 w b Y S M) {L L' : Lay} (hf : ∀ k, L.foot b k → S k ∨ w0.heap.size ≤ k) (hm : RM W b M' L') (hc : Chg (L.foot b) w W) (hf' : ∀ k, L'.foot b k → L.foot b k ∨ w.heap.size ≤ k) : YM w0 W b Y S M' := by
  refine ⟨⟨L', hm, fun k hk => ?_⟩, hc.cell h.y (fun e => ?_), h.c.trans hc hf, h.yS, h.yl⟩
  · rcases hf' k hk with e | e
    · exact hf k e
    · exact .inr (Nat.le_trans h.c.size e)
  · rcases hf _ e with e' | e'
    · exact h.yS e'
    · have := h.yl; exact absurd e' (by simp only; omega)
/-- as seen from here -/
theorem YM.here (h : YM w0 w b Y S M) : ∃ S', YM w w b Y S' M ∧ ∀ k, S' k → S k ∨ w0.heap.size ≤ k := by
  obtain ⟨L, hL, hf⟩ := h.r
  refine ⟨L.foot b, ⟨⟨L, hL, fun _ h => .inl h⟩, h.y, Chg.refl _ _, fun e => ?_, Nat.lt_of_lt_of_le h.yl h.c.size⟩, hf⟩
  rcases hf _ e with e' | e'
  · exact h.yS e'
  · have := h.yl; omega
theorem YM.step (h : YM w0 w b Y S M) (hs : ∀ k, S' k → S k ∨ w0.heap.size ≤ k) (k : YM w W b Y S' M') : YM w0 W b Y S M' := by
  obtain ⟨L, hL, hf⟩ := k.r
  refine ⟨⟨L, hL, fun q hq => ?_⟩, k.y, h.c.trans k.c hs, h.yS, h.yl⟩
  rcases hf q hq with e | e
  · exact hs q e
  · exact .inr (Nat.le_trans h.c.size e)
theorem YM.new (h : YM w0 w b Y S M) {k : Nat} (hk : w0.heap.size ≤ k) (hlt : k < w.heap.size) : True := trivial
end
/-- a call over the reference's machine, wherever it is made -/
def YCall (f : FuncId) (args : Array Value) (b Y : Nat) (M : Mach) (e : Ending) (M' : Mach) : Prop :=
  ∀ w S, YM w w b Y S M → Calls Try.prog f args w fun e' w' => e' = e ∧ YM w w' b Y S M'
theorem rrefused (e : Int) (w : World) : Calls Try.prog 123 #[.int .i64 e] w fun e' w' => e' = .returned (.int .i64 (refusedV e)) ∧ w = w' := by
  unfold refusedV
  by_cases h13 : e = 13
  · subst h13
    go_enter Try.func123, Try.ntmps123
    go_wp2
    go_ret
    exact ⟨rfl, rfl⟩
  by_cases h0 : e = 0
  · subst h0
    go_enter Try.func123, Try.ntmps123
    go_wp2
    go_ret
    exact ⟨rfl, rfl⟩
  have h13b : (e == 13) = false := by simp [h13]
  have h0b : (e == 0) = false := by simp [h0]
  rw [if_neg (by omega)]
  clear h13 h0
  go_enter Try.func123, Try.ntmps123
  go_wp2
  go_ret
  exact ⟨rfl, rfl⟩
theorem rkind1 (w : World) : Calls Try.prog 124 #[.int .i64 1] w fun e w' => e = .returned (.int .i64 2) ∧ w = w' := by
  go_enter Try.func124, Try.ntmps124
  go_wp2
  go_ret
  exact ⟨rfl, rfl⟩
theorem rkind2 (w : World) : Calls Try.prog 124 #[.int .i64 2] w fun e w' => e = .returned (.int .i64 3) ∧ w = w' := by
  go_enter Try.func124, Try.ntmps124
  go_wp2
  go_ret
  exact ⟨rfl, rfl⟩
theorem rUnpack_out (n : Nat) (p q : Bool) (m c : Int) (wd : World) (hn : n < 4294967296) (h : unpackV n = (⟨p, q, m⟩, c)) : Calls Try.prog 35 #[.int .u32 n] wd fun e w' => e = .returned (.tuple #[.agg #[.bool p, .bool q, .int .i64 m], .int .i64 c]) ∧ wd.grownBy w' none := by
  have := rUnpack_any n wd hn
  rw [h] at this
  exact this
theorem unpackV_p {n : Nat} (h : (unpackV n).1.p = true) : (unpackV n).2 = 0 := by
  revert h
  unfold unpackV
  split
  · intro h; cases h
  split
  · intro h; cases h
  · intro; rfl
set_option maxRecDepth 100000 in
theorem ytake1 {b Y : Nat} {M : Mach} {T : Int} (hok : M.ok T) (hT : T < 9223372036854775807) (o : Int) (n : Nat) (hn : n < 4294967296) :
    YCall 125 #[.pointer (some ⟨Y, 0, none⟩), .int .i64 o, .int .i64 1, .int .u32 n] b Y M (.returned (.int .i64 (take1 M o n).1)) (take1 M o n).2 := by
  intro w S h
  have H := hid h
  have HOk := hid hok
  obtain ⟨L, hL, hf⟩ := h.r
  have HLw := hid hL; have HF := hid hf
  have hfl := fun k (hk : L.foot b k) => hL.lt hk
  have HFl := hid hfl
  clear hL hf hfl
  unfold take1
  obtain ⟨⟨⟨p, q, m⟩, c⟩, hU⟩ : ∃ r, unpackV n = r := ⟨_, rfl⟩
  have HU := hid (fun wd => rUnpack_out n p q m c wd hn hU)
  rw [hU]
  simp only
  clear h hok hU
  by_cases hc : c = 0
  · subst hc
    simp only [ne_eq, not_true, if_false]
    cases p with
    | false =>
      simp only [if_true]
      go_enter Try.func125, Try.ntmps125
      go_wp2_with (go_at_call 35; refine (HU.out _).mono ?_; rintro e w1 ⟨rfl, g1⟩; have H1 := hid ((H.out.more g1).more (World.grownBy_alloc w1 (.cells #[.bool false, .bool q, .int .i64 m] 57) none)); clear g1)
      go_ret
      exact ⟨rfl, H1.out⟩
    | true =>
      simp only [Bool.true_eq_false, if_false]
      cases q with
      | false =>
        go_enter Try.func125, Try.ntmps125
        go_wp2_with (go_at_call 35; refine (HU.out _).mono ?_; rintro e w1 ⟨rfl, g1⟩; have H1 := hid ((H.out.more g1).more (World.grownBy_alloc w1 (.cells #[.bool true, .bool false, .int .i64 m] 57) none)); obtain ⟨e0, e1, e2⟩ := ent3 w1 (.bool true) (.bool false) (.int .i64 m) 57; have y0 := H1.out.y; have HS1 := hid g1.size; have HL := hid ((HLw.out.grown g1).grown ((World.grownBy_alloc w1 (.cells #[.bool true, .bool false, .int .i64 m] 57) none).trans (grownBy_drew _ none))); clear g1)
        have HD := hid (H1.out.more (grownBy_drew _ none))
        have hnf : ¬ L.foot b w1.heap.size := fun e => by have := HFl.out _ e; have := HS1.out; omega
        go_region_held3 (fun w' => w'.cell? ⟨w1.heap.size, 0, none⟩ = some (.bool true) ∧ w'.cell? ⟨w1.heap.size, 2, none⟩ = some (.int .i64 m) ∧ w'.cell? ⟨Y, 0, none⟩ = some (.pointer (some ⟨b, 0, none⟩))) (first | exact ⟨by assumption, by assumption, by assumption⟩ | go_keep)
          (first
            | (go_at_call 66; refine (rGet b m o 0 _ M L T HL.out HOk.out hT).mono ?_; rintro e w2 ⟨rfl, L2, h2, _, c2, f2⟩; have H2 := hid (HD.out.put HF.out h2 c2 f2); have j0 := c2.cell (a := ⟨w1.heap.size, 0, none⟩) (by assumption) hnf; have j1 := c2.cell (a := ⟨w1.heap.size, 2, none⟩) (by assumption) hnf; have j2 := H2.out.y; clear h2 c2 f2)
            | (go_at_call 123; refine (rrefused _ _).mono ?_; rintro e w3 ⟨rfl, rfl⟩))
        all_goals go_wp2
        all_goals go_ret
        all_goals exact ⟨rfl, H2.out⟩
      | true =>
        go_enter Try.func125, Try.ntmps125
        go_wp2_with (go_at_call 35; refine (HU.out _).mono ?_; rintro e w1 ⟨rfl, g1⟩; have H1 := hid ((H.out.more g1).more (World.grownBy_alloc w1 (.cells #[.bool true, .bool true, .int .i64 m] 57) none)); obtain ⟨e0, e1, e2⟩ := ent3 w1 (.bool true) (.bool true) (.int .i64 m) 57; have y0 := H1.out.y; have HS1 := hid g1.size; have HL := hid ((HLw.out.grown g1).grown ((World.grownBy_alloc w1 (.cells #[.bool true, .bool true, .int .i64 m] 57) none).trans (grownBy_drew _ none))); clear g1)
        have HD := hid (H1.out.more (grownBy_drew _ none))
        have hnf : ¬ L.foot b w1.heap.size := fun e => by have := HFl.out _ e; have := HS1.out; omega
        go_region_held3 (fun w' => w'.cell? ⟨w1.heap.size, 0, none⟩ = some (.bool true) ∧ w'.cell? ⟨w1.heap.size, 2, none⟩ = some (.int .i64 m) ∧ w'.cell? ⟨Y, 0, none⟩ = some (.pointer (some ⟨b, 0, none⟩))) (first | exact ⟨by assumption, by assumption, by assumption⟩ | go_keep)
          (first
            | (go_at_call 66; refine (rGet b m o 1 _ M L T HL.out HOk.out hT).mono ?_; rintro e w2 ⟨rfl, L2, h2, _, c2, f2⟩; have H2 := hid (HD.out.put HF.out h2 c2 f2); have j0 := c2.cell (a := ⟨w1.heap.size, 0, none⟩) (by assumption) hnf; have j1 := c2.cell (a := ⟨w1.heap.size, 2, none⟩) (by assumption) hnf; have j2 := H2.out.y; clear h2 c2 f2)
            | (go_at_call 123; refine (rrefused _ _).mono ?_; rintro e w3 ⟨rfl, rfl⟩))
        all_goals go_wp2
        all_goals go_ret
        all_goals exact ⟨rfl, H2.out⟩
  · have hcb : (c != 0) = true := by simp [hc]
    rw [if_pos hc]
    clear hc
    go_enter Try.func125, Try.ntmps125
    go_wp2_with (go_at_call 35; refine (HU.out _).mono ?_; rintro e w1 ⟨rfl, g1⟩; have H1 := hid ((H.out.more g1).more (World.grownBy_alloc w1 (.cells #[.bool p, .bool q, .int .i64 m] 57) none)); clear g1)
    go_ret
    exact ⟨rfl, H1.out⟩
end Go.Proofs.Ytemeihamkdpmoaa

/-
  Package tenementref05: an entry's reference goes; tables.
-/
set_option linter.unusedSimpArgs false
set_option linter.unusedVariables false
namespace Go.Proofs.Ytemeihamkdpmoaa
open Go.RowKit
set_option maxHeartbeats 1000000

set_option maxRecDepth 100000 in
theorem yleave1 {b Y : Nat} {M : Mach} {T : Int} (hok : M.ok T) (hT : T < 9223372036854775807) (n : Nat) (hn : n < 4294967296) :
    YCall 126 #[.pointer (some ⟨Y, 0, none⟩), .int .i64 1, .int .u32 n] b Y M (.returned (.tuple #[])) (leaveG 1 dp1 M n) := by
  intro w S h
  have H := hid h
  have HOk := hid hok
  obtain ⟨L, hL, hf⟩ := h.r
  have HLw := hid hL; have HF := hid hf
  have hfl := fun k (hk : L.foot b k) => hL.lt hk
  have HFl := hid hfl
  clear hL hf hfl
  rw [leave1_eq]
  have hpe := unpackV_p (n := n)
  obtain ⟨⟨⟨p, q, m⟩, c⟩, hU⟩ : ∃ r, unpackV n = r := ⟨_, rfl⟩
  have HU := hid (fun wd => rUnpack_out n p q m c wd hn hU)
  rw [hU] at hpe ⊢
  simp only at hpe ⊢
  clear h hok hU
  cases p with
  | false =>
    simp only [if_true]
    clear hpe
    by_cases hc : c = 0
    · subst hc
      go_enter Try.func126, Try.ntmps126
      go_wp2_with (go_at_call 35; refine (HU.out _).mono ?_; rintro e w1 ⟨rfl, g1⟩; have H1 := hid ((H.out.more g1).more (World.grownBy_alloc w1 (.cells #[.bool false, .bool q, .int .i64 m] 57) none)); clear g1)
      first | go_end0 | ((try simp only [Exit.inBlock, Exit.then]); refine bodyPost_ret (results_none rfl _ _ _) rfl ?_)
      exact ⟨rfl, H1.out⟩
    · have hcb : (c != 0) = true := by simp [hc]
      clear hc
      go_enter Try.func126, Try.ntmps126
      go_wp2_with (go_at_call 35; refine (HU.out _).mono ?_; rintro e w1 ⟨rfl, g1⟩; have H1 := hid ((H.out.more g1).more (World.grownBy_alloc w1 (.cells #[.bool false, .bool q, .int .i64 m] 57) none)); clear g1)
      first | go_end0 | ((try simp only [Exit.inBlock, Exit.then]); refine bodyPost_ret (results_none rfl _ _ _) rfl ?_)
      exact ⟨rfl, H1.out⟩
  | true =>
    obtain rfl := hpe rfl
    simp only [Bool.true_eq_false, if_false]
    clear hpe
    cases q with
    | false =>
      go_enter Try.func126, Try.ntmps126
      go_wp2_with (go_at_call 35; refine (HU.out _).mono ?_; rintro e w1 ⟨rfl, g1⟩; have H1 := hid ((H.out.more g1).more (World.grownBy_alloc w1 (.cells #[.bool true, .bool false, .int .i64 m] 57) none)); obtain ⟨e0, e1, e2⟩ := ent3 w1 (.bool true) (.bool false) (.int .i64 m) 57; have y0 := H1.out.y; have HS1 := hid g1.size; have HL := hid ((HLw.out.grown g1).grown ((World.grownBy_alloc w1 (.cells #[.bool true, .bool false, .int .i64 m] 57) none).trans (grownBy_drew _ none))); clear g1)
      have HD := hid (H1.out.more (grownBy_drew _ none))
      have hnf : ¬ L.foot b w1.heap.size := fun e => by have := HFl.out _ e; have := HS1.out; omega
      go_region_held3 (fun w' => w'.cell? ⟨w1.heap.size, 0, none⟩ = some (.bool true) ∧ w'.cell? ⟨w1.heap.size, 2, none⟩ = some (.int .i64 m) ∧ w'.cell? ⟨Y, 0, none⟩ = some (.pointer (some ⟨b, 0, none⟩))) (first | exact ⟨by assumption, by assumption, by assumption⟩ | go_keep)
        (first
          | (go_at_call 68; refine (rPut b m 0 _ M L T HL.out HOk.out hT).mono ?_; rintro e w2 ⟨rfl, L2, h2, _, c2, f2⟩; have H2 := hid (HD.out.put HF.out h2 c2 f2); have j0 := c2.cell (a := ⟨w1.heap.size, 0, none⟩) (by assumption) hnf; have j1 := c2.cell (a := ⟨w1.heap.size, 2, none⟩) (by assumption) hnf; have j2 := H2.out.y; clear h2 c2 f2))
      all_goals go_wp2
      all_goals (first | go_end0 | ((try simp only [Exit.inBlock, Exit.then]); refine bodyPost_ret (results_none rfl _ _ _) rfl ?_))
      all_goals exact ⟨rfl, H2.out⟩
    | true =>
      go_enter Try.func126, Try.ntmps126
      go_wp2_with (go_at_call 35; refine (HU.out _).mono ?_; rintro e w1 ⟨rfl, g1⟩; have H1 := hid ((H.out.more g1).more (World.grownBy_alloc w1 (.cells #[.bool true, .bool true, .int .i64 m] 57) none)); obtain ⟨e0, e1, e2⟩ := ent3 w1 (.bool true) (.bool true) (.int .i64 m) 57; have y0 := H1.out.y; have HS1 := hid g1.size; have HL := hid ((HLw.out.grown g1).grown ((World.grownBy_alloc w1 (.cells #[.bool true, .bool true, .int .i64 m] 57) none).trans (grownBy_drew _ none))); clear g1)
      have HD := hid (H1.out.more (grownBy_drew _ none))
      have hnf : ¬ L.foot b w1.heap.size := fun e => by have := HFl.out _ e; have := HS1.out; omega
      go_region_held3 (fun w' => w'.cell? ⟨w1.heap.size, 0, none⟩ = some (.bool true) ∧ w'.cell? ⟨w1.heap.size, 2, none⟩ = some (.int .i64 m) ∧ w'.cell? ⟨Y, 0, none⟩ = some (.pointer (some ⟨b, 0, none⟩))) (first | exact ⟨by assumption, by assumption, by assumption⟩ | go_keep)
        (first
          | (go_at_call 68; refine (rPut b m 1 _ M L T HL.out HOk.out hT).mono ?_; rintro e w2 ⟨rfl, L2, h2, _, c2, f2⟩; have H2 := hid (HD.out.put HF.out h2 c2 f2); have j0 := c2.cell (a := ⟨w1.heap.size, 0, none⟩) (by assumption) hnf; have j1 := c2.cell (a := ⟨w1.heap.size, 2, none⟩) (by assumption) hnf; have j2 := H2.out.y; clear h2 c2 f2))
      all_goals go_wp2
      all_goals (first | go_end0 | ((try simp only [Exit.inBlock, Exit.then]); refine bodyPost_ret (results_none rfl _ _ _) rfl ?_))
      all_goals exact ⟨rfl, H2.out⟩
set_option maxRecDepth 100000 in
theorem ytake2 {b Y : Nat} {M : Mach} (o : Int) (n : Nat) (hn : n < 4294967296) (hR : YCall 109 #[.pointer (some ⟨Y, 0, none⟩), .int .i64 o, .int .i64 (unpackV n).1.mfn, .int .i64 1] b Y M (.returned (.int .i64 (tabG 2 take1 M o (unpackV n).1.mfn).1)) (tabG 2 take1 M o (unpackV n).1.mfn).2) :
    YCall 125 #[.pointer (some ⟨Y, 0, none⟩), .int .i64 o, .int .i64 2, .int .u32 n] b Y M (.returned (.int .i64 (take2 M o n).1)) (take2 M o n).2 := by
  intro w S h
  have H := hid h
  have HR := hid hR
  unfold take2
  obtain ⟨⟨⟨p, q, m⟩, c⟩, hU⟩ : ∃ r, unpackV n = r := ⟨_, rfl⟩
  have HU := hid (fun wd => rUnpack_out n p q m c wd hn hU)
  rw [hU] at HR ⊢
  simp only at HR ⊢
  obtain ⟨R, hRe⟩ : ∃ R, tabG 2 take1 M o m = R := ⟨_, rfl⟩
  rw [hRe] at HR ⊢
  clear h hU hR hRe
  by_cases hc : c = 0
  · subst hc
    simp only [ne_eq, not_true, if_false]
    cases p with
    | false =>
      simp only [if_true]
      go_enter Try.func125, Try.ntmps125
      go_wp2_with (go_at_call 35; refine (HU.out _).mono ?_; rintro e w1 ⟨rfl, g1⟩; have H1 := hid ((H.out.more g1).more (World.grownBy_alloc w1 (.cells #[.bool false, .bool q, .int .i64 m] 57) none)); clear g1)
      go_ret
      exact ⟨rfl, H1.out⟩
    | true =>
      simp only [Bool.true_eq_false, if_false]
      go_enter Try.func125, Try.ntmps125
      go_wp2_with (first
        | (go_at_call 35; refine (HU.out _).mono ?_; rintro e w1 ⟨rfl, g1⟩; have H1 := hid ((H.out.more g1).more (World.grownBy_alloc w1 (.cells #[.bool true, .bool q, .int .i64 m] 57) none)); clear g1)
        | (go_at_call 109; obtain ⟨S1, hs1, hs2⟩ := H1.out.here; refine (HR.out _ S1 hs1).mono ?_; rintro e w2 ⟨rfl, h2⟩; have H2 := hid (H1.out.step hs2 h2); clear hs1 hs2 h2))
      go_ret
      exact ⟨rfl, H2.out⟩
  · have hcb : (c != 0) = true := by simp [hc]
    rw [if_pos hc]
    clear hc
    go_enter Try.func125, Try.ntmps125
    go_wp2_with (go_at_call 35; refine (HU.out _).mono ?_; rintro e w1 ⟨rfl, g1⟩; have H1 := hid ((H.out.more g1).more (World.grownBy_alloc w1 (.cells #[.bool p, .bool q, .int .i64 m] 57) none)); clear g1)
    go_ret
    exact ⟨rfl, H1.out⟩
set_option maxRecDepth 100000 in
theorem yleave2 {b Y : Nat} {M : Mach} (n : Nat) (hn : n < 4294967296) (hR : (unpackV n).1.p = true → YCall 110 #[.pointer (some ⟨Y, 0, none⟩), .int .i64 (unpackV n).1.mfn, .int .i64 1] b Y M (.returned (.tuple #[])) (untabG 1 2 dp1 M (unpackV n).1.mfn.toNat)) :
    YCall 126 #[.pointer (some ⟨Y, 0, none⟩), .int .i64 2, .int .u32 n] b Y M (.returned (.tuple #[])) (leaveG 2 dp2 M n) := by
  intro w S h
  have H := hid h
  rw [leave2_eq]
  have hpe := unpackV_p (n := n)
  obtain ⟨⟨⟨p, q, m⟩, c⟩, hU⟩ : ∃ r, unpackV n = r := ⟨_, rfl⟩
  have HU := hid (fun wd => rUnpack_out n p q m c wd hn hU)
  rw [hU] at hpe hR ⊢
  simp only at hpe hR ⊢
  have HR := hid hR
  clear h hU hR
  cases p with
  | false =>
    simp only [if_true]
    clear hpe
    by_cases hc : c = 0
    · subst hc
      go_enter Try.func126, Try.ntmps126
      go_wp2_with (go_at_call 35; refine (HU.out _).mono ?_; rintro e w1 ⟨rfl, g1⟩; have H1 := hid ((H.out.more g1).more (World.grownBy_alloc w1 (.cells #[.bool false, .bool q, .int .i64 m] 57) none)); clear g1)
      first | go_end0 | ((try simp only [Exit.inBlock, Exit.then]); refine bodyPost_ret (results_none rfl _ _ _) rfl ?_)
      exact ⟨rfl, H1.out⟩
    · have hcb : (c != 0) = true := by simp [hc]
      clear hc
      go_enter Try.func126, Try.ntmps126
      go_wp2_with (go_at_call 35; refine (HU.out _).mono ?_; rintro e w1 ⟨rfl, g1⟩; have H1 := hid ((H.out.more g1).more (World.grownBy_alloc w1 (.cells #[.bool false, .bool q, .int .i64 m] 57) none)); clear g1)
      first | go_end0 | ((try simp only [Exit.inBlock, Exit.then]); refine bodyPost_ret (results_none rfl _ _ _) rfl ?_)
      exact ⟨rfl, H1.out⟩
  | true =>
    obtain rfl := hpe rfl
    simp only [Bool.true_eq_false, if_false]
    have HR1 := hid (HR.out rfl)
    clear hpe HR
    go_enter Try.func126, Try.ntmps126
    go_wp2_with (first
      | (go_at_call 35; refine (HU.out _).mono ?_; rintro e w1 ⟨rfl, g1⟩; have H1 := hid ((H.out.more g1).more (World.grownBy_alloc w1 (.cells #[.bool true, .bool q, .int .i64 m] 57) none)); clear g1)
      | (go_at_call 110; obtain ⟨S1, hs1, hs2⟩ := H1.out.here; refine (HR1.out _ S1 hs1).mono ?_; rintro e w2 ⟨rfl, h2⟩; have H2 := hid (H1.out.step hs2 h2); clear hs1 hs2 h2))
    first | go_end0 | ((try simp only [Exit.inBlock, Exit.then]); refine bodyPost_ret (results_none rfl _ _ _) rfl ?_)
    exact ⟨rfl, H2.out⟩
end Go.Proofs.Ytemeihamkdpmoaa

/-
  Package tenementref05: a reference as a table is taken, goes.
-/
set_option linter.unusedSimpArgs false
set_option linter.unusedVariables false
namespace Go.Proofs.Ytemeihamkdpmoaa
open Go.RowKit
set_option maxHeartbeats 2000000

/-- entries k - 1 .. 0 go, the last one first -/
def down (lv : Nat) (dp : Mach → Nat × Nat → Mach) (N : Mach) (t : Nat) : Nat → Mach → Mach
  | 0, M => M
  | k + 1, M => down lv dp N t k (leaveG lv dp M (N.word t k))
theorem down_eq (lv : Nat) (dp : Mach → Nat × Nat → Mach) (N : Mach) (t k : Nat) : ∀ M, down lv dp N t k M = ((List.range k).reverse.flatMap fun j => (rf lv (N.word t j)).toList).foldl dp M := by
  induction k with
  | zero => intro M; rfl
  | succ k ih =>
    intro M
    rw [List.range_succ, List.reverse_append, List.reverse_singleton, List.singleton_append, List.flatMap_cons, List.foldl_append]
    unfold down
    rw [ih]
    unfold leaveG
    cases rf lv (N.word t k) <;> rfl
theorem down_perm (lv : Nat) (N : Mach) (t k : Nat) : ((List.range k).reverse.flatMap fun j => (rf lv (N.word t j)).toList).Perm (N.refs lv t k) :=
  List.Perm.flatMap_right _ (List.reverse_perm _)
theorem ents_stay (tk : Mach → Int → Nat → Int × Mach) (M : Mach) (o : Int) (t k : Nat) (h : (ents tk M o t k).1 ≠ 0) : ents tk M o t (k + 1) = ents tk M o t k := by
  show (if _ then _ else _) = _
  rw [if_neg h]
def kx : Nat → Int
  | 0 => -1
  | q + 1 => q
theorem kx_eq (j : Nat) : kx j = (j : Int) - 1 := by cases j <;> simp [kx]
set_option maxRecDepth 100000 in
theorem ytable (b Y lv K t : Nat) (tk : Mach → Int → Nat → Int × Mach) (dp : Mach → Nat × Nat → Mach) (o : Int) (M M1 : Mach) (T : Int) (i : Int) (c : Int) (hg : M.get i o K = (c, M1)) (hit : c = 0 → i = t ∧ (t : Int) < M.n) (hs1 : MSame M M1) (hno : c ≠ 0 → M1 = M) (hok : M.ok T) (hok1 : M1.ok (T + 1)) (hT : T + 20000 < 4611686018427387904)
    (hkind : ∀ wd : World, Calls Try.prog 124 #[.int .i64 lv] wd fun e w' => e = .returned (.int .i64 K) ∧ wd = w')
    (hsm : ∀ j, MSame M1 (ents tk M1 o t j).2) (hoke : ∀ j, j ≤ 64 → (ents tk M1 o t j).2.ok (T + 10000)) (hsl : ∀ M' n, MSame M' (leaveG lv dp M' n)) (hokl : ∀ M' n, M'.ok (T + 10000) → (leaveG lv dp M' n).ok (T + 10000))
    (hte : c = 0 → ∀ j, j < 64 → (ents tk M1 o t j).1 = 0 → YCall 125 #[.pointer (some ⟨Y, 0, none⟩), .int .i64 o, .int .i64 lv, .int .u32 (M1.word t j : Nat)] b Y (ents tk M1 o t j).2 (.returned (.int .i64 (ents tk M1 o t (j + 1)).1)) (ents tk M1 o t (j + 1)).2)
    (hle : c = 0 → ∀ j k M', k < j → j < 64 → (ents tk M1 o t j).1 = 0 → MSame M1 M' → M'.ok (T + 10000) → YCall 126 #[.pointer (some ⟨Y, 0, none⟩), .int .i64 lv, .int .u32 (M1.word t k : Nat)] b Y M' (.returned (.tuple #[])) (leaveG lv dp M' (M1.word t k)))
    (hun : c = 0 → ∀ j, j < 64 → (ents tk M1 o t j).1 = 0 → (ents tk M1 o t (j + 1)).1 ≠ 0 → ((down lv dp M1 t j (ents tk M1 o t (j + 1)).2).put t K).2 = M) :
    YCall 109 #[.pointer (some ⟨Y, 0, none⟩), .int .i64 o, .int .i64 i, .int .i64 lv] b Y M (.returned (.int .i64 (tabG K tk M o i).1)) (tabG K tk M o i).2 := by
  intro w S h
  have H := hid h
  have HOk := hid hok; have HOk1 := hid hok1
  have HKd := hid hkind
  have HG := hid (fun wd L (hL : RM wd b M L) => hg ▸ rGet b i o K wd M L T hL hok (by omega))
  have HSM := hid hsm; have HOE := hid hoke; have HSL := hid hsl; have HOL := hid hokl; have HTE := hid hte; have HLE := hid hle; have HUN := hid hun; have HS1 := hid hs1
  obtain ⟨R, hR⟩ : ∃ R, tabG K tk M o i = R := ⟨_, rfl⟩
  have hR1 : c ≠ 0 → R = (refusedV c, M) := fun e => by rw [← hR]; unfold tabG; rw [hg, if_pos e]
  have hR2 : c = 0 → 1 < (M1.fr t).cnt → R = (0, M1) := fun e e2 => by
    obtain ⟨rfl, _⟩ := hit e
    rw [← hR]; unfold tabG; rw [hg, if_neg (by simpa using e), Int.toNat_natCast, if_pos e2]
  have hR3 : c = 0 → ¬ 1 < (M1.fr t).cnt → R = if (ents tk M1 o t 64).1 = 0 then (0, (ents tk M1 o t 64).2) else ((ents tk M1 o t 64).1, M) := fun e e2 => by
    obtain ⟨rfl, _⟩ := hit e
    rw [← hR]; unfold tabG; rw [hg, if_neg (by simpa using e), Int.toNat_natCast, if_neg e2]
  rw [hR]
  have HR1 := hid hR1; have HR2 := hid hR2; have HR3 := hid hR3
  clear h hg hok hok1 hkind hsm hoke hsl hokl hte hle hun hs1 hR hR1 hR2 hR3
  have y0 := H.out.y
  by_cases hc : c = 0
  · subst hc
    obtain ⟨rfl, ht⟩ := hit rfl
    have HTt := hid ht
    clear hit ht hno
    by_cases hcnt : 1 < (M1.fr t).cnt
    · have hr := HR2.out rfl hcnt
      have HRr := hid hr
      clear hr HR1 HR2 HR3 HUN HLE HTE
      go_enter Try.func109, Try.ntmps109
      go_wp2
      have HDr := hid (H.out.more (grownBy_drew w none))
      go_region_held3 (fun w' => w'.cell? ⟨Y, 0, none⟩ = some (.pointer (some ⟨b, 0, none⟩))) (first | exact (by assumption) | go_keep)
        (first
          | (go_at_call 124; refine (HKd.out _).mono ?_; rintro e w1 ⟨rfl, rfl⟩)
          | (go_at_call 66; obtain ⟨L, hL, hf⟩ := HDr.out.r; refine (HG.out _ L hL).mono ?_; rintro e w2 ⟨rfl, L2, h2, _, c2, f2⟩; have H2 := hid (HDr.out.put hf h2 c2 f2); have hL2 : (t : Int) < L2.n := (by have := h2.hn; have := HS1.out.n; have := HTt.out; omega); have hL2' : t < L2.n := (by omega); have z0 := h2.slF; have z1 := h2.cnt hL2'; have z2 := H2.out.y; have z3 : (0 : Int) ≤ (t : Int) := (by omega); have yy := H2.out.y; clear h2 c2 f2 hL hf)
          | (go_at_call 123; refine (rrefused _ _).mono ?_; rintro e w3 ⟨rfl, rfl⟩; (try rw [show refusedV 0 = 0 from rfl])))
      all_goals go_wp2
      go_ret
      exact ⟨by rw [HRr.out]; rfl, by rw [HRr.out]; exact H2.out⟩
    · have HR := hid (HR3.out rfl hcnt)
      have hcnt' : (M1.fr t).cnt ≤ 1 := by omega
      clear HR1 HR2 HR3
      go_enter Try.func109, Try.ntmps109
      go_wp2
      have HDr := hid (H.out.more (grownBy_drew w none))
      go_region_held3 (fun w' => w'.cell? ⟨Y, 0, none⟩ = some (.pointer (some ⟨b, 0, none⟩))) (first | exact (by assumption) | go_keep)
        (first
          | (go_at_call 124; refine (HKd.out _).mono ?_; rintro e w1 ⟨rfl, rfl⟩)
          | (go_at_call 66; obtain ⟨L, hL, hf⟩ := HDr.out.r; refine (HG.out _ L hL).mono ?_; rintro e w2 ⟨rfl, L2, h2, _, c2, f2⟩; have H2 := hid (HDr.out.put hf h2 c2 f2); have hL2 : (t : Int) < L2.n := (by have := h2.hn; have := HS1.out.n; have := HTt.out; omega); have hL2' : t < L2.n := (by omega); have z0 := h2.slF; have z1 := h2.cnt hL2'; have z2 := H2.out.y; have z3 : (0 : Int) ≤ (t : Int) := (by omega); have yy := H2.out.y; clear h2 c2 f2 hL hf)
          | (go_at_call 123; refine (rrefused _ _).mono ?_; rintro e w3 ⟨rfl, rfl⟩; (try rw [show refusedV 0 = 0 from rfl])))
      all_goals go_wp2
      clear z0 z1 z2 z3 yy
      go_loopw [10] (fun x wr => ∃ j : Nat, x = .int .i64 j ∧ j ≤ 64 ∧ (ents tk M1 o t j).1 = 0 ∧ YM w wr b Y S (ents tk M1 o t j).2) (fun x _ => 64 - (intOf x).toNat)
      case atStart => exact ⟨0, rfl, by omega, rfl, H2.out⟩
      case round =>
        clear H2
        obtain ⟨j, rfl, hj, he, hx⟩ := hrel
        have hxx := hx.y
        have HX := hid hx
        clear hx
        have hj0 : (0 : Int) ≤ j := by omega
        by_cases hj64 : j < 64
        · have hj64' : (j : Int) < 64 := by omega
          have hsj := HSM.out j
          have HA := hid (fun (wd : World) (L : Lay) (hL : RM wd b (ents tk M1 o t j).2 L) => (show Calls Try.prog 26 #[.pointer (some ⟨b, 0, none⟩), .int .i64 t, .int .i64 j] wd fun e w' => e = .returned (.tuple #[.int .u32 (M1.word t j : Nat), .int .i64 0]) ∧ wd = w' from by
            have hh := rAt_yes b t j wd (ents tk M1 o t j).2 L hL (by have := hL.hn; have := hsj.n; have := HS1.out.n; have := HTt.out; omega) hj64
            rw [← Mach.word_bs (hsj.bs t) j]
            exact hh))
          clear hsj
          have HTj := hid (HTE.out (by trivial) j hj64 he)
          have HUj := hid (HUN.out (by trivial) j hj64 he)
          have HLj := hid (fun k M' hk => HLE.out (by trivial) j k M' hk hj64 he)
          have HSj := hid (HSM.out (j + 1))
          have HOj := hid (HOE.out (j + 1) (by omega))
          have HST := hid (fun (e1 : (ents tk M1 o t (j + 1)).1 ≠ 0) => (show ents tk M1 o t 64 = ents tk M1 o t (j + 1) from by
            have : ∀ q, j + 1 + q ≤ 64 → ents tk M1 o t (j + 1 + q) = ents tk M1 o t (j + 1) := fun q => by
              induction q with
              | zero => intro; rfl
              | succ q ih => intro hq; exact (ents_stay tk M1 o t (j + 1 + q) (by rw [ih (by omega)]; exact e1)).trans (ih (by omega))
            have := this (64 - (j + 1)) (by omega)
            rwa [show j + 1 + (64 - (j + 1)) = 64 by omega] at this))
          generalize hE : ents tk M1 o t (j + 1) = r at HTj HUj HSj HOj HST
          obtain ⟨c', M'⟩ := r
          have HE := hid hE
          clear hE
          by_cases hc' : c' = 0
          · subst hc'
            go_wp2_with (first
              | (go_at_call 26; obtain ⟨L, hL, hf⟩ := HX.out.r; refine (HA.out _ L hL).mono ?_; rintro e wa ⟨rfl, rfl⟩; clear hL hf)
              | (go_at_call 125; obtain ⟨S1, hs1, hs2⟩ := HX.out.here; refine (HTj.out _ S1 hs1).mono ?_; rintro e w3 ⟨rfl, h3⟩; have H3 := hid (HX.out.step hs2 h3); clear hs1 hs2 h3))
            go_roundw
            case rel => exact ⟨j + 1, by go_num, by omega, by rw [HE.out], by rw [HE.out]; exact H3.out⟩
            case measure => simp [intOf]; omega
          · have hcb : (c' == 0) = false := by simp [hc']
            have hr := HR.out
            rw [HST.out hc', if_neg (by simpa using hc')] at hr
            have HRr := hid hr
            have hF := HUj.out hc'
            simp only at hF
            obtain ⟨F, hFe⟩ : ∃ F, down lv dp M1 t j M' = F := ⟨_, rfl⟩
            rw [hFe] at hF
            have HF := hid hF; have HFe := hid hFe
            clear hr hF hFe HUj HTE HUN HLE HST
            go_wp2_with (first
              | (go_at_call 26; obtain ⟨L, hL, hf⟩ := HX.out.r; refine (HA.out _ L hL).mono ?_; rintro e wa ⟨rfl, rfl⟩; clear hL hf)
              | (go_at_call 125; obtain ⟨S1, hs1, hs2⟩ := HX.out.here; refine (HTj.out _ S1 hs1).mono ?_; rintro e w3 ⟨rfl, h3⟩; have H3 := hid (HX.out.step hs2 h3); clear hs1 hs2 h3))
            clear HX HTj
            go_loopw [13] (fun x wi => ∃ (k : Nat) (Mk : Mach), x = .int .i64 (kx k) ∧ k ≤ j ∧ YM w wi b Y S Mk ∧ MSame M1 Mk ∧ Mk.ok (T + 10000) ∧ down lv dp M1 t k Mk = F) (fun x _ => (intOf x + 1).toNat)
            case atStart => exact ⟨j, M', by rw [kx_eq], by omega, H3.out, HSj.out, HOj.out, HFe.out⟩
            case round =>
              clear H3
              obtain ⟨k, Mk, rfl, hk, hx, hsk, hok2, hdn⟩ := hrel
              have hxx := hx.y
              have HX := hid hx; have HSk := hid hsk; have HOk2 := hid hok2; have HDn := hid hdn
              clear hx hsk hok2 hdn
              cases k with
              | zero =>
                simp only [kx]
                have HDF := hid (show Mk = F from HDn.out)
                go_wp2
                have HDr := hid (HX.out.more (grownBy_drew _ none))
                go_region_held3 (fun w' => w'.cell? ⟨Y, 0, none⟩ = some (.pointer (some ⟨b, 0, none⟩))) (first | exact (by assumption) | go_keep)
                  (first
                    | (go_at_call 124; refine (HKd.out _).mono ?_; rintro e w5 ⟨rfl, rfl⟩)
                    | (go_at_call 68; obtain ⟨L, hL, hf⟩ := HDr.out.r; refine (rPut b t K _ Mk L (T + 10000) hL HOk2.out (by omega)).mono ?_; rintro e w6 ⟨rfl, L2, h2, _, c2, f2⟩; have H6 := hid (HDr.out.put hf h2 c2 f2); have yy := H6.out.y; clear h2 c2 f2 hL hf))
                all_goals go_wp2
                all_goals go_ret
                all_goals
                  have h6 := H6.out
                  rw [HDF.out, HF.out] at h6
                  exact ⟨by rw [HRr.out]; rfl, by rw [HRr.out]; exact h6⟩
              | succ k =>
                simp only [kx]
                have hk0 : (0 : Int) ≤ k := by omega
                have HA2 := hid (fun (wd : World) (L : Lay) (hL : RM wd b Mk L) => (show Calls Try.prog 26 #[.pointer (some ⟨b, 0, none⟩), .int .i64 t, .int .i64 k] wd fun e w' => e = .returned (.tuple #[.int .u32 (M1.word t k : Nat), .int .i64 0]) ∧ wd = w' from by
                  have hh := rAt_yes b t k wd Mk L hL (by have := hL.hn; have := HSk.out.n; have := HS1.out.n; have := HTt.out; omega) (by omega)
                  rw [← Mach.word_bs (HSk.out.bs t) k]
                  exact hh))
                have HLk := hid (HLj.out k Mk (by omega) HSk.out HOk2.out)
                go_wp2_with (first
                  | (go_at_call 26; obtain ⟨L, hL, hf⟩ := HX.out.r; refine (HA2.out _ L hL).mono ?_; rintro e wa ⟨rfl, rfl⟩; clear hL hf)
                  | (go_at_call 126; obtain ⟨S1, hs1, hs2⟩ := HX.out.here; refine (HLk.out _ S1 hs1).mono ?_; rintro e w5 ⟨rfl, h5⟩; have H5 := hid (HX.out.step hs2 h5); clear hs1 hs2 h5))
                go_roundw
                case rel => exact ⟨k, leaveG lv dp Mk (M1.word t k), by rw [← kx_eq]; rfl, by omega, H5.out, HSk.out.trans (HSL.out _ _), HOL.out _ _ HOk2.out, HDn.out⟩
                case measure => simp [intOf]
        · obtain rfl : j = 64 := by omega
          have hge : (64 : Int) ≤ ((64 : Nat) : Int) := by omega
          have hr := HR.out
          rw [if_pos he] at hr
          have HRr := hid hr
          clear hr
          go_wp2
          go_ret
          exact ⟨by rw [HRr.out]; rfl, by rw [HRr.out]; exact HX.out⟩
  · have hcb : (refusedV c != 0) = true := by simp; exact fun e => hc ((refusedV_zero c).1 e)
    have hr := HR1.out hc
    have HRr := hid hr
    obtain rfl := hno hc
    clear hr HR1 HR2 HR3 HUN HLE HTE
    go_enter Try.func109, Try.ntmps109
    go_wp2
    have HDr := hid (H.out.more (grownBy_drew w none))
    go_region_held3 (fun w' => w'.cell? ⟨Y, 0, none⟩ = some (.pointer (some ⟨b, 0, none⟩))) (first | exact (by assumption) | go_keep)
      (first
        | (go_at_call 124; refine (HKd.out _).mono ?_; rintro e w1 ⟨rfl, rfl⟩)
        | (go_at_call 66; obtain ⟨L, hL, hf⟩ := HDr.out.r; refine (HG.out _ L hL).mono ?_; rintro e w2 ⟨rfl, L2, h2, _, c2, f2⟩; have H2 := hid (HDr.out.put hf h2 c2 f2); have yy := H2.out.y; clear h2 c2 f2 hL hf)
        | (go_at_call 123; refine (rrefused _ _).mono ?_; rintro e w3 ⟨rfl, rfl⟩; (try rw [show refusedV 0 = 0 from rfl])))
    all_goals go_wp2
    go_ret
    exact ⟨by rw [HRr.out]; rfl, by rw [HRr.out]; exact H2.out⟩
end Go.Proofs.Ytemeihamkdpmoaa
