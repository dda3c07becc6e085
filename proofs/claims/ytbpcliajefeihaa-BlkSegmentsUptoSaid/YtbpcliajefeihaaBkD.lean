/-
  Package blk: the reference's PackReply; UnpackReply of both sides.
-/
import Derived.Test.YtbpcliajefeihaaBkC
set_option linter.unusedSimpArgs false
set_option linter.unusedVariables false
namespace Go.Proofs.Ytbpcliajefeihaa.Bk
open Go.RowKit Gen
set_option maxHeartbeats 4000000

theorem own_fresh (w : World) (l : List UInt8) (hl : l.length ≤ 16777216) : (w.alloc (.cells (bcells l).toArray 5)).ownsRow w.heap.size 5 1 (.slice (some ⟨w.heap.size, 0, none⟩) l.length l.length) l.length (bcells l) := by
  refine ⟨by rw [bcells_len, Nat.mul_one], .inr ⟨w.heap.size, l.length, (bcells l).toArray, rfl, Nat.le_refl _, heap_alloc_new w _, Nat.le_refl _, by unfold maxLen; omega, by simp [bcells_len], ?_⟩⟩
  rw [List.take_of_length_le (by simp [bcells_len])]
theorem rPackR_no (p : Rp) (w : World) (h : p.ok = false) : Calls Try.prog 18 #[p.val] w fun e w' => e = .returned (.tuple #[.slice none 0 0, .int .i64 1]) ∧ w.grownBy w' none := by
  obtain ⟨i, o, s⟩ := p
  simp only [Rp.val, Rp.ok, fitsV] at *
  cases h1 : decide (i < 0) with
  | true =>
    clear h
    go_enter Try.func18, Try.ntmps18
    go_wp2
    go_ret2
    exact ⟨rfl, World.grownBy_alloc _ _ _⟩
  | false =>
  cases h2 : decide (65536 ≤ i) with
  | true =>
    clear h
    go_enter Try.func18, Try.ntmps18
    go_wp2
    go_ret2
    exact ⟨rfl, World.grownBy_alloc _ _ _⟩
  | false =>
  cases h3 : decide (o < 0) with
  | true =>
    clear h
    go_enter Try.func18, Try.ntmps18
    go_wp2
    go_ret2
    exact ⟨rfl, World.grownBy_alloc _ _ _⟩
  | false =>
  cases h4 : decide (255 < o) with
  | true =>
    clear h
    go_enter Try.func18, Try.ntmps18
    go_wp2
    go_ret2
    exact ⟨rfl, World.grownBy_alloc _ _ _⟩
  | false =>
  cases h5 : decide (s < 0) with
  | true =>
    clear h
    go_enter Try.func18, Try.ntmps18
    go_wp2
    go_ret2
    exact ⟨rfl, World.grownBy_alloc _ _ _⟩
  | false =>
    have h6 : decide (255 < s) = true := by
      simp only [decide_eq_true_eq, decide_eq_false_iff_not, Bool.and_eq_false_iff] at *
      omega
    clear h
    go_enter Try.func18, Try.ntmps18
    go_wp2
    go_ret2
    exact ⟨rfl, World.grownBy_alloc _ _ _⟩
theorem rPackR_yes (p : Rp) (w : World) (h : p.ok = true) : Calls Try.prog 18 #[p.val] w fun e w' => ∃ v, e = .returned (.tuple #[v, .int .i64 0]) ∧ NewB w (rpB p) v w' := by
  obtain ⟨i, o, s⟩ := p
  simp only [Rp.val, Rp.ok, fitsV, Bool.and_eq_true, decide_eq_true_eq] at *
  obtain ⟨⟨⟨i0, i1⟩, o0, o1⟩, s0, s1⟩ := h
  have h1 : decide (i < 0) = false := by simp; omega
  have h2 : decide (65536 ≤ i) = false := by simp; omega
  have h3 : decide (o < 0) = false := by simp; omega
  have h4 : decide (255 < o) = false := by simp; omega
  have h5 : decide (s < 0) = false := by simp; omega
  have h6 : decide (255 < s) = false := by simp; omega
  have f1 : IntKind.u8.wrap (i.tmod 256) = i % 256 := by rw [IntKind.wrap_u8, Int.tmod_eq_emod_of_nonneg i0]; omega
  have f2 : wrap64 (i.tdiv 256) = i / 256 := by rw [Int.tdiv_eq_ediv_of_nonneg i0]; unfold wrap64; omega
  have f3 : IntKind.u8.wrap o = o := by rw [IntKind.wrap_u8]; omega
  have f4 : IntKind.u8.wrap s = s := by rw [IntKind.wrap_u8]; omega
  obtain ⟨W, hW⟩ : ∃ W, w.alloc (.cells #[.int .i64 i, .int .i64 o, .int .i64 s] 45) = W := ⟨_, rfl⟩
  have HG0 := hid (show w.grownBy W none from hW ▸ World.grownBy_alloc _ _ _)
  have c0 : W.cell? ⟨w.heap.size, 0, none⟩ = some (.int .i64 i) := by rw [← hW]; simp [go_sem]
  have c1 : W.cell? ⟨w.heap.size, 1, none⟩ = some (.int .i64 o) := by rw [← hW]; simp [go_sem]
  have c2 : W.cell? ⟨w.heap.size, 2, none⟩ = some (.int .i64 s) := by rw [← hW]; simp [go_sem]
  have hl : #[Value.int .u8 (i % 256), .int .u8 (i / 256 % 256), .int .u8 o, .int .u8 s, .int .u8 0, .int .u8 0, .int .u8 0, .int .u8 0] = (bcells (rpB ⟨i, o, s⟩)).toArray := by
    unfold rpB
    simp only [bcells_cons, bcells_nil, byteV_nat]
    rw [show o % 256 = o by omega, show s % 256 = s by omega]
    rfl
  have HL := hid hl
  have HO := hid (own_fresh W (rpB ⟨i, o, s⟩) (by show 8 ≤ 16777216; omega))
  clear i0 i1 o0 o1 s0 s1 hl
  go_enter Try.func18, Try.ntmps18
  go_wp2
  go_ret2
  have h2 := HO.out
  rw [← HL.out] at h2
  exact ⟨_, rfl, own_lower h2 HG0.out.size, HG0.out.trans (World.grownBy_alloc _ _ _)⟩
/-- three numbers in a block of their own -/
def triV (a b c : Value) : Nat → Value
  | 0 => a
  | 1 => b
  | _ => c
theorem rowA {w W : World} {a b c : Value} (hW : w.alloc (.cells #[a, b, c] 45) = W) : Row W w.heap.size 45 3 (triV a b c) := by
  subst hW
  exact ⟨_, heap_alloc_new w _, by simp, fun k hk => by match k, hk with | 0, _ => rfl | 1, _ => rfl | 2, _ => rfl⟩
theorem set3 {w : World} {b : Nat} {X : Nat → Value} (h : Row w b 45 3 X) (a c d : Value) : Row (((w.setCell ⟨b, 0, none⟩ a).setCell ⟨b, 1, none⟩ c).setCell ⟨b, 2, none⟩ d) b 45 3 (triV a c d) :=
  (((h.set (k := 0) (v := a) (X' := fun q => if q = 0 then a else X q) rfl (fun j _ hj => by simp [hj])).set (k := 1) (v := c) (X' := fun q => if q = 1 then c else if q = 0 then a else X q) rfl (fun j _ hj => by simp [hj])).set (k := 2) (v := d) (X' := fun q => if q = 2 then d else if q = 1 then c else if q = 0 then a else X q) rfl (fun j _ hj => by simp [hj])).congr fun k hk => by match k, hk with | 0, _ => rfl | 1, _ => rfl | 2, _ => rfl
theorem set3_grown (w : World) (b : Nat) (a c d : Value) : w.grownBy (((w.setCell ⟨b, 0, none⟩ a).setCell ⟨b, 1, none⟩ c).setCell ⟨b, 2, none⟩ d) (some b) :=
  ((grownBy_setCell w b 0 none a).trans (grownBy_setCell _ b 1 none c)).trans (grownBy_setCell _ b 2 none d)
theorem rUnR_len (p : Option Addr) (n c : Nat) (w : World) (h : n ≠ 8) (hn : n ≤ 140737488351232) : Calls Try.prog 20 #[.slice p n c] w fun e w' => e = .returned (.tuple #[.agg #[.int .i64 0, .int .i64 0, .int .i64 0], .int .i64 1]) ∧ w.grownBy w' none := by
  have h1 : ((n : Int) != 8) = true := by simp; omega
  go_enter Try.func20, Try.ntmps20
  go_wp2
  obtain ⟨W, hW⟩ : ∃ W, w.alloc (.cells #[.int .i64 0, .int .i64 0, .int .i64 0] 45) = W := ⟨_, rfl⟩
  have rs := rowA hW
  have hG2 : w.grownBy W none := hW ▸ World.grownBy_alloc _ _ _
  rw [hW]
  clear hW
  have z0 := rs.cell (k := 0) (by omega); have z1 := rs.cell (k := 1) (by omega); have z2 := rs.cell (k := 2) (by omega)
  simp only [triV] at z0 z1 z2
  refine bodyPost_ret (v := .tuple #[.agg #[.int .i64 0, .int .i64 0, .int .i64 0], .int .i64 1]) (by simp [results, Try.results20, go_sem, z0, z1, z2]) rfl ⟨rfl, hG2⟩
theorem bUnR_len (p : Option Addr) (n c : Nat) (w : World) (h : n ≠ 8) (hn : n ≤ 140737488351232) : Calls Try.prog 19 #[.slice p n c] w fun e w' => e = .returned (.tuple #[.agg #[.int .i64 0, .int .i64 0, .int .i64 0], .int .i64 1]) ∧ w.grownBy w' none := by
  have h1 : ((n : Int) != 8) = true := by simp; omega
  go_enter Try.func19, Try.ntmps19
  go_wp2
  obtain ⟨W, hW⟩ : ∃ W, w.alloc (.cells #[.int .i64 0, .int .i64 0, .int .i64 0] 45) = W := ⟨_, rfl⟩
  have rs := rowA hW
  have hG2 : w.grownBy W none := hW ▸ World.grownBy_alloc _ _ _
  rw [hW]
  clear hW
  have z0 := rs.cell (k := 0) (by omega); have z1 := rs.cell (k := 1) (by omega); have z2 := rs.cell (k := 2) (by omega)
  simp only [triV] at z0 z1 z2
  refine bodyPost_ret (v := .tuple #[.agg #[.int .i64 0, .int .i64 0, .int .i64 0], .int .i64 1]) (by simp [results, Try.results19, go_sem, z0, z1, z2]) rfl ⟨rfl, hG2⟩
set_option maxRecDepth 100000 in
theorem rUnR_yes (b o c : Nat) (x0 x1 x2 x3 : Nat) (w : World) (c0 : w.cell? ⟨b, o, none⟩ = some (.int .u8 x0)) (c1 : w.cell? ⟨b, o + 1, none⟩ = some (.int .u8 x1)) (c2 : w.cell? ⟨b, o + 2, none⟩ = some (.int .u8 x2)) (c3 : w.cell? ⟨b, o + 3, none⟩ = some (.int .u8 x3)) (hx : x0 < 256 ∧ x1 < 256 ∧ x2 < 256 ∧ x3 < 256) :
    Calls Try.prog 20 #[.slice (some ⟨b, o, none⟩) 8 c] w fun e w' => e = .returned (.tuple #[.agg #[.int .i64 (x0 + 256 * x1 : Nat), .int .i64 x2, .int .i64 x3], .int .i64 0]) ∧ w.grownBy w' none := by
  obtain ⟨y0, y1, y2, y3⟩ := hx
  obtain ⟨W, hW⟩ : ∃ W, w.alloc (.cells #[.int .i64 0, .int .i64 0, .int .i64 0] 45) = W := ⟨_, rfl⟩
  have HG0 := hid (show w.grownBy W none from hW ▸ World.grownBy_alloc _ _ _)
  have d0 := HG0.out.cell c0 (by simp)
  have d1 := HG0.out.cell c1 (by simp)
  have d2 := HG0.out.cell c2 (by simp)
  have d3 := HG0.out.cell c3 (by simp)
  have hR := rowA hW
  clear c0 c1 c2 c3
  go_enter Try.func20, Try.ntmps20
  go_wp2
  have z0 := hR.cell (k := 0) (by omega); have z1 := hR.cell (k := 1) (by omega); have z2 := hR.cell (k := 2) (by omega); have zz := hR.frozen
  simp only [triV] at z0 z1 z2
  have HR := hid hR
  have e1 : wrap64 (256 * (x1 : Int)) = 256 * x1 := by unfold wrap64; omega
  have e2 : wrap64 ((x0 : Int) + 256 * x1) = x0 + 256 * x1 := by unfold wrap64; omega
  clear hR hW
  go_region
  all_goals
    go_wp2
    have rs := set3 HR.out (.int .i64 ((x0 : Int) + 256 * x1)) (.int .i64 x2) (.int .i64 x3)
    have gs := set3_grown W w.heap.size (.int .i64 ((x0 : Int) + 256 * x1)) (.int .i64 x2) (.int .i64 x3)
    have hG2 := HG0.out.andThen gs (fun j e => .inl (by cases e; exact Nat.le_refl _))
    clear gs z0 z1 z2 zz d0 d1 d2 d3
    generalize ((W.setCell ⟨w.heap.size, 0, none⟩ (.int .i64 ((x0 : Int) + 256 * x1))).setCell ⟨w.heap.size, 1, none⟩ (.int .i64 x2)).setCell ⟨w.heap.size, 2, none⟩ (.int .i64 x3) = W3 at *
    have z0 := rs.cell (k := 0) (by omega); have z1 := rs.cell (k := 1) (by omega); have z2 := rs.cell (k := 2) (by omega)
    simp only [triV] at z0 z1 z2
    refine bodyPost_ret (v := .tuple #[.agg #[.int .i64 ((x0 : Int) + 256 * x1), .int .i64 x2, .int .i64 x3], .int .i64 0]) (by simp [results, Try.results20, go_sem, z0, z1, z2]) rfl ⟨by rw [Int.natCast_add, Int.natCast_mul]; rfl, ?_⟩
    repeat (first | exact hG2 | exact hG2.trans (grownBy_drew _ none) | exact hG2.trans (grownBy_drewN _ _ none))
set_option maxRecDepth 100000 in
theorem bUnR_yes (b o c : Nat) (x0 x1 x2 x3 : Nat) (w : World) (hc : 8 ≤ c) (c0 : w.cell? ⟨b, o, none⟩ = some (.int .u8 x0)) (c1 : w.cell? ⟨b, o + 1, none⟩ = some (.int .u8 x1)) (c2 : w.cell? ⟨b, o + 2, none⟩ = some (.int .u8 x2)) (c3 : w.cell? ⟨b, o + 3, none⟩ = some (.int .u8 x3)) (hx : x0 < 256 ∧ x1 < 256 ∧ x2 < 256 ∧ x3 < 256) :
    Calls Try.prog 19 #[.slice (some ⟨b, o, none⟩) 8 c] w fun e w' => e = .returned (.tuple #[.agg #[.int .i64 (x0 + 256 * x1 : Nat), .int .i64 x2, .int .i64 x3], .int .i64 0]) ∧ w.grownBy w' none := by
  obtain ⟨y0, y1, y2, y3⟩ := hx
  have hc2 : 2 ≤ c := by omega
  have hc3 : (2 : Int) ≤ c := by omega
  obtain ⟨W, hW⟩ : ∃ W, w.alloc (.cells #[.int .i64 0, .int .i64 0, .int .i64 0] 45) = W := ⟨_, rfl⟩
  have HG0 := hid (show w.grownBy W none from hW ▸ World.grownBy_alloc _ _ _)
  have d0 := HG0.out.cell c0 (by simp)
  have d1 := HG0.out.cell c1 (by simp)
  have d2 := HG0.out.cell c2 (by simp)
  have d3 := HG0.out.cell c3 (by simp)
  have hR := rowA hW
  clear c0 c1 c2 c3
  go_enter Try.func19, Try.ntmps19
  go_wp2
  have z0 := hR.cell (k := 0) (by omega); have z1 := hR.cell (k := 1) (by omega); have z2 := hR.cell (k := 2) (by omega); have zz := hR.frozen
  simp only [triV] at z0 z1 z2
  have HR := hid hR
  have e1 : wrap64 (256 * (x1 : Int)) = 256 * x1 := by unfold wrap64; omega
  have e2 : wrap64 ((x0 : Int) + 256 * x1) = x0 + 256 * x1 := by unfold wrap64; omega
  clear hR hW
  have HN1 := hid (bNumber b o c 2 x0 x1 0 0 W.drew (by omega) ⟨y0, y1, by omega, by omega⟩ (fun k hk => by match k, hk with | 0, _ => exact d0 | 1, _ => exact d1))
  simp only [upN] at HN1
  have hx01 : ((x0 + 256 * x1 : Nat) : Int) = x0 + 256 * x1 := by omega
  have wx2 : IntKind.i64.wrap (x2 : Int) = x2 := by rw [IntKind.wrap_i64]; omega
  have wx3 : IntKind.i64.wrap (x3 : Int) = x3 := by rw [IntKind.wrap_i64]; omega
  rw [hx01] at HN1
  go_region_with (go_at_call 32; refine HN1.out.mono ?_; rintro e w' ⟨rfl, n, rfl⟩)
  all_goals
    obtain ⟨V, hV⟩ : ∃ V, W.drewN (1 + n) = V := ⟨_, rfl⟩
    have gV : W.grownBy V none := hV ▸ grownBy_drewN W _ none
    have rs := set3 (HR.out.grown gV (by simp)) (.int .i64 ((x0 : Int) + 256 * x1)) (.int .i64 x2) (.int .i64 x3)
    have gs := set3_grown V w.heap.size (.int .i64 ((x0 : Int) + 256 * x1)) (.int .i64 x2) (.int .i64 x3)
    have hG2 := (HG0.out.trans gV).andThen gs (fun j e => .inl (by cases e; exact Nat.le_refl _))
    go_wp2
    rw [hV]
    clear gs z0 z1 z2 zz d0 d1 d2 d3 hV gV
    generalize ((V.setCell ⟨w.heap.size, 0, none⟩ (.int .i64 ((x0 : Int) + 256 * x1))).setCell ⟨w.heap.size, 1, none⟩ (.int .i64 x2)).setCell ⟨w.heap.size, 2, none⟩ (.int .i64 x3) = W3 at *
    have z0 := rs.cell (k := 0) (by omega); have z1 := rs.cell (k := 1) (by omega); have z2 := rs.cell (k := 2) (by omega)
    simp only [triV] at z0 z1 z2
    refine bodyPost_ret (v := .tuple #[.agg #[.int .i64 ((x0 : Int) + 256 * x1), .int .i64 x2, .int .i64 x3], .int .i64 0]) (by simp [results, Try.results19, go_sem, Act.put, z0, z1, z2]) rfl ⟨by rw [hx01], hG2⟩


theorem BA.len0 {w : World} {p : Option Addr} {l : List UInt8} (h : BA w p l) {k : Nat} (hk : l.length = k + 1) : ∃ b o, p = some ⟨b, o, none⟩ := h.ptr (by omega)
theorem bUnR (l : List UInt8) (p : Option Addr) (c : Nat) (w : World) (h : BA w p l) (hc : l.length ≤ c) (hl : l.length ≤ 140737488351232) : Calls Try.prog 19 #[.slice p l.length c] w fun e w' => e = .returned (.tuple #[(unrV l).1.val, .int .i64 (unrV l).2]) ∧ w.grownBy w' none := by
  by_cases h8 : l.length = 8
  · obtain ⟨b, o, rfl⟩ := h.len0 h8
    unfold unrV
    rw [if_pos h8, h8]
    exact (bUnR_yes b o c _ _ _ _ w (by omega) (h.at (k := 0) (by omega)) (h.at (k := 1) (by omega)) (h.at (k := 2) (by omega)) (h.at (k := 3) (by omega)) ⟨UInt8.toNat_lt _, UInt8.toNat_lt _, UInt8.toNat_lt _, UInt8.toNat_lt _⟩).mono fun e w' ⟨he, hg⟩ => ⟨by rw [he]; rfl, hg⟩
  · unfold unrV
    rw [if_neg h8]
    exact (bUnR_len p l.length c w h8 hl)
theorem rUnR (l : List UInt8) (p : Option Addr) (c : Nat) (w : World) (h : BA w p l) (hc : l.length ≤ c) (hl : l.length ≤ 140737488351232) : Calls Try.prog 20 #[.slice p l.length c] w fun e w' => e = .returned (.tuple #[(unrV l).1.val, .int .i64 (unrV l).2]) ∧ w.grownBy w' none := by
  by_cases h8 : l.length = 8
  · obtain ⟨b, o, rfl⟩ := h.len0 h8
    unfold unrV
    rw [if_pos h8, h8]
    exact (rUnR_yes b o c _ _ _ _ w (h.at (k := 0) (by omega)) (h.at (k := 1) (by omega)) (h.at (k := 2) (by omega)) (h.at (k := 3) (by omega)) ⟨UInt8.toNat_lt _, UInt8.toNat_lt _, UInt8.toNat_lt _, UInt8.toNat_lt _⟩).mono fun e w' ⟨he, hg⟩ => ⟨by rw [he]; rfl, hg⟩
  · unfold unrV
    rw [if_neg h8]
    exact (rUnR_len p l.length c w h8 hl)
/-- awake -/
theorem blkAwake (w : World) : Calls Try.prog 10 #[] w fun e w' => e = .returned (.bool true) ∧ w.grownBy w' none := by
  have H := hid fun w' => bPackR_yes ⟨7, 1, 0⟩ ⟨⟨by decide, by decide⟩, ⟨by decide, by decide⟩, ⟨by decide, by decide⟩⟩ w' rfl
  simp only [Rp.val] at H
  go_enter Try.func10, Try.ntmps10
  go_wp2_with (go_at_call 17; refine (H.out _).mono ?_; rintro e w1 ⟨v, rfl, hn⟩; obtain ⟨p, c, rfl, ha, hc, _⟩ := hn.ba; obtain ⟨b, o, rfl⟩ := ha.ptr (by decide); have c0 : w1.cell? ⟨b, o, none⟩ = some (.int .u8 7) := ha.at (k := 0) (by decide); rw [show (rpB ⟨7, 1, 0⟩).length = 8 from rfl]; have HG := hid hn.2; clear hn ha hc)
  go_ret
  exact ⟨rfl, HG.out⟩
end Go.Proofs.Ytbpcliajefeihaa.Bk
