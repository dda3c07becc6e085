/-
  Package net: the bytes of requests and responses, both sides.
-/
import Derived.Test.YtoeohbiofmcdeaaBkA
import Derived.Test.YtoeohbiofmcdeaaBkP
import Derived.Test.YtoeohbiofmcdeaaBkZ
import Derived.BigRegion
import Derived.Deep.RegionHeld3
set_option linter.unusedSimpArgs false
set_option linter.unusedVariables false
namespace Go.Proofs.Ytoeohbiofmcdeaa.Nt
open Go.RowKit Gen Bk
set_option maxHeartbeats 4000000

/-- a request's numbers are such as its bytes can tell -/
def pkOk (r o n i : Int) : Bool := fitsV r 256 && fitsV o 256 && fitsV n 256 && fitsV i 65536
def pkB (r o n i : Int) : List UInt8 := [byteV r, byteV o, byteV n, 0, byteV i, byteV (i / 256), 0, 0, 0, 0, 0, 0, 0, 0, 0, 0]
theorem nByte (n : Int) (w : World) : Calls Try.prog 38 #[.int .i64 n] w fun e w' => e = .returned (.bool (fitsV n 256)) ∧ w = w' := by
  unfold fitsV
  cases h1 : decide (0 ≤ n) with
  | true =>
    go_enter Try.func38, Try.ntmps38
    go_wp2
    go_ret
    exact ⟨by simp, rfl⟩
  | false =>
    go_enter Try.func38, Try.ntmps38
    go_wp2
    go_ret
    exact ⟨by simp, rfl⟩
theorem nWord (n : Int) (w : World) : Calls Try.prog 39 #[.int .i64 n] w fun e w' => e = .returned (.bool (fitsV n 65536)) ∧ w = w' := by
  unfold fitsV
  cases h1 : decide (0 ≤ n) with
  | true =>
    go_enter Try.func39, Try.ntmps39
    go_wp2
    go_ret
    exact ⟨by simp, rfl⟩
  | false =>
    go_enter Try.func39, Try.ntmps39
    go_wp2
    go_ret
    exact ⟨by simp, rfl⟩
theorem rSmall (n : Int) (w : World) : Calls Try.prog 40 #[.int .i64 n] w fun e w' => e = .returned (.bool (fitsV n 256)) ∧ w = w' := by
  unfold fitsV
  cases h1 : decide (0 ≤ n) with
  | true =>
    go_enter Try.func40, Try.ntmps40
    go_wp2
    go_ret
    exact ⟨by simp, rfl⟩
  | false =>
    go_enter Try.func40, Try.ntmps40
    go_wp2
    go_ret
    exact ⟨by simp, rfl⟩
/-- what a call that tells no bytes leaves -/
def NoB (w : World) (e : Ending) (w' : World) : Prop := e = .returned (.tuple #[.slice none 0 0, .int .i64 1]) ∧ w.grownBy w' none
theorem nPack_no (r o n i : Int) (w : World) (h : pkOk r o n i = false) : Calls Try.prog 15 #[.int .i64 r, .int .i64 o, .int .i64 n, .int .i64 i] w (NoB w) := by
  unfold NoB
  have H1 := hid fun w' => nByte r w'
  have H2 := hid fun w' => nByte o w'
  have H3 := hid fun w' => nByte n w'
  have H4 := hid fun w' => nWord i w'
  unfold pkOk at h
  generalize fitsV r 256 = b1 at *
  generalize fitsV o 256 = b2 at *
  generalize fitsV n 256 = b3 at *
  generalize fitsV i 65536 = b4 at *
  have hh : b1 = false ∨ (b1 = true ∧ b2 = false) ∨ (b1 = true ∧ b2 = true ∧ b3 = false) ∨ (b1 = true ∧ b2 = true ∧ b3 = true ∧ b4 = false) := by
    revert h; cases b1 <;> cases b2 <;> cases b3 <;> cases b4 <;> simp
  clear h
  rcases hh with rfl | ⟨rfl, rfl⟩ | ⟨rfl, rfl, rfl⟩ | ⟨rfl, rfl, rfl, rfl⟩
  all_goals
    go_enter Try.func15, Try.ntmps15
    go_wp2_with (first
      | (go_at_call 38; first
        | ((with_reducible refine (H1.out _).mono ?_); rintro e w' ⟨rfl, rfl⟩)
        | ((with_reducible refine (H2.out _).mono ?_); rintro e w' ⟨rfl, rfl⟩)
        | ((with_reducible refine (H3.out _).mono ?_); rintro e w' ⟨rfl, rfl⟩))
      | (go_at_call 39; refine (H4.out _).mono ?_; rintro e w' ⟨rfl, rfl⟩))
    go_ret2
    exact ⟨rfl, grownBy_refl _ _⟩
/-- what a call that tells bytes leaves -/
def YesB (w : World) (l : List UInt8) (e : Ending) (w' : World) : Prop := ∃ b c, e = .returned (.tuple #[.slice (some ⟨b, 0, none⟩) l.length c, .int .i64 0]) ∧ BA w' (some ⟨b, 0, none⟩) l ∧ w.heap.size ≤ b ∧ l.length ≤ c ∧ w.grownBy w' none
theorem wrap8 {n : Int} (h : fitsV n 256 = true) : IntKind.u8.wrap n = n ∧ n % 256 = n := by
  simp only [fitsV, Bool.and_eq_true, decide_eq_true_eq] at h
  rw [IntKind.wrap_u8]
  omega
def pkX (r o n a b : Int) : Nat → Value
  | 0 => .int .u8 r
  | 1 => .int .u8 o
  | 2 => .int .u8 n
  | 4 => .int .u8 a
  | 5 => .int .u8 b
  | _ => .int .u8 0
theorem pk_cells (r o n i : Int) (h : pkOk r o n i = true) (k : Nat) (hk : k < 16) : Value.int .u8 (((pkB r o n i).getD k 0).toNat : Int) = pkX r o n (i % 256) (i / 256) k := by
  simp only [pkOk, Bool.and_eq_true] at h
  obtain ⟨⟨⟨h1, h2⟩, h3⟩, h4⟩ := h
  have e1 := (wrap8 h1).2
  have e2 := (wrap8 h2).2
  have e3 := (wrap8 h3).2
  have e5 : i / 256 % 256 = i / 256 := by simp only [fitsV, Bool.and_eq_true, decide_eq_true_eq] at h4; omega
  have x1 := byteV_nat r
  have x2 := byteV_nat o
  have x3 := byteV_nat n
  have x4 := byteV_nat i
  have x5 := byteV_nat (i / 256)
  rw [e1] at x1; rw [e2] at x2; rw [e3] at x3; rw [e5] at x5
  unfold pkB
  rcases (show k = 0 ∨ k = 1 ∨ k = 2 ∨ k = 3 ∨ k = 4 ∨ k = 5 ∨ k = 6 ∨ k = 7 ∨ k = 8 ∨ k = 9 ∨ k = 10 ∨ k = 11 ∨ k = 12 ∨ k = 13 ∨ k = 14 ∨ k = 15 by omega) with rfl | rfl | rfl | rfl | rfl | rfl | rfl | rfl | rfl | rfl | rfl | rfl | rfl | rfl | rfl | rfl
  all_goals simp [pkX, x1, x2, x3, x4, x5]
theorem make16 (w : World) : ∃ W, (Instr.makeSlice 25 (.int .i64 16) (.int .i64 16)).run Try.prog w = .ok (.slice (some ⟨w.heap.size, 0, none⟩) 16 16) W ∧ Row W w.heap.size 5 16 (fun _ => .int .u8 0) ∧ w.grownBy W none := by
  obtain ⟨W, h1, h2, h3⟩ := make_z w 16 (by omega)
  refine ⟨W, h1, ?_, h3⟩
  obtain ⟨g, c, e, _, hr⟩ := ownsRow_row (n := 15) h2
  cases e
  refine hr.congr fun k hk => ?_
  have : (bcells (List.replicate 16 0))[k]? = some (.int .u8 0) := by
    rw [bcells_get, List.getElem?_replicate]
    simp only [show k < 16 by omega, if_true]
    rfl
  rw [List.getD_eq_getElem?_getD, this]
  rfl
theorem nPack_yes (r o n i : Int) (w : World) (h : pkOk r o n i = true) : Calls Try.prog 15 #[.int .i64 r, .int .i64 o, .int .i64 n, .int .i64 i] w (YesB w (pkB r o n i)) := by
  unfold YesB
  have HC := hid (pk_cells r o n i h)
  simp only [pkOk, Bool.and_eq_true] at h
  obtain ⟨⟨⟨h1, h2⟩, h3⟩, h4⟩ := h
  have H1 := hid fun w' => h1 ▸ nByte r w'
  have H2 := hid fun w' => h2 ▸ nByte o w'
  have H3 := hid fun w' => h3 ▸ nByte n w'
  have H4 := hid fun w' => h4 ▸ nWord i w'
  have e1 := (wrap8 h1).1
  have e2 := (wrap8 h2).1
  have e3 := (wrap8 h3).1
  have e4 : IntKind.u8.wrap i = i % 256 := by rw [IntKind.wrap_u8]
  have e5 : IntKind.u8.wrap (i / 256) = i / 256 := by simp only [fitsV, Bool.and_eq_true, decide_eq_true_eq] at h4; rw [IntKind.wrap_u8]; omega
  clear h1 h2 h3 h4
  obtain ⟨W, hmk, hR, hG⟩ := make16 w
  have HR := hid hR
  have HG := hid hG
  have z0 := hR.cell (k := 0) (by omega); have z1 := hR.cell (k := 1) (by omega); have z2 := hR.cell (k := 2) (by omega); have z4 := hR.cell (k := 4) (by omega); have z5 := hR.cell (k := 5) (by omega)
  have f0 := hR.frozen 0; have f1 := hR.frozen 1; have f2 := hR.frozen 2; have f4 := hR.frozen 4; have f5 := hR.frozen 5
  clear hR hG
  go_enter Try.func15, Try.ntmps15
  go_wp2_with (first
    | (go_at_call 38; first
      | ((with_reducible refine (H1.out _).mono ?_); rintro e w' ⟨rfl, rfl⟩)
      | ((with_reducible refine (H2.out _).mono ?_); rintro e w' ⟨rfl, rfl⟩)
      | ((with_reducible refine (H3.out _).mono ?_); rintro e w' ⟨rfl, rfl⟩))
    | (go_at_call 39; refine (H4.out _).mono ?_; rintro e w' ⟨rfl, rfl⟩))
  have R1 := HR.out.set (k := 0) (v := .int .u8 r) (X' := fun q => if q = 0 then .int .u8 r else .int .u8 0) rfl (fun j _ hj => by simp [hj])
  have R2 := R1.set (k := 1) (v := .int .u8 o) (X' := fun q => if q = 1 then .int .u8 o else if q = 0 then .int .u8 r else .int .u8 0) rfl (fun j _ hj => by simp [hj])
  have R3 := R2.set (k := 2) (v := .int .u8 n) (X' := fun q => if q = 2 then .int .u8 n else if q = 1 then .int .u8 o else if q = 0 then .int .u8 r else .int .u8 0) rfl (fun j _ hj => by simp [hj])
  have R4 := R3.set (k := 4) (v := .int .u8 (i % 256)) (X' := fun q => if q = 4 then .int .u8 (i % 256) else if q = 2 then .int .u8 n else if q = 1 then .int .u8 o else if q = 0 then .int .u8 r else .int .u8 0) rfl (fun j _ hj => by simp [hj])
  have R5 := R4.set (k := 5) (v := .int .u8 (i / 256)) (X' := fun q => if q = 5 then .int .u8 (i / 256) else if q = 4 then .int .u8 (i % 256) else if q = 2 then .int .u8 n else if q = 1 then .int .u8 o else if q = 0 then .int .u8 r else .int .u8 0) rfl (fun j _ hj => by simp [hj])
  have G5 := ((((grownBy_setCell W w.heap.size 0 none (.int .u8 r)).trans (grownBy_setCell _ w.heap.size 1 none (.int .u8 o))).trans (grownBy_setCell _ w.heap.size 2 none (.int .u8 n))).trans (grownBy_setCell _ w.heap.size 4 none (.int .u8 (i % 256)))).trans (grownBy_setCell _ w.heap.size 5 none (.int .u8 (i / 256)))
  have hG := HG.out.andThen G5 (fun j e => .inl (by cases e; exact Nat.le_refl _))
  have RX := R5.congr (X' := pkX r o n (i % 256) (i / 256)) fun k hk => by
    rcases (show k = 0 ∨ k = 1 ∨ k = 2 ∨ k = 3 ∨ k = 4 ∨ k = 5 ∨ k = 6 ∨ k = 7 ∨ k = 8 ∨ k = 9 ∨ k = 10 ∨ k = 11 ∨ k = 12 ∨ k = 13 ∨ k = 14 ∨ k = 15 by omega) with rfl | rfl | rfl | rfl | rfl | rfl | rfl | rfl | rfl | rfl | rfl | rfl | rfl | rfl | rfl | rfl
    all_goals simp [pkX]
  clear R1 R2 R3 R4 R5 G5 z0 z1 z2 z4 z5 f0 f1 f2 f4 f5
  go_ret2
  refine ⟨_, 16, rfl, fun k hk => ⟨_, _, rfl, ?_⟩, Nat.le_refl _, Nat.le_refl _, hG⟩
  have hk' : k < 16 := hk
  rw [Nat.zero_add, RX.cell hk', HC.out k hk']
theorem nBuf_no (r i : Int) (w : World) (h : pkOk r 0 0 i = false) : Calls Try.prog 17 #[.int .i64 r, .int .i64 i] w (NoB w) := by
  unfold NoB
  have H := hid fun w' => nPack_no r 0 0 i w' h
  go_enter Try.func17, Try.ntmps17
  go_wp2_with (go_at_call 15; refine (H.out _).mono ?_; rintro e w' ⟨rfl, hg⟩)
  go_ret2
  exact ⟨rfl, hg⟩
theorem nBuf_yes (r i : Int) (w : World) (h : pkOk r 0 0 i = true) : Calls Try.prog 17 #[.int .i64 r, .int .i64 i] w (YesB w (pkB r 0 0 i)) := by
  have H := hid fun w' => nPack_yes r 0 0 i w' h
  generalize pkB r 0 0 i = L at *
  unfold YesB at *
  go_enter Try.func17, Try.ntmps17
  go_wp2_with (go_at_call 15; refine (H.out _).mono ?_; rintro e w' ⟨b, c, rfl, hr⟩; have HR := hid hr; clear hr)
  go_ret2
  exact ⟨_, _, rfl, HR.out⟩
/-- the reference's -/
theorem rPack_no (r o n i : Int) (w : World) (h : pkOk r o n i = false) : Calls Try.prog 16 #[.int .i64 r, .int .i64 o, .int .i64 n, .int .i64 i] w (NoB w) := by
  unfold NoB
  have H1 := hid fun w' => rSmall r w'
  have H2 := hid fun w' => rSmall o w'
  have H3 := hid fun w' => rSmall n w'
  obtain ⟨b4, hb4⟩ : ∃ b4, decide (i < 0) = b4 := ⟨_, rfl⟩
  obtain ⟨b5, hb5⟩ : ∃ b5, decide (65536 ≤ i) = b5 := ⟨_, rfl⟩
  have h45 : fitsV i 65536 = (!b4 && !b5) := by
    subst hb4 hb5
    unfold fitsV
    by_cases x : i < 0 <;> by_cases y : 65536 ≤ i <;> simp [x, y] <;> omega
  unfold pkOk at h
  rw [h45] at h
  clear h45
  generalize fitsV r 256 = b1 at *
  generalize fitsV o 256 = b2 at *
  generalize fitsV n 256 = b3 at *
  have hh : b1 = false ∨ (b1 = true ∧ b2 = false) ∨ (b1 = true ∧ b2 = true ∧ b3 = false) ∨ (b1 = true ∧ b2 = true ∧ b3 = true ∧ b4 = true) ∨ (b1 = true ∧ b2 = true ∧ b3 = true ∧ b4 = false ∧ b5 = true) := by
    clear hb4 hb5; revert h; cases b1 <;> cases b2 <;> cases b3 <;> cases b4 <;> cases b5 <;> simp
  clear h
  rcases hh with rfl | ⟨rfl, rfl⟩ | ⟨rfl, rfl, rfl⟩ | ⟨rfl, rfl, rfl, rfl⟩ | ⟨rfl, rfl, rfl, rfl, rfl⟩
  all_goals
    go_enter Try.func16, Try.ntmps16
    go_wp2_with (go_at_call 40; first
        | ((with_reducible refine (H1.out _).mono ?_); rintro e w' ⟨rfl, rfl⟩)
        | ((with_reducible refine (H2.out _).mono ?_); rintro e w' ⟨rfl, rfl⟩)
        | ((with_reducible refine (H3.out _).mono ?_); rintro e w' ⟨rfl, rfl⟩))
    go_ret2
    exact ⟨rfl, grownBy_refl _ _⟩
theorem ownB_yes {w w' : World} {base : Nat} {l : List UInt8} {v : Value} (hl : 0 < l.length) (h : w'.ownsRow base 5 1 v l.length (bcells l)) (hb : w.heap.size ≤ base) (hg : w.grownBy w' none) : YesB w l (.returned (.tuple #[v, .int .i64 0])) w' := by
  have hh := h
  rcases hh.2 with ⟨rfl, h0⟩ | ⟨g, cap, cur, rfl, hbg, hgg, hc, _⟩
  · omega
  · refine ⟨g, cap, rfl, fun k hk => ⟨g, 0, rfl, ?_⟩, by omega, hc, hg⟩
    rw [Nat.zero_add, h.cellAt k (by omega), bcells_at hk]
theorem own_fresh' (w : World) (l : List UInt8) (hl : l.length ≤ 16777216) : (w.alloc (.cells (bcells l).toArray 5)).ownsRow w.heap.size 5 1 (.slice (some ⟨w.heap.size, 0, none⟩) l.length l.length) l.length (bcells l) := by
  refine ⟨by rw [bcells_len, Nat.mul_one], .inr ⟨w.heap.size, l.length, (bcells l).toArray, rfl, Nat.le_refl _, heap_alloc_new w _, Nat.le_refl _, by unfold maxLen; omega, by simp [bcells_len], ?_⟩⟩
  rw [List.take_of_length_le (by simp [bcells_len])]
theorem rPack_yes (r o n i : Int) (w : World) (h : pkOk r o n i = true) : Calls Try.prog 16 #[.int .i64 r, .int .i64 o, .int .i64 n, .int .i64 i] w (YesB w (pkB r o n i)) := by
  simp only [pkOk, Bool.and_eq_true] at h
  obtain ⟨⟨⟨h1, h2⟩, h3⟩, h4⟩ := h
  have H1 := hid fun w' => h1 ▸ rSmall r w'
  have H2 := hid fun w' => h2 ▸ rSmall o w'
  have H3 := hid fun w' => h3 ▸ rSmall n w'
  obtain ⟨e1, x1⟩ := wrap8 h1
  obtain ⟨e2, x2⟩ := wrap8 h2
  obtain ⟨e3, x3⟩ := wrap8 h3
  simp only [fitsV, Bool.and_eq_true, decide_eq_true_eq] at h4
  obtain ⟨i0, i1⟩ := h4
  have b4 : decide (i < 0) = false := by simp; omega
  have b5 : decide (65536 ≤ i) = false := by simp; omega
  have f1 : IntKind.u8.wrap (i.tmod 256) = i % 256 := by rw [IntKind.wrap_u8, Int.tmod_eq_emod_of_nonneg i0]; omega
  have f2 : wrap64 (i.tdiv 256) = i / 256 := by rw [Int.tdiv_eq_ediv_of_nonneg i0]; unfold wrap64; omega
  have f3 : IntKind.u8.wrap (i / 256) = i / 256 := by rw [IntKind.wrap_u8]; omega
  have hl : #[Value.int .u8 r, .int .u8 o, .int .u8 n, .int .u8 0, .int .u8 (i % 256), .int .u8 (i / 256)] = (bcells [byteV r, byteV o, byteV n, 0, byteV i, byteV (i / 256)]).toArray := by
    simp only [bcells_cons, bcells_nil, byteV_nat, x1, x2, x3]
    rw [show i / 256 % 256 = i / 256 by omega]
    rfl
  have HO := own_fresh' w [byteV r, byteV o, byteV n, 0, byteV i, byteV (i / 256)] (show 6 ≤ 16777216 by decide)
  rw [← hl] at HO
  obtain ⟨vz, wz, hrz, hoz, hgz⟩ := run_append_zeros _ w.heap.size _ _ 10 _ HO (show 6 + 10 ≤ 16777216 by decide) (alloc_le w _)
  have HG := hid (own_then (World.grownBy_alloc w _ none) HO (Nat.le_refl _) hgz)
  have HRZ := hid hrz
  have HOZ := hid hoz
  clear i0 i1 h1 h2 h3 hl HO hrz hoz hgz x1 x2 x3
  go_enter Try.func16, Try.ntmps16
  go_wp2_with (first
    | (go_at_call 40; first
        | ((with_reducible refine (H1.out _).mono ?_); rintro e w' ⟨rfl, rfl⟩)
        | ((with_reducible refine (H2.out _).mono ?_); rintro e w' ⟨rfl, rfl⟩)
        | ((with_reducible refine (H3.out _).mono ?_); rintro e w' ⟨rfl, rfl⟩))
    | (at_builtin; refine Lib.wpList_append_run _ rfl _ _ _ _ rfl _ _ rfl rfl _ _ (HRZ.out _) ?_))
  go_ret2
  refine ownB_yes (base := w.heap.size) (show 0 < 16 by decide) ?_ (Nat.le_refl _) HG.out
  have h2 := HOZ.out
  rw [← bcells_app] at h2
  exact h2
theorem rBuf_no (r i : Int) (w : World) (h : pkOk r 0 0 i = false) : Calls Try.prog 18 #[.int .i64 r, .int .i64 i] w (NoB w) := by
  unfold NoB
  have H := hid fun w' => rPack_no r 0 0 i w' h
  go_enter Try.func18, Try.ntmps18
  go_wp2_with (go_at_call 16; refine (H.out _).mono ?_; rintro e w' ⟨rfl, hg⟩)
  go_ret2
  exact ⟨rfl, hg⟩
theorem rBuf_yes (r i : Int) (w : World) (h : pkOk r 0 0 i = true) : Calls Try.prog 18 #[.int .i64 r, .int .i64 i] w (YesB w (pkB r 0 0 i)) := by
  have H := hid fun w' => rPack_yes r 0 0 i w' h
  generalize pkB r 0 0 i = L at *
  unfold YesB at *
  go_enter Try.func18, Try.ntmps18
  go_wp2_with (go_at_call 16; refine (H.out _).mono ?_; rintro e w' ⟨b, c, rfl, hr⟩; have HR := hid hr; clear hr)
  go_ret2
  exact ⟨_, _, rfl, HR.out⟩
theorem nAwake (w : World) : Calls Try.prog 19 #[] w fun e w' => e = .returned (.bool true) ∧ w.grownBy w' none := by
  have H := hid fun w' => nPack_yes 3 16 60 7 w' (by decide)
  have hL : (pkB 3 16 60 7).length = 16 := rfl
  have h2 : ((pkB 3 16 60 7).getD 2 0).toNat = 60 := by decide
  have HL := hid hL
  have HL2 := hid h2
  go_enter Try.func19, Try.ntmps19
  go_wp2_with (go_at_call 15; refine (H.out _).mono ?_; rintro e w1 ⟨b, c, rfl, ha, hb, hc, hg⟩; have c2 := ha.at (k := 2) (by decide); rw [HL2.out] at c2; rw [HL.out]; have HG := hid hg; clear ha hb hc hg)
  go_ret
  exact ⟨rfl, HG.out⟩
end Go.Proofs.Ytoeohbiofmcdeaa.Nt
