/-
  Package blk: PackReply, UnpackReply of both sides.
-/
import Derived.Test.YtfpemajbgnfflaaBkB
import Derived.Test.YtfpemajbgnfflaaBkZ
import Derived.BigRegion
import Derived.Deep.RegionHeld3
set_option linter.unusedSimpArgs false
set_option linter.unusedVariables false
namespace Go.Proofs.Ytfpemajbgnfflaa.Bk
open Go.RowKit Gen
set_option maxHeartbeats 4000000

def Rp.val (p : Rp) : Value := .agg #[.int .i64 p.id, .int .i64 p.op, .int .i64 p.st]
structure Rp.fits (p : Rp) : Prop where
  id : I64 p.id
  op : I64 p.op
  st : I64 p.st
theorem bPackR_no (p : Rp) (hf : p.fits) (w : World) (h : p.ok = false) : Calls Try.prog 11 #[p.val] w fun e w' => e = .returned (.tuple #[.slice none 0 0, .int .i64 1]) ∧ w.grownBy w' none := by
  obtain ⟨i, o, s⟩ := p
  obtain ⟨f1, f2, f3⟩ := hf
  simp only [Rp.val, Rp.ok] at *
  have H1 := fun w' => bFits16 i w' f1
  have H2 := fun w' => bFits8 o w' f2
  have H3 := fun w' => bFits8 s w' f3
  clear f1 f2 f3
  cases h1 : fitsV i 65536 with
  | false =>
    rw [h1] at H1
    have HH := hid H1
    clear h h1 H1 H2 H3
    go_enter Try.func11, Try.ntmps11
    go_wp2_with (go_at_call 9; refine (HH.out _).mono ?_; rintro e w' ⟨rfl, rfl⟩)
    go_ret2
    exact ⟨rfl, World.grownBy_alloc _ _ _⟩
  | true =>
    rw [h1] at H1 h
    have HH1 := hid H1
    clear h1 H1
    cases h2 : fitsV o 256 with
    | false =>
      rw [h2] at H2
      have HH2 := hid H2
      clear h h2 H2 H3
      go_enter Try.func11, Try.ntmps11
      go_wp2_with (go_at_call 9; first | ((with_reducible refine (HH1.out _).mono ?_); rintro e w' ⟨rfl, rfl⟩) | ((with_reducible refine (HH2.out _).mono ?_); rintro e w' ⟨rfl, rfl⟩))
      go_ret2
      exact ⟨rfl, World.grownBy_alloc _ _ _⟩
    | true =>
      rw [h2] at H2 h
      simp only [Bool.true_and] at h
      rw [h] at H3
      have HH2 := hid H2
      have HH3 := hid H3
      clear h h2 H2 H3
      go_enter Try.func11, Try.ntmps11
      go_wp2_with (go_at_call 9; first | ((with_reducible refine (HH1.out _).mono ?_); rintro e w' ⟨rfl, rfl⟩; clear HH1) | ((with_reducible refine (HH2.out _).mono ?_); rintro e w' ⟨rfl, rfl⟩; clear HH2) | ((with_reducible refine (HH3.out _).mono ?_); rintro e w' ⟨rfl, rfl⟩))
      go_ret2
      exact ⟨rfl, World.grownBy_alloc _ _ _⟩
set_option maxRecDepth 100000 in
theorem bPackR_yes (p : Rp) (hf : p.fits) (w : World) (h : p.ok = true) : Calls Try.prog 11 #[p.val] w fun e w' => ∃ v, e = .returned (.tuple #[v, .int .i64 0]) ∧ NewB w (rpB p) v w' := by
  obtain ⟨i, o, s⟩ := p
  obtain ⟨f1, f2, f3⟩ := hf
  simp only [Rp.val, Rp.ok, Bool.and_eq_true] at *
  obtain ⟨⟨h1, h2⟩, h3⟩ := h
  have H1 := hid fun w' => h1 ▸ bFits16 i w' f1
  have H2 := hid fun w' => h2 ▸ bFits8 o w' f2
  have H3 := hid fun w' => h3 ▸ bFits8 s w' f3
  have HB := hid fun w' => bBytesOf i f1 2 (by omega) w'
  simp only [show (8 * (2 : Nat) : Int) = 16 from rfl] at HB
  obtain ⟨i0, hi, hz0, hz1, hz2⟩ := info_parts info_u8
  have Hi := hid hi; have Hz0 := hid hz0; have Hz1 := hid hz1; have Hz2 := hid hz2
  have E1 := hid (byteV_nat o)
  have E2 := hid (byteV_nat s)
  simp only [fitsV, Bool.and_eq_true, decide_eq_true_eq] at h1 h2 h3
  have e1 : o % 256 = o := by omega
  have e2 : s % 256 = s := by omega
  have e1' : IntKind.u8.wrap o = o := by rw [IntKind.wrap_u8]; omega
  have e2' : IntKind.u8.wrap s = s := by rw [IntKind.wrap_u8]; omega
  clear f1 f2 f3 h1 h2 h3 hi hz0 hz1 hz2
  obtain ⟨W, hW⟩ : ∃ W, w.alloc (.cells #[.int .i64 i, .int .i64 o, .int .i64 s] 43) = W := ⟨_, rfl⟩
  have HG0 := hid (show w.grownBy W none from hW ▸ World.grownBy_alloc _ _ _)
  have c0 : W.cell? ⟨w.heap.size, 0, none⟩ = some (.int .i64 i) := by rw [← hW]; simp [go_sem]
  have c1 : W.cell? ⟨w.heap.size, 1, none⟩ = some (.int .i64 o) := by rw [← hW]; simp [go_sem]
  have c2 : W.cell? ⟨w.heap.size, 2, none⟩ = some (.int .i64 s) := by rw [← hW]; simp [go_sem]
  have HS0 := hid (show w.heap.size + 1 ≤ W.heap.size by rw [← hW]; simp)
  have HS1 := hid (show w.heap.size < W.heap.size by rw [← hW]; simp)
  go_enter Try.func11, Try.ntmps11
  go_wp2_with (go_at_call 9; first | ((with_reducible refine (H1.out _).mono ?_); rintro e w' ⟨rfl, rfl⟩; clear H1) | ((with_reducible refine (H2.out _).mono ?_); rintro e w' ⟨rfl, rfl⟩; clear H2) | ((with_reducible refine (H3.out _).mono ?_); rintro e w' ⟨rfl, rfl⟩))
  obtain ⟨X, hX⟩ : ∃ X, Obj.cells #[.int .u8 o, .int .u8 s] 5 = X := ⟨_, rfl⟩
  have hXc : [Value.int .u8 o, .int .u8 s] = bcells [byteV o, byteV s] := by rw [bcells_cons, bcells_cons, bcells_nil, E1.out, E2.out, e1, e2]
  have HXc := hid hXc
  have HXl := hid (show [Value.int .u8 o, .int .u8 s].length = 2 * 1 from rfl)
  have d0 := fun ob => (World.grownBy_alloc W ob none).cell (a := ⟨w.heap.size, 0, none⟩) c0 (by simp)
  have d1 := fun ob => (World.grownBy_alloc W ob none).cell (a := ⟨w.heap.size, 1, none⟩) c1 (by simp)
  have d2 := fun ob => (World.grownBy_alloc W ob none).cell (a := ⟨w.heap.size, 2, none⟩) c2 (by simp)
  clear hX hXc
  go_region_held3 (fun w' => w'.cell? ⟨w.heap.size, 0, none⟩ = some (.int .i64 i) ∧ w'.cell? ⟨w.heap.size, 1, none⟩ = some (.int .i64 o) ∧ w'.cell? ⟨w.heap.size, 2, none⟩ = some (.int .i64 s)) (first | exact ⟨by assumption, by assumption, by assumption⟩ | go_keep)
    (first
     | (go_at_call 13; first
       | ((with_reducible refine (HB.out W.drew).mono ?_); rintro e wa ⟨v, rfl, oa, ga⟩; obtain ⟨pa, ca, rfl⟩ := ownsRow_slice oa; have GA := hid (show W.grownBy wa none from (grownBy_drew W none).trans ga); have OA2 := hid (show (wa.alloc (.cells #[.int .u8 o, .int .u8 s] 5)).ownsRow W.heap.size 5 1 (.slice pa 2 ca) 2 (bcells (leT i 2)) from own_grown oa (World.grownBy_alloc wa (.cells #[.int .u8 o, .int .u8 s] 5) none)); have NA := hid (World.news_of_block (heap_alloc_new wa (.cells #[.int .u8 o, .int .u8 s] 5))); have BA := hid (show W.heap.size ≤ (wa.alloc (.cells #[.int .u8 o, .int .u8 s] 5)).heap.size from Nat.le_trans GA.out.size (alloc_le _ _)); have GX := hid (GA.out.trans (World.grownBy_alloc wa (.cells #[.int .u8 o, .int .u8 s] 5) none)); have k0 := ga.cell (a := ⟨w.heap.size, 0, none⟩) c0 (by simp); have k1 := ga.cell (a := ⟨w.heap.size, 1, none⟩) c1 (by simp); have k2 := ga.cell (a := ⟨w.heap.size, 2, none⟩) c2 (by simp); have l0 := fun ob => (World.grownBy_alloc wa ob none).cell k0 (by simp); have l1 := fun ob => (World.grownBy_alloc wa ob none).cell k1 (by simp); have l2 := fun ob => (World.grownBy_alloc wa ob none).cell k2 (by simp); clear oa ga)
       | ((with_reducible refine (HB.out (W.alloc (.cells #[.int .u8 o, .int .u8 s] 5)).drew).mono ?_); rintro e wb ⟨v, rfl, ob, gb⟩; obtain ⟨pb, cb, rfl⟩ := ownsRow_slice ob; have GA := hid (show W.grownBy wb none from ((World.grownBy_alloc W (.cells #[.int .u8 o, .int .u8 s] 5) none).trans (grownBy_drew _ none)).trans gb); have OA2 := hid (show wb.ownsRow W.heap.size 5 1 (.slice pb 2 cb) 2 (bcells (leT i 2)) from own_lower ob (alloc_le W (.cells #[.int .u8 o, .int .u8 s] 5))); have NA := hid (show ∀ j u, [Value.int .u8 o, .int .u8 s][j]? = some u → wb.cell? ((⟨W.heap.size, 0, none⟩ : Addr).add j) = some u from fun j u hu => gb.cell (World.news_of_block (heap_alloc_new W (.cells #[.int .u8 o, .int .u8 s] 5)) j u hu) (by simp)); have BA := hid GA.out.size; have k0 := gb.cell (a := ⟨w.heap.size, 0, none⟩) (d0 _) (by simp); have k1 := gb.cell (a := ⟨w.heap.size, 1, none⟩) (d1 _) (by simp); have k2 := gb.cell (a := ⟨w.heap.size, 2, none⟩) (d2 _) (by simp); clear ob gb))
     | (first
       | (refine step_append_lies (wa.alloc (.cells #[.int .u8 o, .int .u8 s] 5)) (by rfl) _ _ 22 (by rfl) W.heap.size 5 i0 (.int .u8 0) 1 1 Try.underlying22 Hi.out Hz0.out Hz1.out Hz2.out rfl (by decide) (.slice pa 2 ca) 2 (bcells (leT i 2)) (by rfl) OA2.out ⟨wa.heap.size, 0, none⟩ 2 2 [.int .u8 o, .int .u8 s] (by rfl) HXl.out NA.out (by simp [Value.oneCell']) (by omega) (by unfold maxLen; omega) (by omega) BA.out (wa.heap.size + 1) (by simp) ?_; intro g9 c9 Y9 ho9 hg9 hat9 hlt9; have m0 := own_keep OA2.out HS1.out hg9 (l0 _); have m1 := own_keep OA2.out HS1.out hg9 (l1 _); have m2 := own_keep OA2.out HS1.out hg9 (l2 _); have HO9 := hid ho9; have HG9 := hid (own_then GX.out OA2.out (Nat.le_refl _) hg9); clear ho9 hg9 hat9 hlt9)
       | (refine step_append_lies wb (by rfl) _ _ 22 (by rfl) W.heap.size 5 i0 (.int .u8 0) 1 1 Try.underlying22 Hi.out Hz0.out Hz1.out Hz2.out rfl (by decide) (.slice pb 2 cb) 2 (bcells (leT i 2)) (by rfl) OA2.out ⟨W.heap.size, 0, none⟩ 2 2 [.int .u8 o, .int .u8 s] (by rfl) HXl.out NA.out (by simp [Value.oneCell']) (by omega) (by unfold maxLen; omega) (by omega) BA.out wb.heap.size rfl ?_; intro g9 c9 Y9 ho9 hg9 hat9 hlt9; have m0 := own_keep OA2.out HS1.out hg9 k0; have m1 := own_keep OA2.out HS1.out hg9 k1; have m2 := own_keep OA2.out HS1.out hg9 k2; have HO9 := hid ho9; have HG9 := hid (own_then GA.out OA2.out (Nat.le_refl _) hg9); clear ho9 hg9 hat9 hlt9)))
  all_goals
    clear m0 m1 m2
    obtain ⟨vz, wz, hrz, hoz, hgz⟩ := run_append_zeros Y9 W.heap.size _ _ 4 _ HO9.out (by omega) HG9.out.size
    have HRZ := hid hrz
    have HOZ := hid hoz
    have HGZ := hid (own_then HG9.out HO9.out (Nat.le_refl _) hgz)
    clear hrz hoz hgz
    go_wp2_with (at_builtin; refine Lib.wpList_append_run _ rfl _ _ _ _ rfl _ _ rfl rfl _ _ (HRZ.out _) ?_)
    go_ret2
    have hl : bcells (leT i 2) ++ [Value.int .u8 o, .int .u8 s] ++ bcells (List.replicate 4 0) = bcells (rpB ⟨i, o, s⟩) := by
      rw [HXc.out, ← bcells_app, ← bcells_app]
      rfl
    have h2 := HOZ.out
    rw [hl] at h2
    exact ⟨vz, rfl, own_lower h2 HG0.out.size, HG0.out.trans HGZ.out⟩
end Go.Proofs.Ytfpemajbgnfflaa.Bk
