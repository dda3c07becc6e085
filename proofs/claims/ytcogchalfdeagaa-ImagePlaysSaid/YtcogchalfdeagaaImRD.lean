/-
  The reference's image: Need, Dirty.
-/
import Derived.Test.YtcogchalfdeagaaImRC
import Derived.Test.YtcogchalfdeagaaImQ
set_option linter.unusedSimpArgs false
set_option linter.unusedVariables false
namespace Go.Proofs.Ytcogchalfdeagaa
open Go.RowKit Gen CM
set_option maxHeartbeats 2000000
set_option maxRecDepth 100000

theorem pick_more {p : Nat → Bool} {j : Nat} : ∀ m, j ≤ m → (∀ i, j ≤ i → i < m → p i = false) → pickL p m = pickL p j
  | 0, h, _ => by rw [Nat.le_zero.1 h]
  | m + 1, h, hp => by
    by_cases e : j = m + 1
    · rw [e]
    · rw [pickL_no (hp m (by omega) (by omega)), pick_more m (by omega) fun i h1 h2 => hp i h1 (by omega)]
section
variable {w w' : World} {y r : Nat} {q lp : Option Addr} {cq cl : Nat} {I : Im}
/-- the cell of a sector: a length that tells whether it has a block -/
theorem RI.look (h : RI w y r q lp cq cl I) {k : Nat} (hk : k < I.n) : lp = some ⟨r, 0, none⟩ ∧ ∃ p n c, w.cell? ⟨r, k, none⟩ = some (.slice p n c) ∧ ((n : Int) == 0) = !I.has k ∧ ((n : Int) != 0) = I.has k := by
  obtain ⟨k', e, hk', hlp, hn, h'⟩ := own_cases h (s := (k : Int)) (Im.is_yes.2 ⟨by omega, by omega⟩)
  obtain rfl : k = k' := by omega
  refine ⟨hlp, ?_⟩
  rcases h' with ⟨hh, hc⟩ | ⟨hh, p, c, hc⟩
  · exact ⟨_, _, _, hc, by rw [hh]; rfl, by rw [hh]; rfl⟩
  · exact ⟨_, _, _, hc, by rw [hh]; rfl, by rw [hh]; rfl⟩
theorem rNeed (h : RI w y r q lp cq cl I) (hok : I.ok) (x z : Int) (hx : I64 x) (hz : I64 z) : Calls Try.prog 31 #[.pointer (some ⟨y, 0, none⟩), .int .i64 x, .int .i64 z] w fun e w' => e = .returned (.tuple #[.int .i64 (I.needE x z).1, .int .i64 (I.needE x z).2]) ∧ w = w' := by
  have hx1 := bounds_i64 hx
  have hz1 := bounds_i64 hz
  have hn := hok.n256
  have c1 := h.c1
  have H := hid h
  clear h hok hx hz
  by_cases h1 : z < 0
  · have e : I.needE x z = (0, 1) := by unfold Im.needE Im.fit; simp [show ¬ 0 ≤ z by omega]
    rw [e]
    clear e
    go_enter Try.func31, Try.ntmps31
    go_wp2
    go_ret2
    exact ⟨rfl, rfl⟩
  by_cases h2 : x < 0
  · have e : I.needE x z = (0, 1) := by unfold Im.needE Im.fit; simp [show ¬ 0 ≤ x by omega]
    rw [e]
    clear e
    go_enter Try.func31, Try.ntmps31
    go_wp2
    go_ret2
    exact ⟨rfl, rfl⟩
  by_cases h3 : (I.n : Int) < x
  · have e : I.needE x z = (0, 1) := by unfold Im.needE Im.fit; simp [show ¬ z ≤ I.n - x by omega]
    rw [e]
    clear e
    go_enter Try.func31, Try.ntmps31
    go_wp2
    go_ret2
    exact ⟨rfl, rfl⟩
  have hw := IntWalk.i64_in ((I.n : Int) - x) (by omega)
  by_cases h4 : (I.n : Int) - x < z
  · have e : I.needE x z = (0, 1) := by unfold Im.needE Im.fit; simp [show ¬ z ≤ I.n - x by omega]
    rw [e]
    clear e
    go_enter Try.func31, Try.ntmps31
    go_wp2
    go_ret2
    exact ⟨rfl, rfl⟩
  obtain ⟨a, rfl⟩ : ∃ a : Nat, x = a := ⟨x.toNat, by omega⟩
  obtain ⟨b, rfl⟩ : ∃ b : Nat, z = b := ⟨z.toNat, by omega⟩
  have hab : a + b ≤ I.n := by omega
  have hab' : (a : Int) + b ≤ I.n := by omega
  have hfit : I.fit a b = true := by unfold Im.fit; simp; omega
  rw [Im.needE_fit hfit]
  have h5 : (b : Int) ≤ (I.n : Int) - a := by omega
  have h6 : (a : Int) ≤ I.n := by omega
  have h7 : (0 : Int) ≤ a := by omega
  have h8 : (0 : Int) ≤ b := by omega
  have HEnd := hid (show pickL (I.bare a b) I.n = pickL (I.bare a b) (a + b) from pick_more _ hab fun i h1 h2 => by unfold Im.bare; simp [show ¬ ((i : Int) < a + b) by omega])
  have HBeg := hid (show (pickL (I.bare a b) a).length = 0 from pick_zero _ fun i hi => by unfold Im.bare; simp [show ¬ ((a : Int) ≤ i) by omega])
  clear h1 h2 h3 h4 hfit
  go_enter Try.func31, Try.ntmps31
  go_wp2
  go_loop [8, 9] (fun m i => ∃ k : Nat, i = .int .i64 k ∧ a ≤ k ∧ k ≤ a + b ∧ m = .int .i64 ((pickL (I.bare a b) k).length : Nat)) (fun _ i => a + b - (intOf i).toNat)
  case atStart => exact ⟨a, rfl, Nat.le_refl _, by omega, by rw [HBeg.out]; rfl⟩
  case round =>
    obtain ⟨k, rfl, hk0, hk1, rfl⟩ := hrel
    have hki : (0 : Int) ≤ k := by omega
    by_cases hlt : k < a + b
    · have hlt' : (k : Int) < (a : Int) + b := by omega
      have hkn : (k : Int) < I.n := by omega
      obtain ⟨rfl, p, n, c, hc, hcn, hcm⟩ := H.out.look (k := k) (by omega)
      have hle := pickL_len (I.bare a b) k
      cases hh : I.has (k : Int) with
      | true =>
        rw [hh] at hcn hcm
        have hno := hid (pickL_no (p := I.bare a b) (k := k) (by unfold Im.bare; rw [hh]; simp))
        clear hh
        go_wp2
        go_round
        case rel => exact ⟨k + 1, by go_num, by omega, by omega, by rw [hno.out]⟩
        case measure => simp [intOf]; omega
      | false =>
        rw [hh] at hcn hcm
        have hyes := hid (pickL_yes (p := I.bare a b) (k := k) (by unfold Im.bare; rw [hh]; simp; omega))
        clear hh
        go_wp2
        go_round
        case rel => exact ⟨k + 1, by go_num, by omega, by omega, by rw [hyes.out, List.length_append]; go_num⟩
        case measure => simp [intOf]; omega
    · have hke : k = a + b := by omega
      have hge : (a : Int) + b ≤ k := by omega
      have HK := hid hke
      clear hke
      go_wp2
      go_ret2
      exact ⟨by unfold Im.lack; rw [HEnd.out, ← HK.out]; rfl, rfl⟩
theorem rDirty (h : RI w y r q lp cq cl I) (hok : I.ok) : Calls Try.prog 18 #[.pointer (some ⟨y, 0, none⟩)] w fun e w' => ∃ v, e = .returned v ∧ NewI w I.dirty v w' := by
  obtain ⟨i0, hi, hz0, hz1, hz2⟩ := info_parts info_int
  have Hi := hid hi; have Hz0 := hid hz0; have Hz1 := hid hz1; have Hz2 := hid hz2
  clear hi hz0 hz1 hz2
  have hn := hok.n256
  have H := hid h
  clear h hok
  go_enter Try.func18, Try.ntmps18
  go_wp2
  go_loopw [3, 4] (fun v i wr => ∃ k : Nat, i = .int .i64 k ∧ k ≤ I.n ∧ wr.ownsRow w.heap.size 3 1 v (pickL (fun i => I.has i) k).length (icells (pickL (fun i => I.has i) k)) ∧ w.grownBy wr none) (fun _ i _ => I.n - (intOf i).toNat)
  case atStart => exact ⟨0, rfl, by omega, by have := World.ownsRow_nil w w.heap.size 3 1; simpa [pickL, icells] using this, grownBy_refl _ _⟩
  case round =>
    obtain ⟨k, rfl, hk, hrow, hg⟩ := hrel
    obtain ⟨pv, cv, hv⟩ := ownsRow_slice hrow
    have HO := hid hrow
    have HG := hid hg
    clear hrow hg
    subst hv
    have hk0 : (0 : Int) ≤ k := by omega
    have c1 := (H.out.grown HG.out).c1
    by_cases hlt : k < I.n
    · have hlt' : (k : Int) < I.n := by omega
      have hl := pickL_len (fun i => I.has i) k
      obtain ⟨rfl, p, n, c, hc, hcn, hcm⟩ := (H.out.grown HG.out).look hlt
      cases hs : I.has (k : Int) with
      | false =>
        rw [hs] at hcn hcm
        have e3 := hid (pickL_no (p := fun i => I.has i) hs)
        clear hs
        go_wp2
        go_roundw
        case rel => exact ⟨k + 1, by go_num, by omega, by rw [e3.out]; exact HO.out, HG.out⟩
        case measure => simp [intOf]; omega
      | true =>
        rw [hs] at hcn hcm
        have e3 := hid (pickL_yes (p := fun i => I.has i) hs)
        clear hs
        go_wp2_with (at_builtin; refine wpList_append_own _ rfl _ _ 42 rfl w.heap.size 3 i0 (.int .i64 0) 1 8 Try.underlying42 Hi.out Hz0.out Hz1.out Hz2.out rfl (by decide) _ _ _ rfl (HO.out.alloc _) ⟨wr.heap.size, 0, none⟩ 1 1 [.int .i64 k] rfl rfl (World.news_of_block (heap_alloc_new wr _)) (by simp [Value.oneCell']) (by unfold maxLen; omega) (by omega) (by have := HG.out.size; simp; omega) ?_; intro v' w2 hown' hgrow hnil; clear hnil; have HO3 := hid hown'; have HG3 := hid ((HG.out.trans (World.grownBy_alloc wr _ none)).andThen hgrow (fun j hj => .inl (HO.out.lt j hj).1)); clear hown' hgrow)
        go_roundw
        case rel => exact ⟨k + 1, by go_num, by omega, by rw [e3.out, icells_app, List.length_append, icells_one]; exact HO3.out, HG3.out⟩
        case measure => simp [intOf]; omega
    · obtain rfl : k = I.n := by omega
      have hge : (I.n : Int) ≤ I.n := by omega
      go_wp2
      go_ret
      exact ⟨_, rfl, HO.out, HG.out⟩
end
end Go.Proofs.Ytcogchalfdeagaa
