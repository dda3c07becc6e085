/-
  Package event: contracts of New, Port, Pending, Upcall, Take, Drop.
-/
import Derived.Test.YtjgikapoohibnaaEvC
set_option linter.unusedSimpArgs false
set_option linter.unusedVariables false
namespace Go.Proofs.Ytjgikapoohibnaa
open Go.RowKit Gen
set_option maxHeartbeats 1000000

/-! ### New -/
def zc (k : Nat) : Value := if k = 0 then .bool false else ev0.cell k
def zev : Array Value := ⟨(List.range 1545).map zc⟩
set_option maxRecDepth 1000000 in
theorem info_ev : (Try.prog.info? 49).map (fun i => i.zero) = some (some (.agg zev)) := by kernel_rfl
theorem zev_size : zev.size = 1545 := by simp [zev]
theorem zev_get (k : Nat) (h : k < 1545) : zev[k]? = some (zc k) := by simp [zev, h]
theorem run_zero {P : Program} {t : TypeId} {v : Value} (h : (P.info? t).map (fun i => i.zero) = some (some v)) (w : World) : (zeroValue t).run P w = .ok v w := by
  cases hq : P.info? t with
  | none => simp [hq] at h
  | some i => simp [hq] at h; simp [zeroValue, typeInfo, hq, h]
theorem zero_ev (w : World) : (zeroValue 49).run Try.prog w = .ok (.agg zev) w := run_zero info_ev w
attribute [irreducible] zev
theorem newRow (w : World) : EvAt (w.alloc (.cells (zev.setIfInBounds 0 (.bool true)) 49)) w.heap.size ev0 :=
  ⟨_, heap_alloc_new w _, by simp [zev_size], fun k hk => by
    rw [Array.getElem?_setIfInBounds, zev_size]
    by_cases h : 0 = k
    · subst h; rfl
    · rw [if_neg h, zev_get k hk]
      unfold zc
      rw [if_neg (fun e => h e.symm)]⟩
set_option maxRecDepth 100000 in
theorem eNew (w : World) : Calls Try.prog 9 #[] w fun e w' => ∃ X, e = .returned (.pointer (some ⟨X, 0, none⟩)) ∧ EvAt w' X ev0 ∧ w.grownBy w' none ∧ w.heap.size ≤ X := by
  have hz := zero_ev
  have hne : ¬ zev = #[] := fun e => by have := zev_size; rw [e] at this; cases this
  have HR := hid (newRow w)
  go_enter Try.func9, Try.ntmps9
  go_wp2
  go_ret
  exact ⟨_, rfl, HR.out, World.grownBy_alloc _ _ _, Nat.le_refl _⟩

/-! ### Port -/
def portR (S : Ev) (d p : Int) : Prt × Int := if edOk d = true ∧ epOk p = true then (S.pt d.toNat p.toNat, 0) else (Prt.zero, 1)
theorem port_nil (d p : Int) (w : World) : Calls Try.prog 14 #[.pointer none, .int .i64 d, .int .i64 p] w fun e w' => e = .returned (.tuple #[Prt.zero.val, .int .i64 7]) ∧ w.grownBy w' none := by
  go_enter Try.func14, Try.ntmps14
  go_wp2_with (go_at_call 38; refine (eAt_nil d p _).mono ?_; rintro e w' ⟨rfl, rfl⟩)
  go_returns
  exact ⟨rfl, World.grownBy_alloc _ _ _⟩
theorem port_zero (X : Nat) (d p : Int) (w : World) (h : w.cell? ⟨X, 0, none⟩ = some (.bool false)) : Calls Try.prog 14 #[.pointer (some ⟨X, 0, none⟩), .int .i64 d, .int .i64 p] w fun e w' => e = .returned (.tuple #[Prt.zero.val, .int .i64 7]) ∧ w.grownBy w' none := by
  have h1 := (World.grownBy_alloc w (.cells #[.int .i64 0, .int .i64 0, .int .i64 0, .int .i64 0, .bool false, .bool false] 35) none).cell h (by simp)
  go_enter Try.func14, Try.ntmps14
  go_wp2_with (go_at_call 38; refine (eAt_zero X d p _ h1).mono ?_; rintro e w' ⟨rfl, rfl⟩)
  go_returns
  exact ⟨rfl, World.grownBy_alloc _ _ _⟩
set_option maxRecDepth 100000 in
theorem ePort (X : Nat) (d p : Int) (w : World) (S : Ev) (h : EvAt w X S) : Calls Try.prog 14 #[.pointer (some ⟨X, 0, none⟩), .int .i64 d, .int .i64 p] w fun e w' => e = .returned (.tuple #[(portR S d p).1.val, .int .i64 (portR S d p).2]) ∧ w.grownBy w' none := by
  have ga := World.grownBy_alloc w (.cells #[.int .i64 0, .int .i64 0, .int .i64 0, .int .i64 0, .bool false, .bool false] 35) none
  have h1 := h.grow0 ga
  have hm := h1.made
  have GA := hid ga
  by_cases hdp : edOk d = true ∧ epOk p = true
  · obtain ⟨d, rfl, hd'⟩ := edOk_nat hdp.1
    obtain ⟨n, rfl, hn'⟩ := epOk_nat hdp.2
    have HE := hid (show portR S d n = (S.pt d n, 0) by simp [portR, hdp])
    have HO := hid (eAt_yes X d n _ hd' hn' hm)
    have H1 := hid h1
    have r6 := row6z w
    have R6 := hid r6
    clear h hdp h1 ga r6
    go_enter Try.func14, Try.ntmps14
    go_wp2_with (go_at_call 38; refine HO.out.mono ?_; rintro e w1 ⟨rfl, g1⟩; have HG1 := hid (GA.out.trans g1); have h2 := H1.out.grow0 g1; have r6 := R6.out.grown g1 (by simp); have c0 := h2.k hd' hn'; have c1 := h2.r hd' hn'; have c2 := h2.p hd' hn'; have c3 := h2.v hd' hn'; have c4 := h2.pe hd' hn'; have c5 := h2.ma hd' hn'; have v0 := r6.cell (k := 0) (by omega); have v1 := r6.cell (k := 1) (by omega); have v2 := r6.cell (k := 2) (by omega); have v3 := r6.cell (k := 3) (by omega); have v4 := r6.cell (k := 4) (by omega); have v5 := r6.cell (k := 5) (by omega); have vz := r6.frozen; clear g1 h2 r6)
    have hz : w.heap.size < w1.heap.size := World.block_lt_of_cell? _ _ v0
    generalize S.pt d n = q at *
    rw [HE.out]
    exact bodyPost_ret (v := .tuple #[q.val, .int .i64 0]) (by simp [results, Try.results14, go_sem, v0, v1, v2, v3, v4, v5, vz, hz, Nat.ne_of_lt hz, Prt.val]) rfl ⟨rfl, HG1.out.andThen (set6_grown w1 w.heap.size 0 q) (fun j hj => by cases hj; exact .inl (Nat.le_refl _))⟩
  · have HE := hid (show portR S d p = (Prt.zero, 1) by unfold portR; rw [if_neg hdp])
    have HO := hid (eAt_no X d p _ hdp hm)
    clear h hdp h1 ga
    go_enter Try.func14, Try.ntmps14
    go_wp2_with (go_at_call 38; refine HO.out.mono ?_; rintro e w' ⟨rfl, rfl⟩)
    go_returns
    rw [HE.out]
    exact ⟨rfl, GA.out⟩

/-! ### Pending, Upcall, Take -/
def pendR (S : Ev) (d : Int) : List Nat := if edOk d = true then pendL S d.toNat 32 else []
theorem ePending (X : Nat) (d : Int) (w : World) (S : Ev) (h : EvAt w X S) : Calls Try.prog 27 #[.pointer (some ⟨X, 0, none⟩), .int .i64 d] w fun e w' => ∃ v, e = .returned v ∧ NewInts w (pendR S d) v w' := by
  have hm := h.made
  cases hd : edOk d with
  | false =>
    have HE := hid (show pendR S d = [] by simp [pendR, hd])
    have HO := hid (eOf_no X d w hd hm)
    clear hd h
    go_enter Try.func27, Try.ntmps27
    go_wp2_with (go_at_call 40; refine HO.out.mono ?_; rintro e w' ⟨rfl, rfl⟩)
    go_ret
    rw [HE.out]
    exact ⟨_, rfl, World.ownsRow_nil _ _ _ _, World.grownBy.refl _ _⟩
  | true =>
    obtain ⟨d, rfl, hd'⟩ := edOk_nat hd
    have HE := hid (show pendR S d = pendL S d 32 by simp [pendR, hd])
    have HO := hid (eOf_yes X d w hd' hm)
    have HP := hid (ePendingOf X d w S hd' h)
    clear hd h
    go_enter Try.func27, Try.ntmps27
    go_wp2_with (first
      | (go_at_call 40; refine HO.out.mono ?_; rintro e w' ⟨rfl, rfl⟩)
      | (go_at_call 46; refine HP.out.mono ?_; rintro e w' ⟨v, rfl, hnew⟩; have HN := hid hnew; clear hnew))
    go_ret
    rw [HE.out]
    exact ⟨_, rfl, HN.out⟩
theorem pending_zero (X : Nat) (d : Int) (w : World) (h : w.cell? ⟨X, 0, none⟩ = some (.bool false)) : Calls Try.prog 27 #[.pointer (some ⟨X, 0, none⟩), .int .i64 d] w fun e w' => e = .returned (.slice none 0 0) ∧ w = w' := by
  go_enter Try.func27, Try.ntmps27
  go_wp2_with (go_at_call 40; refine (eOf_zero X d _ h).mono ?_; rintro e w' ⟨rfl, rfl⟩)
  go_ret
  exact ⟨rfl, rfl⟩
def upR (S : Ev) (d : Int) : Bool := edOk d && S.up d.toNat
theorem upcall_nil (d : Int) (w : World) : Calls Try.prog 17 #[.pointer none, .int .i64 d] w fun e w' => e = .returned (.bool false) ∧ w = w' := by
  go_enter Try.func17, Try.ntmps17
  go_wp2_with (go_at_call 40; refine (eOf_nil d _).mono ?_; rintro e w' ⟨rfl, rfl⟩)
  go_ret
  exact ⟨rfl, rfl⟩
theorem eUpcall (X : Nat) (d : Int) (w : World) (S : Ev) (h : EvAt w X S) : Calls Try.prog 17 #[.pointer (some ⟨X, 0, none⟩), .int .i64 d] w fun e w' => e = .returned (.bool (upR S d)) ∧ w = w' := by
  have hm := h.made
  cases hd : edOk d with
  | false =>
    have HE := hid (show upR S d = false by simp [upR, hd])
    have HO := hid (eOf_no X d w hd hm)
    clear hd h
    go_enter Try.func17, Try.ntmps17
    go_wp2_with (go_at_call 40; refine HO.out.mono ?_; rintro e w' ⟨rfl, rfl⟩)
    go_ret
    rw [HE.out]
    exact ⟨rfl, rfl⟩
  | true =>
    obtain ⟨d, rfl, hd'⟩ := edOk_nat hd
    have HE := hid (show upR S d = S.up d by simp [upR, hd])
    have HO := hid (eOf_yes X d w hd' hm)
    have cu := h.up hd'
    clear hd h
    go_enter Try.func17, Try.ntmps17
    go_wp2_with (go_at_call 40; refine HO.out.mono ?_; rintro e w' ⟨rfl, rfl⟩)
    go_ret
    rw [HE.out]
    exact ⟨rfl, rfl⟩
theorem eTakeUp (X : Nat) (d : Int) (w : World) (S : Ev) (h : EvAt w X S) : Calls Try.prog 21 #[.pointer (some ⟨X, 0, none⟩), .int .i64 d] w fun e w' => e = .returned (.tuple #[.bool (takeUpE S d).1, .int .i64 (takeUpE S d).2.1]) ∧ ELeft X w (takeUpE S d).2.2 w' := by
  have hm := h.made
  have H := hid h
  cases hd : edOk d with
  | false =>
    have HE := hid (show takeUpE S d = (false, 1, S) by simp [takeUpE, hd])
    have HO := hid (eOf_no X d w hd hm)
    clear hd h
    go_enter Try.func21, Try.ntmps21
    go_wp2_with (go_at_call 40; refine HO.out.mono ?_; rintro e w' ⟨rfl, rfl⟩)
    go_ret2
    rw [HE.out]
    exact ⟨rfl, ELeft.same H.out⟩
  | true =>
    obtain ⟨d, rfl, hd'⟩ := edOk_nat hd
    have HE := hid (show takeUpE S d = (S.up d, 0, S.setUp d false) by simp [takeUpE, hd])
    have HO := hid (eOf_yes X d w hd' hm)
    have cu := h.up hd'
    have fu := h.fz (1 + d * 193 + 192)
    have HS := hid (h.setUp hd' false)
    clear hd h
    go_enter Try.func21, Try.ntmps21
    go_wp2_with (go_at_call 40; refine HO.out.mono ?_; rintro e w' ⟨rfl, rfl⟩)
    go_ret2
    rw [HE.out]
    exact ⟨rfl, HS.out, grownBy_setCell _ _ _ none _⟩
/-! ### Drop -/
theorem eDrop (X : Nat) (d : Int) (w : World) (S : Ev) (hok : EOk S) (h : EvAt w X S) : Calls Try.prog 26 #[.pointer (some ⟨X, 0, none⟩), .int .i64 d] w fun e w' => e = .returned (.int .i64 (dropE S d).1) ∧ ELeft X w (dropE S d).2 w' := by
  have hm := h.made
  have H := hid h
  cases hd : edOk d with
  | false =>
    have HE := hid (show dropE S d = (1, S) by simp [dropE, hd])
    have HO := hid (eOf_no X d w hd hm)
    clear hd h
    go_enter Try.func26, Try.ntmps26
    go_wp2_with (go_at_call 40; refine HO.out.mono ?_; rintro e w' ⟨rfl, rfl⟩)
    go_ret
    rw [HE.out]
    exact ⟨rfl, ELeft.same H.out⟩
  | true =>
    obtain ⟨d, rfl, hd'⟩ := edOk_nat hd
    have HE := hid (show dropE S d = (0, (closesE S d 32).setUp d false) by simp [dropE, hd])
    have HO := hid (eOf_yes X d w hd' hm)
    have HOk := hid (hok.closes d)
    clear hd h hok
    go_enter Try.func26, Try.ntmps26
    go_wp2_with (go_at_call 40; refine HO.out.mono ?_; rintro e w' ⟨rfl, rfl⟩)
    go_loopw [17] (fun i wr => ∃ k : Nat, i = .int .i64 k ∧ k ≤ 32 ∧ ELeft X w (closesE S d k) wr) (fun i _ => 32 - (intOf i).toNat)
    case atStart => exact ⟨0, rfl, by omega, ELeft.same H.out⟩
    case round =>
      obtain ⟨k, rfl, hk, hL⟩ := hrel
      have HL := hid hL
      have hk0 : (0 : Int) ≤ k := by omega
      by_cases hlt : k < 32
      · have hlt' : (k : Int) < 32 := by omega
        have HC := hid (eClose X d k wr (closesE S d k) (HOk.out k) hL.1)
        clear hL
        go_wp2_with (go_at_call 22; refine HC.out.mono ?_; rintro e w2 ⟨rfl, h2⟩; have H2 := hid (HL.out.trans h2); clear h2)
        go_roundw
        case rel => exact ⟨k + 1, by go_num, by omega, H2.out⟩
        case measure => simp [intOf]; omega
      · obtain rfl : k = 32 := by omega
        have hge : (32 : Int) ≤ ((32 : Nat) : Int) := by omega
        have cu := hL.1.up hd'
        have fu := hL.1.fz (1 + d * 193 + 192)
        have HS := hid (hL.1.setUp hd' false)
        clear hL
        go_wp2
        go_ret
        rw [HE.out]
        exact ⟨rfl, HS.out, HL.out.2.trans (grownBy_setCell _ _ _ none _)⟩
end Go.Proofs.Ytjgikapoohibnaa
