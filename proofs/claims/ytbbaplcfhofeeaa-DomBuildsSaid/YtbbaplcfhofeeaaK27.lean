/-
  Package event: contracts of New, Port, Pending, Upcall, Take, Drop.
-/
import Derived.Test.YtbbaplcfhofeeaaK26
import Derived.Test.YtbbaplcfhofeeaaK25
import Derived.Test.YtbbaplcfhofeeaaK22
set_option linter.unusedSimpArgs false
set_option linter.unusedVariables false
namespace Go.Proofs.Ytbbaplcfhofeeaa.Evx
open Go.RowKit Gen
set_option maxHeartbeats 1000000

/-! ### New -/
def zc (k : Nat) : Value := if k = 0 then .bool false else ev0.cell k
def zev : Array Value := ⟨(List.range 1545).map zc⟩
set_option maxRecDepth 1000000 in
theorem info_ev : (Try.prog.info? 91).map (fun i => i.zero) = some (some (.agg zev)) := by kernel_rfl
theorem zev_size : zev.size = 1545 := by simp [zev]
theorem zev_get (k : Nat) (h : k < 1545) : zev[k]? = some (zc k) := by simp [zev, h]
theorem run_zero {P : Program} {t : TypeId} {v : Value} (h : (P.info? t).map (fun i => i.zero) = some (some v)) (w : World) : (zeroValue t).run P w = .ok v w := by
  cases hq : P.info? t with
  | none => simp [hq] at h
  | some i => simp [hq] at h; simp [zeroValue, typeInfo, hq, h]
theorem zero_ev (w : World) : (zeroValue 91).run Try.prog w = .ok (.agg zev) w := run_zero info_ev w
attribute [irreducible] zev
theorem newRow (w : World) : EvAt (w.alloc (.cells (zev.setIfInBounds 0 (.bool true)) 91)) w.heap.size ev0 :=
  ⟨_, heap_alloc_new w _, by simp [zev_size], fun k hk => by
    rw [Array.getElem?_setIfInBounds, zev_size]
    by_cases h : 0 = k
    · subst h; rfl
    · rw [if_neg h, zev_get k hk]
      unfold zc
      rw [if_neg (fun e => h e.symm)]⟩
set_option maxRecDepth 100000 in
theorem eNew (w : World) : Calls Try.prog 14 #[] w fun e w' => ∃ X, e = .returned (.pointer (some ⟨X, 0, none⟩)) ∧ EvAt w' X ev0 ∧ w.grownBy w' none ∧ w.heap.size ≤ X := by
  have hz := zero_ev
  have hne : ¬ zev = #[] := fun e => by have := zev_size; rw [e] at this; cases this
  have HR := hid (newRow w)
  go_enter Try.func14, Try.ntmps14
  go_wp2
  go_ret
  exact ⟨_, rfl, HR.out, World.grownBy_alloc _ _ _, Nat.le_refl _⟩

/-! ### Port -/
def portR (S : Ev) (d p : Int) : Prt × Int := if edOk d = true ∧ epOk p = true then (S.pt d.toNat p.toNat, 0) else (Prt.zero, 1)
/-! ### Pending, Upcall, Take -/
def pendR (S : Ev) (d : Int) : List Nat := if edOk d = true then pendL S d.toNat 32 else []
def upR (S : Ev) (d : Int) : Bool := edOk d && S.up d.toNat
/-! ### Drop -/
end Go.Proofs.Ytbbaplcfhofeeaa.Evx

/-
  Package dom: New.
-/
set_option linter.unusedSimpArgs false
set_option linter.unusedVariables false
namespace Go.Proofs.Ytbbaplcfhofeeaa.Dm
open Go.RowKit
set_option maxHeartbeats 2000000

/-- the hypervisor takes a frame -/
theorem hyp_step {M : Mach} (hA : All M sp0 E0) {q : Nat} (hq : (M.ownedL (-1)).length = q + 1) :
    (M.alloc (-2)).2.1 = 0 ∧ All (M.alloc (-2)).2.2 sp0 E0 ∧ ((M.alloc (-2)).2.2.ownedL (-1)).length = q ∧ (∀ d : Nat, ((M.alloc (-2)).2.2.ownedL d).length = (M.ownedL d).length) ∧ (M.alloc (-2)).2.2.n = M.n ∧ ∃ k : Nat, (M.alloc (-2)).1 = k := by
  have hne : M.ownedL (-1) ≠ [] := fun e => by rw [e] at hq; simp at hq
  obtain ⟨k, r, hk⟩ := List.exists_cons_of_ne_nil hne
  have e : M.alloc (-2) = ((k : Int), 0, M.upd k { M.fr k with owner := -2 }) := by
    unfold Mach.alloc
    rw [if_neg (by omega), hk]
  obtain ⟨hkn, hko⟩ := mem_ownedL.1 (show k ∈ M.ownedL (-1) by rw [hk]; simp)
  have hfo := hA.frok hkn
  have hfree := hfo.free hko
  rw [e]
  refine ⟨rfl, All.touch hA hkn hfree.1 (f := { M.fr k with owner := -2 }) ⟨hfo.c0, hfo.ct, hfo.ty0, hfo.ty3, hfo.z, by show (-2 : Int) ≤ -2; omega, by show (-2 : Int) < 8; omega, fun e : (-2 : Int) = -1 => by omega⟩ hfree.1, ?_, fun d => ?_, rfl, k, rfl⟩
  · have := own_upd (M := M) (k := k) (f := { M.fr k with owner := -2 }) hkn (-1)
    rw [if_pos hko, if_neg (by show ¬ (-2 : Int) = -1; omega)] at this
    show ((M.upd k _).ownedL (-1)).length = _
    omega
  · have := own_upd (M := M) (k := k) (f := { M.fr k with owner := -2 }) hkn d
    rw [if_neg (by rw [hko]; omega), if_neg (by show ¬ (-2 : Int) = d; omega)] at this
    show ((M.upd k _).ownedL d).length = _
    omega
/-- the machine behind the hypervisor's first k frames -/
def hypN (n : Nat) : Nat → Mach
  | 0 => upTo n n
  | k + 1 => ((hypN n k).alloc (-2)).2.2
theorem hypN_facts (n : Nat) (h1 : 2 ≤ n) (h2 : n ≤ 256) (k : Nat) (hk : k ≤ 2) : All (hypN n k) sp0 E0 ∧ ((hypN n k).ownedL (-1)).length = n - k ∧ (∀ d : Nat, ((hypN n k).ownedL d).length = 0) ∧ (hypN n k).n = n := by
  induction k with
  | zero =>
    have hfr : ∀ i : Nat, (i : Int) < (upTo n n).n → (upTo n n).fr i = blankFr := fun i hi => by
      have : (i : Int) < n := hi
      show (if i < n then blankFr else zeroFr) = _
      rw [if_pos (by omega)]
    refine ⟨All.start (upTo_ok' n (by omega) h2) fun i hi => by show ((upTo n n).fr i).tot = 0 ∧ ((upTo n n).fr i).cnt = 0 ∧ ((upTo n n).fr i).ty = 0; rw [hfr i hi]; exact ⟨rfl, rfl, rfl⟩, ?_, fun d => ?_, rfl⟩
    · unfold hypN Mach.ownedL
      have : (upTo n n).n.toNat = n := by show ((n : Nat) : Int).toNat = n; omega
      rw [this, List.filter_eq_self.2 (fun i hi => ?_)]
      · simp
      · rw [hfr i (by show (i : Int) < n; have := List.mem_range.1 hi; omega)]; rfl
    · unfold hypN Mach.ownedL
      have : (upTo n n).n.toNat = n := by show ((n : Nat) : Int).toNat = n; omega
      rw [this, List.filter_eq_nil_iff.2 (fun i hi => ?_)]
      · rfl
      · rw [hfr i (by show (i : Int) < n; have := List.mem_range.1 hi; omega)]
        show ¬ ((-1 : Int) == d) = true
        simp
  | succ k ih =>
    obtain ⟨a, b, c, e⟩ := ih (by omega)
    obtain ⟨_, f, g, h, i, _⟩ := hyp_step a (q := n - k - 1) (by omega)
    exact ⟨f, by show (((hypN n k).alloc (-2)).2.2.ownedL (-1)).length = _; rw [g]; omega, fun d => (h d).trans (c d), i.trans e⟩
/-- grants and maps of places at the start -/
def gs0 (n : Nat) : Gs := ⟨hypN n 2, fun _ => .empty 0, gst0⟩
def d0 : Nat → DC := fun _ => dc0
set_option maxRecDepth 100000 in
theorem hNew (n : Nat) (h1 : 3 ≤ n) (h2 : n ≤ 256) (w : World) : Calls Try.prog 4 #[.int .i64 n] w fun e w' => ∃ v, e = .returned (.tuple #[v, .int .i64 0]) ∧ ∃ H B X Y V G, v = .pointer (some ⟨H, 0, none⟩) ∧
    HV w w' H B X Y V G (fun _ => .slice none 0 0) (fun _ => (0, 0, 0)) 0 (gs0 n) sp0 48 d0 := by
  have HN := hid (New_yes n w (by omega) h2)
  have hn3 : ¬ ((n : Int) ≤ 2) := by omega
  have HF := hid (hypN_facts n (by omega) h2)
  go_enter Try.func4, Try.ntmps4
  go_wp2_with (go_at_call 10; refine HN.out.mono ?_; rintro e w1 ⟨v, rfl, B, rfl, hB, hM, hg⟩; have HB := hid hB; have HM := hid hM; have HG := hid hg; clear hB hM hg)
  go_loopw [17] (fun x wr => ∃ k : Nat, x = .int .i64 k ∧ k ≤ 2 ∧ PM wr B (hypN n k) ∧ w.grownBy wr none) (fun x _ => 2 - (intOf x).toNat)
  case atStart => exact ⟨0, rfl, by omega, HM.out, HG.out⟩
  case round =>
    obtain ⟨k, rfl, hk, hm, hg⟩ := hrel
    obtain ⟨fa, fb, fc, fn⟩ := HF.out k hk
    obtain ⟨TT, hTT⟩ := fa.ok
    have HMk := hid hm; have HGk := hid hg
    by_cases hk2 : k < 2
    · have hk2' : (k : Int) < 2 := by omega
      have hk0 : (0 : Int) ≤ k := by omega
      obtain ⟨s1, s2, s3, s4, s5, q, s6⟩ := hyp_step fa (q := n - k - 1) (by omega)
      have HA := hid (Alloc_any B (-2) wr (hypN n k) TT hm hTT)
      have HQ := hid s6; have HS1 := hid s1
      clear fa fb fc fn hTT hm hg s1 s2 s3 s4 s5 s6
      go_wp2_with (go_at_call 11; refine HA.out.mono ?_; rintro e w2 ⟨e1, hm2, hg2⟩; rw [HQ.out, HS1.out] at e1; subst e1; have HM2 := hid hm2; have HG2 := hid (HGk.out.andThen hg2 (fun j e => by cases e; exact .inl HB.out)); clear hm2 hg2)
      go_roundw
      case rel => exact ⟨k + 1, by go_num, by omega, HM2.out, HG2.out⟩
      case measure => simp [intOf]; omega
    · obtain rfl : k = 2 := by omega
      have HOk := hid hTT
      have hge : ¬ (((2 : Nat) : Int) < 2) := by omega
      have hn1 := fa.n0.1
      clear fa fb fc fn hTT hm hg
      go_wp2_with (first
        | (go_at_call 12; refine (xNew B _ (hypN n 2) TT HMk.out HOk.out).mono ?_; rintro e w3 ⟨X, rfl, hps, hg3, hX⟩; have HPs := hid hps; have HG3 := hid (HGk.out.trans hg3); have HX := hid hX; clear hps hg3 hX)
        | (go_at_call 13; refine (gNew_yes B _ (hypN n 2) HPs.out.m hn1).mono ?_; rintro e w4 ⟨rfl, ht4, hm4, hg4⟩; have HGa := hid ((GA.start (HPs.out.m.grown hg4 (by simp)) ht4 hm4 (fun _ => (0, 0, 0)) (fun _ => .empty 0)).mono (show 0 ≤ 48 by omega)); have HPs4 := hid (HPs.out.grown hg4); have HG4 := hid (HG3.out.trans hg4); clear ht4 hm4 hg4)
        | (go_at_call 14; refine (Evx.eNew _).mono ?_; rintro e w5 ⟨V, rfl, -, hg5, -⟩; have HGa5 := hid (HGa.out.grown hg5); have HPs5 := hid (HPs4.out.grown hg5); have HG5 := hid (HG4.out.trans hg5); clear hg5)
        | fail)
      go_ret2
      have hz := HPs.out.m.lt
      have hsz := HG3.out.size
      have hga := World.grownBy_alloc w5 (.cells #[.pointer (some ⟨B, 0, none⟩), .pointer (some ⟨X, 0, none⟩), .pointer (some ⟨w3.heap.size + 1, 0, none⟩), .pointer (some ⟨V, 0, none⟩), .int .i64 0, .int .i64 0, .int .i64 0, .pointer none, .int .i64 0, .int .i64 0, .int .i64 0, .pointer none, .int .i64 0, .int .i64 0, .int .i64 0, .pointer none, .int .i64 0, .int .i64 0, .int .i64 0, .pointer none, .int .i64 0, .int .i64 0, .int .i64 0, .pointer none, .int .i64 0, .int .i64 0, .int .i64 0, .pointer none, .int .i64 0, .int .i64 0, .int .i64 0, .pointer none, .int .i64 0, .int .i64 0, .int .i64 0, .pointer none] 51) none
      refine ⟨_, rfl, w5.heap.size, B, X, w3.heap.size + 1, V, w3.heap.size, rfl, ⟨?_, HPs5.out.grown hga, HGa5.out.grown hga, fun k hk => ?_, HG5.out.trans hga⟩⟩
      · refine Gen.Row.new w5 _ 51 36 _ (by simp) fun k hk => ?_
        have : k = 0 ∨ k = 1 ∨ k = 2 ∨ k = 3 ∨ k = 4 ∨ k = 5 ∨ k = 6 ∨ k = 7 ∨ k = 8 ∨ k = 9 ∨ k = 10 ∨ k = 11 ∨ k = 12 ∨ k = 13 ∨ k = 14 ∨ k = 15 ∨ k = 16 ∨ k = 17 ∨ k = 18 ∨ k = 19 ∨ k = 20 ∨ k = 21 ∨ k = 22 ∨ k = 23 ∨ k = 24 ∨ k = 25 ∨ k = 26 ∨ k = 27 ∨ k = 28 ∨ k = 29 ∨ k = 30 ∨ k = 31 ∨ k = 32 ∨ k = 33 ∨ k = 34 ∨ k = 35 := by omega
        rcases this with rfl | rfl | rfl | rfl | rfl | rfl | rfl | rfl | rfl | rfl | rfl | rfl | rfl | rfl | rfl | rfl | rfl | rfl | rfl | rfl | rfl | rfl | rfl | rfl | rfl | rfl | rfl | rfl | rfl | rfl | rfl | rfl | rfl | rfl | rfl | rfl <;> rfl
      · have h5 := HG5.out.size
        rcases hk with e | e | e
        · omega
        · rcases e with e | e | ⟨d, hd, e⟩
          · have := HB.out; omega
          · have := HX.out; have := HGk.out.size; omega
          · simp [Value.ownBlock] at e
        · rcases e with e | e | e | ⟨i, hi, e⟩
          · omega
          · have := HB.out; omega
          · omega
          · omega
end Go.Proofs.Ytbbaplcfhofeeaa.Dm
