/-
  Package grant: granted, entry; Join, Leave.
-/
import Derived.Test.YtbbaplcfhofeeaaK22
import Derived.StillTailTactics
import Derived.Deep.RegionHeld3
import Derived.Test.YtbbaplcfhofeeaaK21
import Derived.Test.YtbbaplcfhofeeaaK14
import Derived.Test.YtbbaplcfhofeeaaK19
set_option linter.unusedSimpArgs false
set_option linter.unusedVariables false
namespace Go.Proofs.Ytbbaplcfhofeeaa
open Go.RowKit KM
set_option maxHeartbeats 4000000
set_option maxRecDepth 100000

theorem Mach.get_fail {M : Mach} {i o k : Int} (h : (M.get i o k).1 ≠ 0) : (M.get i o k).2 = M := by
  unfold Mach.get Mach.take at h ⊢
  split; · rfl
  split; · rfl
  split; · rfl
  split; · rfl
  rename_i h1 h2 h3 h4
  rw [if_neg h1, if_neg h2, if_neg h3, if_neg h4] at h
  split
  · rfl
  · rename_i h5
    rw [if_neg h5] at h
    exact absurd rfl h
theorem Mach.put_n (M : Mach) (i k : Int) : (M.put i k).2.n = M.n := by unfold Mach.put Mach.drop; (repeat' split) <;> rfl
theorem Mach.get_n (M : Mach) (i o k : Int) : (M.get i o k).2.n = M.n := by unfold Mach.get Mach.take; (repeat' split) <;> rfl
/-- what a call leaves -/
structure GL (w : World) (X B G : Nat) (pm : Nat → Nat × Nat × Nat) (np : Nat) (s' : Gs) (T' : Nat) (w' : World) : Prop where
  a : GA w' X B G pm np s' T'
  c : Chg (gfoot X B G pm np) w w'
def Gs.grE (s : Gs) (o p : Int) : Int × Int := match s.granted o p with | some m => (m, 0) | none => (0, 60)
section
variable {w : World} {X B G : Nat} {pm : Nat → Nat × Nat × Nat} {np : Nat} {s : Gs} {T : Nat}
theorem GL.same (h : GA w X B G pm np s T) : GL w X B G pm np s T w := ⟨h, Chg.refl _ _⟩
theorem GL.grow (h : GA w X B G pm np s T) {w' : World} (hg : w.grownBy w' none) : GL w X B G pm np s T w' := ⟨h.grown hg, Chg.of0 hg⟩
theorem gLeave (h : GA w X B G pm np s T) {K : Int} (hok : s.M.ok K) (hK : K < 9223372036854775807) (d : Int) :
    Calls Try.prog 27 #[.pointer (some ⟨X, 0, none⟩), .int .i64 d] w fun e w' => e = .returned (.int .i64 (s.leave d).1) ∧ GL w X B G pm np (s.leave d).2 T w' := by
  have c0 := h.c0
  have HJ := hid (gJoined h d)
  cases hd : gdom d with
  | false =>
    have e1 : s.leave d = (1, s) := by unfold Gs.leave; rw [if_pos hd]
    rw [e1]
    have HD := hid (gIsDom_no d w hd)
    have HL := hid (GL.same h)
    clear h hok hd e1
    go_enter Try.func27, Try.ntmps27
    go_wp2_with (first
      | (go_at_call 35; refine (gMade_yes X B _ c0).mono ?_; rintro e w' ⟨rfl, rfl⟩)
      | (go_at_call 36; refine HD.out.mono ?_; rintro e w' ⟨rfl, rfl⟩))
    go_ret
    exact ⟨rfl, HL.out⟩
  | true =>
    have HD := hid (gIsDom_yes d w hd)
    obtain ⟨h0, h1⟩ := gdom_yes.1 hd
    obtain ⟨k, rfl⟩ : ∃ k : Nat, d = k := ⟨d.toNat, by omega⟩
    have hk : k < 8 := by omega
    have hj : s.g.joined k = (s.g.mem k).isSome := by simp [Gst.joined, hd]
    rw [hj] at HJ
    cases hm : s.g.mem k with
    | none =>
      have e1 : s.leave k = (6, s) := by unfold Gs.leave; rw [if_neg (by rw [hd]; simp), Int.toNat_natCast, hm]
      rw [e1]
      rw [hm] at HJ
      have HL := hid (GL.same h)
      clear h hok hd e1 hm hj
      go_enter Try.func27, Try.ntmps27
      go_wp2_with (first
        | (go_at_call 35; refine (gMade_yes X B _ c0).mono ?_; rintro e w' ⟨rfl, rfl⟩)
        | (go_at_call 36; refine HD.out.mono ?_; rintro e w' ⟨rfl, rfl⟩)
        | (go_at_call 37; refine HJ.out.mono ?_; simp only [Option.isSome_none]; rintro e w' ⟨rfl, rfl⟩))
      go_ret
      exact ⟨rfl, HL.out⟩
    | some x =>
      obtain ⟨t, i⟩ := x
      have e1 : s.leave k = (0, ⟨(s.M.put t 1).2, s.P, s.g.setMem k none⟩) := by unfold Gs.leave; rw [if_neg (by rw [hd]; simp), Int.toNat_natCast, hm]
      rw [e1]
      rw [hm] at HJ
      have c1 : w.cell? ⟨X, 1 + k * 2, none⟩ = some (.int .i64 t) := by have := h.tbl hk; rw [hm] at this; exact this
      have HP := hid (Put_any B t 1 w.drew s.M K h.m.drew hok hK)
      have HA := hid h
      have HK := hid hk
      have hX := h.top.lt
      clear h hok hd e1 hm hj
      go_enter Try.func27, Try.ntmps27
      go_wp2_with (first
        | (go_at_call 35; refine (gMade_yes X B _ c0).mono ?_; rintro e w' ⟨rfl, rfl⟩)
        | (go_at_call 36; refine HD.out.mono ?_; rintro e w' ⟨rfl, rfl⟩)
        | (go_at_call 37; refine HJ.out.mono ?_; simp only [Option.isSome_some]; rintro e w' ⟨rfl, rfl⟩))
      go_still_tail 11, (by kernel_rfl)
      change wpList _ _ _ _ _ w.drew
      go_wp2_with (go_at_call 38; refine HP.out.mono ?_; rintro e w3 ⟨rfl, h3, g3⟩; have HA3 := hid (HA.out.mach h3 ((grownBy_drew w _).trans g3)); have G3 := hid ((grownBy_drew w (some B)).trans g3); have d1 := HA3.out.tbl HK.out; have d2 := HA3.out.plc HK.out; have f1 := HA3.out.top.frozen (1 + k * 2); have f2 := HA3.out.top.frozen (1 + k * 2 + 1); clear h3 g3)
      go_ret
      have hm3 := HA3.out.member HK.out none
      refine ⟨rfl, hm3, ?_⟩
      have q1 := (grownBy_setCell w3 X (1 + k * 2) none (.int .i64 0)).trans (grownBy_setCell _ X (1 + k * 2 + 1) none (.pointer none))
      exact (Chg.of (S := gfoot X B G pm np) G3.out fun j e => .inl (.inr (.inl (Option.some.inj e).symm))).trans (Chg.of (S := gfoot X B G pm np) q1 fun j e => .inl (.inl (Option.some.inj e).symm)) fun _ e => .inl e
theorem gJoin (h : GA w X B G pm np s T) {K : Int} (hok : s.M.ok K) (hK : K < 9223372036854775807) (d mfn : Int) (i : Nat) (hi : i < np) :
    Calls Try.prog 31 #[.pointer (some ⟨X, 0, none⟩), .int .i64 d, .int .i64 mfn, .pointer (some ⟨(pm i).1, 0, none⟩)] w fun e w' => e = .returned (.int .i64 (s.join d mfn i).1) ∧ GL w X B G pm np (s.join d mfn i).2 T w' := by
  have c0 := h.c0
  have HJ := hid (gJoined h d)
  have HM := hid (gIsMap _ _ _ _ _ w (h.p i hi))
  cases hd : gdom d with
  | false =>
    have e1 : s.join d mfn i = (1, s) := by unfold Gs.join; rw [if_pos hd]
    rw [e1]
    have HD := hid (gIsDom_no d w hd)
    have HL := hid (GL.same h)
    clear h hok hd e1
    go_enter Try.func31, Try.ntmps31
    go_wp2_with (first
      | (go_at_call 35; refine (gMade_yes X B _ c0).mono ?_; rintro e w' ⟨rfl, rfl⟩)
      | (go_at_call 36; refine HD.out.mono ?_; rintro e w' ⟨rfl, rfl⟩))
    go_ret
    exact ⟨rfl, HL.out⟩
  | true =>
    have HD := hid (gIsDom_yes d w hd)
    obtain ⟨h0, h1⟩ := gdom_yes.1 hd
    obtain ⟨k, rfl⟩ : ∃ k : Nat, d = k := ⟨d.toNat, by omega⟩
    have hk : k < 8 := by omega
    have hj : s.g.joined k = (s.g.mem k).isSome := by simp [Gst.joined, hd]
    rw [hj] at HJ
    cases hm : s.g.mem k with
    | some x =>
      have e1 : s.join k mfn i = (8, s) := by unfold Gs.join; rw [if_neg (by rw [hd]; simp), Int.toNat_natCast, hm]; rfl
      rw [e1]
      rw [hm] at HJ
      have HL := hid (GL.same h)
      clear h hok hd e1 hm hj
      go_enter Try.func31, Try.ntmps31
      go_wp2_with (first
        | (go_at_call 35; refine (gMade_yes X B _ c0).mono ?_; rintro e w' ⟨rfl, rfl⟩)
        | (go_at_call 36; refine HD.out.mono ?_; rintro e w' ⟨rfl, rfl⟩)
        | (go_at_call 45; refine HM.out.mono ?_; rintro e w' ⟨rfl, rfl⟩)
        | (go_at_call 37; refine HJ.out.mono ?_; simp only [Option.isSome_some]; rintro e w' ⟨rfl, rfl⟩))
      go_ret
      exact ⟨rfl, HL.out⟩
    | none =>
      rw [hm] at HJ
      obtain ⟨r, hr⟩ : ∃ r, (s.M.get mfn k 1).1 = r := ⟨_, rfl⟩
      have HP := hid (Get_any B mfn k 1 w s.M K h.m hok hK)
      rw [hr] at HP
      have HA := hid h
      have HK := hid hk
      have hX := h.top.lt
      by_cases hr0 : r = 0
      · subst hr0
        have e1 : s.join k mfn i = (0, ⟨(s.M.get mfn k 1).2, s.P, s.g.setMem k (some (mfn, i))⟩) := by unfold Gs.join; rw [if_neg (by rw [hd]; simp), Int.toNat_natCast, hm, if_neg (by simp), if_pos hr]
        rw [e1]
        clear h hok hd e1 hm hj hr
        go_enter Try.func31, Try.ntmps31
        go_wp2_with (first
          | (go_at_call 35; refine (gMade_yes X B _ c0).mono ?_; rintro e w' ⟨rfl, rfl⟩)
          | (go_at_call 36; refine HD.out.mono ?_; rintro e w' ⟨rfl, rfl⟩)
          | (go_at_call 45; refine HM.out.mono ?_; rintro e w' ⟨rfl, rfl⟩)
          | (go_at_call 37; refine HJ.out.mono ?_; simp only [Option.isSome_none]; rintro e w' ⟨rfl, rfl⟩)
          | (go_at_call 46; refine HP.out.mono ?_; rintro e w3 ⟨rfl, h3, g3⟩; have HA3 := hid (HA.out.mach h3 g3); have G3 := hid g3; have d1 := HA3.out.tbl HK.out; have d2 := HA3.out.plc HK.out; have f1 := HA3.out.top.frozen (1 + k * 2); have f2 := HA3.out.top.frozen (1 + k * 2 + 1); clear h3 g3))
        go_ret
        have hm3 := HA3.out.member HK.out (some (mfn, i))
        refine ⟨rfl, hm3, ?_⟩
        have q1 := (grownBy_setCell w3 X (1 + k * 2) none (.int .i64 mfn)).trans (grownBy_setCell _ X (1 + k * 2 + 1) none (.pointer (some ⟨(pm i).1, 0, none⟩)))
        exact (Chg.of (S := gfoot X B G pm np) G3.out fun j e => .inl (.inr (.inl (Option.some.inj e).symm))).trans (Chg.of (S := gfoot X B G pm np) q1 fun j e => .inl (.inl (Option.some.inj e).symm)) fun _ e => .inl e
      · have e1 : s.join k mfn i = (r, s) := by unfold Gs.join; rw [if_neg (by rw [hd]; simp), Int.toNat_natCast, hm, if_neg (by simp), hr, if_neg hr0]
        rw [e1]
        have hf : (s.M.get mfn k 1).2 = s.M := Mach.get_fail (by rw [hr]; exact hr0)
        rw [hf] at HP
        have hb : (r != 0) = true := by simpa using hr0
        clear h hok hd e1 hm hj hr hf hr0
        go_enter Try.func31, Try.ntmps31
        go_wp2_with (first
          | (go_at_call 35; refine (gMade_yes X B _ c0).mono ?_; rintro e w' ⟨rfl, rfl⟩)
          | (go_at_call 36; refine HD.out.mono ?_; rintro e w' ⟨rfl, rfl⟩)
          | (go_at_call 45; refine HM.out.mono ?_; rintro e w' ⟨rfl, rfl⟩)
          | (go_at_call 37; refine HJ.out.mono ?_; simp only [Option.isSome_none]; rintro e w' ⟨rfl, rfl⟩)
          | (go_at_call 46; refine HP.out.mono ?_; rintro e w3 ⟨rfl, h3, g3⟩; have HA3 := hid (HA.out.mach h3 g3); have G3 := hid g3; clear h3 g3))
        go_ret
        exact ⟨rfl, HA3.out, Chg.of G3.out fun j e => .inl (.inr (.inl (Option.some.inj e).symm))⟩
end
end Go.Proofs.Ytbbaplcfhofeeaa

/-
  Package grant: a further map of places. No walk here.
-/
set_option linter.unusedSimpArgs false
set_option linter.unusedVariables false
namespace Go.Proofs.Ytbbaplcfhofeeaa
open Go.RowKit KM

def upPm (pm : Nat → Nat × Nat × Nat) (i : Nat) (x : Nat × Nat × Nat) : Nat → Nat × Nat × Nat := fun j => if j = i then x else pm j
theorem upPm_same (pm : Nat → Nat × Nat × Nat) (i : Nat) (x : Nat × Nat × Nat) : upPm pm i x i = x := by simp [upPm]
theorem upPm_other (pm : Nat → Nat × Nat × Nat) (i j : Nat) (x : Nat × Nat × Nat) (h : j ≠ i) : upPm pm i x j = pm j := by simp [upPm, h]
section
variable {w w' : World} {X B G : Nat} {pm : Nat → Nat × Nat × Nat} {np : Nat} {s : Gs} {T : Nat}
/-- a map of places is made -/
theorem GA.add (h : GA w X B G pm np s T) (hmem : ∀ d t i, s.g.mem d = some (t, i) → i < np) {b f p T0 : Nat} {Q : Mp} (hP : PMap w' b f p Q T0) (hT : T0 ≤ T) (hg : w.grownBy w' none) (hf : ∀ k, pfoot b f p k → w.heap.size ≤ k) :
    GA w' X B G (upPm pm np (b, f, p)) (np + 1) ⟨s.M, upP s.P np Q, s.g⟩ T := by
  have h' := h.grown hg
  have hold : ∀ i, i < np → upPm pm np (b, f, p) i = pm i := fun i hi => upPm_other _ _ _ _ (by omega)
  have hlt : ∀ i, i < np → ∀ k, pft pm i k → k < w.heap.size := fun i hi k hk => h.lt (.inr (.inr (.inr ⟨i, hi, hk⟩)))
  have hpf : ∀ i, i < np → ∀ k, pft (upPm pm np (b, f, p)) i k ↔ pft pm i k := fun i hi k => by unfold pft; rw [hold i hi]
  have hnew : ∀ k, pft (upPm pm np (b, f, p)) np k ↔ pfoot b f p k := fun k => by unfold pft; rw [upPm_same]
  refine ⟨h'.top.congr fun k hk => ?_, h'.mp, h'.m, fun i hi => ?_, fun i j hi hj hij k hk hk2 => ?_, fun i hi hk => ?_⟩
  · unfold gtop
    have hpl : ∀ d, plcV (fun i => (upPm pm np (b, f, p) i).1) (s.g.mem d) = plcV (fun i => (pm i).1) (s.g.mem d) := fun d => by
      cases hm : s.g.mem d with
      | none => rfl
      | some x => obtain ⟨t, i⟩ := x; simp only [plcV]; rw [hold i (hmem d t i hm)]
    rw [hpl]
  · by_cases e : i = np
    · subst e; simp only [upPm_same, upP_same]; exact hP.mono hT
    · rw [hold i (by omega)]; simp only [upP_other _ _ _ _ e]; exact h'.p i (by omega)
  · by_cases e : i = np
    · subst e
      have hj' : j < i := by omega
      have h1 := hf k ((hnew k).1 hk)
      have h2 := hlt j hj' k ((hpf j hj' k).1 hk2)
      omega
    · have hi' : i < np := by omega
      have hk' := (hpf i hi' k).1 hk
      by_cases e2 : j = np
      · subst e2
        have h1 := hf k ((hnew k).1 hk2)
        have h2 := hlt i hi' k hk'
        omega
      · have hj' : j < np := by omega
        exact h.sep i j hi' hj' hij k hk' ((hpf j hj' k).1 hk2)
  · by_cases e : i = np
    · subst e
      have h1 := hf G ((hnew G).1 hk)
      have h2 := h.mp.lt
      omega
    · have hi' : i < np := by omega
      exact h.gp i hi' ((hpf i hi' G).1 hk)
/-- grants that New made -/
theorem GA.start {B : Nat} {M : Mach} (hM : PM w' B M) (ht : Row w' (w.heap.size + 1) 82 18 (gtop B w.heap.size (fun _ => 0) gst0)) (hm : GMap w' w.heap.size 0 gst0) (pm : Nat → Nat × Nat × Nat) (P : Nat → Mp) :
    GA w' (w.heap.size + 1) B w.heap.size pm 0 ⟨M, P, gst0⟩ 0 :=
  ⟨ht.congr fun k _ => by
    unfold gtop
    by_cases h0 : k = 0
    · simp [h0]
    · rw [if_neg h0, if_neg h0]
      by_cases h7 : k = 17
      · simp [h7]
      · rw [if_neg h7, if_neg h7]; rfl, hm, hM, fun i hi => by omega, fun i j hi => by omega, fun i hi => by omega⟩
end
end Go.Proofs.Ytbbaplcfhofeeaa

/-
  Page tables as plain data: the start; what is undone leaves the machine as it was.
-/
set_option linter.unusedSimpArgs false
set_option linter.unusedVariables false
namespace Go.Proofs.Ytbbaplcfhofeeaa
open Go.RowKit
set_option maxHeartbeats 1000000

def sp0 : Nat → Sp := fun _ => ⟨-1, []⟩
def E0 : Cnt := fun _ _ => 0
theorem outF_start (i k : Nat) : outF sp0 E0 i k = 0 := by
  unfold outF Cnt.plus E0
  rw [count_flat]
  have : ∀ n, ((List.range n).map fun j => (spK (sp0 j)).count (i, k)).sum = 0 := fun n => by
    induction n with
    | zero => rfl
    | succ m ih => rw [List.range_succ, List.map_append, List.sum_append, ih]; rfl
  rw [this]
theorem full_zero {lv K : Nat} {M : Mach} {F : Cnt} (h : ∀ i k, F i k = 0) (i k : Nat) : full lv K M F i k = 0 := by
  unfold full
  rw [h i k]
  have : ∀ n, ((List.range n).map fun t => if 0 < F t K then (M.refs lv t 64).count (i, k) else 0).sum = 0 := fun n => by
    induction n with
    | zero => rfl
    | succ m ih => rw [List.range_succ, List.map_append, List.sum_append, ih]; simp [h m K]
  rw [this]
theorem All.start {M : Mach} {T : Int} (hok : M.ok T) (h : ∀ i : Nat, (i : Int) < M.n → (M.fr i).tot = 0 ∧ (M.fr i).cnt = 0 ∧ (M.fr i).ty = 0) : All M sp0 E0 := by
  have z0 := outF_start
  have z1 := full_zero (lv := 2) (K := 3) (M := M) z0
  have z2 := full_zero (lv := 1) (K := 2) (M := M) z1
  refine ⟨⟨⟨⟨fun i hi => ?_, fun i hi => ?_, fun i k hi h1 h3 hk => ?_, fun i hi _ => (h i hi).2.2⟩, fun t ht hp => ?_⟩, fun t ht hp => ?_⟩, fun d _ => ⟨fun p hp => ?_, ?_, fun e => ?_⟩, T, hok⟩
  · rw [z2, z2, z2, z2]; exact (h i hi).1
  · rw [z2, z2, z2]; exact (h i hi).2.1
  · rw [z2] at hk; omega
  · rw [z1] at hp; omega
  · rw [z0] at hp; omega
  · cases hp
  · exact List.nodup_nil
  · exact absurd rfl e
theorem upS_upS (sp : Nat → Sp) (d : Nat) (s t : Sp) : upS (upS sp d s) d t = upS sp d t := by
  funext e
  by_cases ed : e = d
  · subst ed; rw [upS_same, upS_same]
  · rw [upS_other _ _ _ _ ed, upS_other _ _ _ _ ed, upS_other _ _ _ _ ed]
theorem upS_self (sp : Nat → Sp) (d : Nat) : upS sp d (sp d) = sp := by
  funext e
  by_cases ed : e = d
  · subst ed; rw [upS_same]
  · rw [upS_other _ _ _ _ ed]
theorem pinV_no {M : Mach} {sp : Nat → Sp} {o i lv : Int} (h : (pinV M sp o i lv).1 ≠ 0) : (pinV M sp o i lv).2.1 = M := by
  revert h
  unfold pinV
  (repeat' split) <;> intro h
  · rfl
  · rfl
  · rfl
  · exact absurd rfl h
theorem baseV_no {M : Mach} {sp : Nat → Sp} {o i : Int} (h : (baseV M sp o i).1 ≠ 0) : (baseV M sp o i).2.1 = M := by
  revert h
  unfold baseV
  (repeat' split) <;> intro h
  · rfl
  · exact absurd rfl h
  · rfl
  · exact absurd rfl h
/-- a pin that is undone leaves all as it was -/
theorem pin_undone {M : Mach} {sp : Nat → Sp} {E : Cnt} (h : All M sp E) {o i lv : Int} (he : (pinV M sp o i lv).1 = 0) : unpinV (pinV M sp o i lv).2.1 (pinV M sp o i lv).2.2 o i = (0, M, sp) := by
  have hA := h.pin o i lv
  have hB := hA.unpin o i
  revert he hB hA
  unfold pinV
  split
  · intro h _ _; cases h
  rename_i h1
  split
  · intro h _ _; cases h
  rename_i h2
  split
  · rename_i h3; intro h _ _; exact absurd h h3
  rename_i h3
  have hd : domOk o = true := by cases e : domOk o; (exact absurd (.inl e) h1); rfl
  obtain ⟨d, rfl, hd8⟩ := domOk_nat hd
  simp only [Int.toNat_natCast] at h2 h3 ⊢
  intro _ hA hB
  have hfresh := pinAt_fresh h2
  have hix : pinIx ((sp d).pins ++ [(i, lv)]) i = (sp d).pins.length := by
    unfold pinIx
    rw [List.findIdx_append, List.findIdx_eq_length.2 (fun p hp => by
      have : p.1 ≠ i := fun e => hfresh (List.mem_map.2 ⟨p, hp, e⟩)
      simpa using this)]
    simp [List.findIdx_cons]
  have hget : ((sp d).pins ++ [(i, lv)])[(sp d).pins.length]? = some (i, lv) := by simp
  have hers : ((sp d).pins ++ [(i, lv)]).eraseIdx (sp d).pins.length = (sp d).pins := by
    rw [List.eraseIdx_append_of_length_le (Nat.le_refl _)]; simp
  have e : unpinV (refT lv M d i).2 (upS sp d { sp d with pins := (sp d).pins ++ [(i, lv)] }) d i = (0, unrefT lv (refT lv M d i).2 i.toNat, sp) := by
    unfold unpinV
    rw [if_neg (by rw [hd]; simp)]
    simp only [Int.toNat_natCast, upS_same]
    rw [hix, hget]
    simp only
    rw [hers, upS_upS, show ({ root := (sp d).root, pins := (sp d).pins } : Sp) = sp d from rfl, upS_self]
  rw [e] at hB ⊢
  have hu := InvG.uniq lvl2 h.inv hB.inv ((refT_same lv M d i).trans (unrefT_same _ _ _))
  simp only at hu
  rw [← hu]
/-- a root that is undone leaves all as it was -/
theorem base_undone {M : Mach} {sp : Nat → Sp} {E : Cnt} (h : All M sp E) {o i : Int} (hr : domOk o = true → (sp o.toNat).root = -1) (he : (baseV M sp o i).1 = 0) : baseV (baseV M sp o i).2.1 (baseV M sp o i).2.2 o (-1) = (0, M, sp) := by
  have hd : domOk o = true := by
    cases e : domOk o
    · unfold baseV at he; rw [if_pos (.inl e)] at he; cases he
    · rfl
  have hr' := hr hd
  obtain ⟨d, rfl, hd8⟩ := domOk_nat hd
  simp only [Int.toNat_natCast] at hr'
  have hz : ∀ A : Mach, dropRoot A (-1) = A := fun A => by unfold dropRoot; rw [if_pos rfl]
  have hself : upS sp d { root := -1, pins := (sp d).pins } = sp := by
    have : ({ root := -1, pins := (sp d).pins } : Sp) = sp d := by rw [← hr']
    rw [this, upS_self]
  by_cases hi1 : i = -1
  · subst hi1
    have e1 : baseV M sp d (-1) = (0, M, sp) := by
      unfold baseV
      rw [if_neg (by rw [hd]; simp), if_pos rfl]
      simp only [Int.toNat_natCast, hr', hz, hself]
    rw [e1]
    exact e1
  · have hi : M.is i = true := by
      cases e : M.is i
      · unfold baseV at he; rw [if_pos (.inr ⟨hi1, e⟩)] at he; cases he
      · rfl
    have hn : ¬ (domOk (d : Int) = false ∨ (i ≠ -1 ∧ M.is i = false)) := by rw [hd, hi]; simp
    have h3 : (tabG 3 take2 M d i).1 = 0 := by
      by_cases e : (tabG 3 take2 M d i).1 = 0
      · exact e
      · unfold baseV at he; rw [if_neg hn, if_neg hi1, if_pos e] at he; exact he
    have e2 : baseV M sp d i = (0, (tabG 3 take2 M d i).2, upS sp d { root := i, pins := (sp d).pins }) := by
      unfold baseV
      rw [if_neg hn, if_neg hi1, if_neg (by simpa using h3)]
      simp only [Int.toNat_natCast, hr', hz]
    have hA := h.base d i
    rw [e2] at hA
    have e3 : baseV (tabG 3 take2 M d i).2 (upS sp d { root := i, pins := (sp d).pins }) d (-1) = (0, dropRoot (tabG 3 take2 M d i).2 i, sp) := by
      unfold baseV
      rw [if_neg (by rw [hd]; simp), if_pos rfl]
      simp only [Int.toNat_natCast, upS_same, upS_upS, hself]
    have hB := hA.base d (-1)
    simp only at hB
    rw [e3] at hB
    rw [e2]
    simp only
    rw [e3]
    have hu := InvG.uniq lvl2 h.inv hB.inv ((tabG_same lvl2 _ _ _).trans (dropRoot_same _ _))
    simp only at hu
    rw [← hu]
end Go.Proofs.Ytbbaplcfhofeeaa

/-
  Page tables as plain data: when all pins and roots are gone nothing is left.
-/
set_option linter.unusedSimpArgs false
set_option linter.unusedVariables false
namespace Go.Proofs.Ytbbaplcfhofeeaa
open Go.RowKit
set_option maxHeartbeats 1000000

theorem dropV_yes (M : Mach) (sp : Nat → Sp) {d : Nat} (hd : d < 8) : dropV M sp d = (0, dropRoot (dropM M (sp d).pins) (sp d).root, upS sp d ⟨-1, []⟩) := by
  unfold dropV
  rw [if_neg (by rw [domOk_cast hd]; simp)]
  unfold baseV
  rw [if_neg (by rw [domOk_cast hd]; simp), if_pos rfl]
  simp only [Int.toNat_natCast, upS_same, upS_upS]
theorem outF_none {sp : Nat → Sp} (h : ∀ d, d < 8 → sp d = ⟨-1, []⟩) (i k : Nat) : outF sp E0 i k = 0 := by
  unfold outF Cnt.plus E0
  rw [count_flat]
  have : ∀ n, n ≤ 8 → ((List.range n).map fun j => (spK (sp j)).count (i, k)).sum = 0 := fun n hn => by
    induction n with
    | zero => rfl
    | succ m ih => rw [List.range_succ, List.map_append, List.sum_append, ih (by omega)]; simp [h m (by omega), spK, pinK, rootK]
  rw [this 8 (by omega)]
theorem All.none {M : Mach} {sp : Nat → Sp} (h : All M sp E0) (hs : ∀ d, d < 8 → sp d = ⟨-1, []⟩) {i : Nat} (hi : (i : Int) < M.n) : (M.fr i).tot = 0 ∧ (M.fr i).cnt = 0 ∧ (M.fr i).ty = 0 := by
  have hC : CHolds M (full 1 2 M (full 2 3 M (outF sp E0))) := h.inv.inv.inv
  have z0 := outF_none hs
  have z1 := full_zero (lv := 2) (K := 3) (M := M) z0
  have z2 := full_zero (lv := 1) (K := 2) (M := M) z1
  have h1 := hC.tot i hi
  have h2 := hC.cnt i hi
  rw [z2, z2, z2, z2] at h1
  rw [z2, z2, z2] at h2
  exact ⟨h1, h2, hC.ty0 i hi h2⟩
/-- the first k domains dropped -/
def dropsV (M : Mach) (sp : Nat → Sp) : Nat → Mach × (Nat → Sp)
  | 0 => (M, sp)
  | k + 1 => ((dropV (dropsV M sp k).1 (dropsV M sp k).2 k).2.1, (dropV (dropsV M sp k).1 (dropsV M sp k).2 k).2.2)
theorem All.drops {M : Mach} {sp : Nat → Sp} {E : Cnt} (h : All M sp E) : ∀ k, k ≤ 8 → All (dropsV M sp k).1 (dropsV M sp k).2 E ∧ (∀ d, d < k → (dropsV M sp k).2 d = ⟨-1, []⟩)
  | 0, _ => ⟨h, fun d hd => by omega⟩
  | k + 1, hk => by
    obtain ⟨a, b⟩ := h.drops k (by omega)
    refine ⟨a.drop k, fun d hd => ?_⟩
    unfold dropsV
    rw [dropV_yes _ _ (show k < 8 by omega)]
    simp only
    by_cases e : d = k
    · subst e; rw [upS_same]
    · rw [upS_other _ _ _ _ e]; exact b d (by omega)
/-- behind the drop of all domains nothing is left, if nothing was taken beside -/
theorem All.gone {M : Mach} {sp : Nat → Sp} (h : All M sp E0) {i : Nat} (hi : (i : Int) < (dropsV M sp 8).1.n) : ((dropsV M sp 8).1.fr i).tot = 0 ∧ ((dropsV M sp 8).1.fr i).cnt = 0 ∧ ((dropsV M sp 8).1.fr i).ty = 0 := by
  obtain ⟨a, b⟩ := h.drops 8 (by omega)
  exact a.none b hi
end Go.Proofs.Ytbbaplcfhofeeaa

/-
  Package mmu: New.
-/
set_option linter.unusedSimpArgs false
set_option linter.unusedVariables false
namespace Go.Proofs.Ytbbaplcfhofeeaa
open Go.RowKit
set_option maxHeartbeats 4000000
def spJ (j : Nat) : Nat → Sp := fun d => ⟨if d < j then -1 else 0, []⟩
theorem spJ_end {B : Nat} {pv : Nat → Value} {k : Nat} (hk : k < 17) : xtop B (spJ 8) pv k = xtop B sp0 pv k := by
  unfold xtop spJ sp0
  by_cases h0 : k = 0
  · rw [if_pos h0, if_pos h0]
  · rw [if_neg h0, if_neg h0]
    by_cases h1 : k % 2 = 1
    · rw [if_pos h1, if_pos h1]
      simp only
      rw [if_pos (show k / 2 < 8 by omega)]
    · rw [if_neg h1, if_neg h1]
set_option maxRecDepth 100000 in
theorem xNew (B : Nat) (w : World) (M : Mach) (T : Int) (h : PM w B M) (hok : M.ok T) :
    Calls Try.prog 12 #[.pointer (some ⟨B, 0, none⟩)] w fun e w' => ∃ X, e = .returned (.pointer (some ⟨X, 0, none⟩)) ∧ PS w' B X M sp0 (fun _ => .slice none 0 0) ∧ w.grownBy w' none ∧ w.heap.size ≤ X := by
  have HS := hid (Size_yes B M.n w hok.n1 h.size)
  have HM := hid h
  have hn0 : (M.n == 0) = false := by have := hok.n1; simp; omega
  have hn1 : (M.n != 0) = true := by have := hok.n1; simp; omega
  clear h hok
  go_enter Try.func12, Try.ntmps12
  go_wp2_with (go_at_call 24; refine HS.out.mono ?_; rintro e w' ⟨rfl, rfl⟩)
  obtain ⟨W0, hW⟩ : ∃ W, w.alloc (.cells #[.pointer (some ⟨B, 0, none⟩), .int .i64 0, .slice none 0 0, .int .i64 0, .slice none 0 0, .int .i64 0, .slice none 0 0, .int .i64 0, .slice none 0 0, .int .i64 0, .slice none 0 0, .int .i64 0, .slice none 0 0, .int .i64 0, .slice none 0 0, .int .i64 0, .slice none 0 0] 76) = W := ⟨_, rfl⟩
  have G0 := hid (show w.grownBy W0 none by rw [← hW]; exact World.grownBy_alloc w _ none)
  have R0 := hid (show Row W0 w.heap.size 76 17 (xtop B (spJ 0) (fun _ => .slice none 0 0)) by
    rw [← hW]
    refine ⟨_, heap_alloc_new w _, by simp, fun k hk => ?_⟩
    have : k = 0 ∨ k = 1 ∨ k = 2 ∨ k = 3 ∨ k = 4 ∨ k = 5 ∨ k = 6 ∨ k = 7 ∨ k = 8 ∨ k = 9 ∨ k = 10 ∨ k = 11 ∨ k = 12 ∨ k = 13 ∨ k = 14 ∨ k = 15 ∨ k = 16 := by omega
    rcases this with rfl | rfl | rfl | rfl | rfl | rfl | rfl | rfl | rfl | rfl | rfl | rfl | rfl | rfl | rfl | rfl | rfl <;> rfl)
  rw [hW]
  clear hW
  go_loopw [11] (fun x wr => ∃ j : Nat, x = .int .i64 j ∧ j ≤ 8 ∧ Row wr w.heap.size 76 17 (xtop B (spJ j) (fun _ => .slice none 0 0)) ∧ w.grownBy wr none) (fun x _ => 8 - (intOf x).toNat)
  case atStart => exact ⟨0, rfl, by omega, R0.out, G0.out⟩
  case round =>
    obtain ⟨j, rfl, hj, hr, hg⟩ := hrel
    have HR := hid hr; have HG := hid hg
    have hj0 : (0 : Int) ≤ j := by omega
    by_cases hj8 : j < 8
    · have hj8' : (j : Int) < 8 := by omega
      have z0 := hr.cell (k := 1 + j * 2) (by omega)
      have z1 := hr.frozen (1 + j * 2)
      have hset := hid (hr.set (k := 1 + j * 2) (v := .int .i64 (-1)) (X' := xtop B (spJ (j + 1)) (fun _ => .slice none 0 0)) (by
        unfold xtop spJ
        rw [if_neg (by omega), if_pos (by omega), show (1 + j * 2) / 2 = j by omega]
        simp) (fun q hq hne => by
        unfold xtop spJ
        by_cases h0 : q = 0
        · rw [if_pos h0, if_pos h0]
        · rw [if_neg h0, if_neg h0]
          by_cases h1 : q % 2 = 1
          · rw [if_pos h1, if_pos h1]
            have : q / 2 ≠ j := by omega
            simp only
            by_cases h2 : q / 2 < j
            · rw [if_pos h2, if_pos (by omega)]
            · rw [if_neg h2, if_neg (by omega)]
          · rw [if_neg h1, if_neg h1]))
      have hgs := hid (grown_set hg (b := w.heap.size) (o := 1 + j * 2) (Nat.le_refl _) (.int .i64 (-1)))
      clear hr hg
      go_wp2
      go_roundw
      case rel => exact ⟨j + 1, by go_num, by omega, hset.out, hgs.out⟩
      case measure => simp [intOf]; omega
    · obtain rfl : j = 8 := by omega
      clear hr hg
      go_wp2
      go_ret
      exact ⟨_, rfl, ⟨HM.out.grown HG.out (by simp), HR.out.congr fun k hk => (spJ_end hk).symm, fun d _ => .inl ⟨rfl, rfl⟩, fun d e g _ _ _ h1 => by simp [Value.ownBlock] at h1⟩, HG.out, Nat.le_refl _⟩
end Go.Proofs.Ytbbaplcfhofeeaa

/-
  Package dom in memory: its block, the machine, the page tables, the grants with their maps of places. No walk here.
-/
set_option linter.unusedSimpArgs false
set_option linter.unusedVariables false
namespace Go.Proofs.Ytbbaplcfhofeeaa.Dm
open Go.RowKit
set_option maxHeartbeats 1000000

/-- what a hypervisor keeps of a domain: state, size, grant frame, block of its map of places -/
structure DC where
  st : Int
  sz : Int
  gr : Int
  pl : Option Nat
def dc0 : DC := ⟨0, 0, 0, none⟩
def plB : Option Nat → Value | some b => .pointer (some ⟨b, 0, none⟩) | none => .pointer none
def dcell (d : DC) (r : Nat) : Value := if r = 0 then .int .i64 d.st else if r = 1 then .int .i64 d.sz else if r = 2 then .int .i64 d.gr else plB d.pl
def htop (B X Y V : Nat) (D : Nat → DC) (k : Nat) : Value :=
  if k = 0 then .pointer (some ⟨B, 0, none⟩) else if k = 1 then .pointer (some ⟨X, 0, none⟩) else if k = 2 then .pointer (some ⟨Y, 0, none⟩) else if k = 3 then .pointer (some ⟨V, 0, none⟩) else dcell (D ((k - 4) / 4)) ((k - 4) % 4)
theorem htop_at (B X Y V : Nat) (D : Nat → DC) (d r : Nat) (hr : r < 4) : htop B X Y V D (4 + d * 4 + r) = dcell (D d) r := by
  unfold htop
  rw [if_neg (by omega), if_neg (by omega), if_neg (by omega), if_neg (by omega), show (4 + d * 4 + r - 4) / 4 = d by omega, show (4 + d * 4 + r - 4) % 4 = r by omega]
def upD (D : Nat → DC) (d : Nat) (x : DC) : Nat → DC := fun e => if e = d then x else D e
theorem upD_same (D : Nat → DC) (d : Nat) (x : DC) : upD D d x d = x := by simp [upD]
theorem upD_other (D : Nat → DC) (d e : Nat) (x : DC) (h : e ≠ d) : upD D d x e = D e := by simp [upD, h]
/-- the blocks of a hypervisor -/
def hfoot (H B X Y G : Nat) (pv : Nat → Value) (pm : Nat → Nat × Nat × Nat) (np k : Nat) : Prop := k = H ∨ xfoot B X pv k ∨ gfoot Y B G pm np k
/-- block H holds the hypervisor, over w0 -/
structure HV (w0 w : World) (H B X Y V G : Nat) (pv : Nat → Value) (pm : Nat → Nat × Nat × Nat) (np : Nat) (s : Gs) (sp : Nat → Sp) (T : Nat) (D : Nat → DC) : Prop where
  top : Row w H 51 36 (htop B X Y V D)
  ps : PS w B X s.M sp pv
  ga : GA w Y B G pm np s T
  far : ∀ k, hfoot H B X Y G pv pm np k → w0.heap.size ≤ k
  g : w0.grownBy w none
theorem Row.map_ne {w : World} {g m : Nat} {t : TypeId} {N : Nat} {X : Nat → Value} (h : Row w g t N X) (hm : ∃ es c, w.heap[m]? = some (.map es c)) : m ≠ g := by
  rintro rfl
  obtain ⟨es, c, e⟩ := hm
  obtain ⟨cur, h, _⟩ := h
  rw [e] at h; cases h
section
variable {w0 w w' : World} {H B X Y V G : Nat} {pv : Nat → Value} {pm : Nat → Nat × Nat × Nat} {np : Nat} {s : Gs} {sp : Nat → Sp} {T : Nat} {D : Nat → DC}
/-- a row of a type that the grants do not have lies apart of them -/
theorem HV.apart {g : Nat} {t : TypeId} {N : Nat} {Z : Nat → Value} (h : HV w0 w H B X Y V G pv pm np s sp T D) (hr : Row w g t N Z) (h1 : t ≠ 82) (h2 : t ≠ 117) (h3 : t ≠ 68) : ¬ gfoot Y B G pm np g := by
  rintro (e | e | e | ⟨i, hi, e⟩)
  · exact Row.type_ne hr h.ga.top h1 e
  · exact Row.pm_ne hr h.ga.m h3 e.symm
  · exact Row.map_ne hr h.ga.mp.isMap e.symm
  · rcases pft_row (h.ga.p i hi) e with ⟨cur, e2⟩ | e2
    · obtain ⟨cur', e3, _⟩ := hr
      rw [e2] at e3
      simp only [Option.some.injEq, Obj.cells.injEq] at e3
      exact h2 e3.2.1.symm
    · exact Row.map_ne hr e2 rfl
theorem HV.lt (h : HV w0 w H B X Y V G pv pm np s sp T D) {k : Nat} (hk : hfoot H B X Y G pv pm np k) : k < w.heap.size := by
  rcases hk with rfl | e | e
  · exact h.top.lt
  · exact h.ps.lt e
  · exact h.ga.lt e
theorem HV.Hg (h : HV w0 w H B X Y V G pv pm np s sp T D) : ¬ gfoot Y B G pm np H := h.apart h.top (by decide) (by decide) (by decide)
theorem HV.Xg (h : HV w0 w H B X Y V G pv pm np s sp T D) : ¬ gfoot Y B G pm np X := h.apart h.ps.top (by decide) (by decide) (by decide)
theorem HV.pg (h : HV w0 w H B X Y V G pv pm np s sp T D) {d : Nat} (hd : d < 8) {g : Nat} (e : (pv d).ownBlock = some g) : ¬ gfoot Y B G pm np g := by
  obtain ⟨N, Z, hr⟩ := (h.ps.pin d hd).row e
  exact h.apart hr (by decide) (by decide) (by decide)
theorem HV.Hx (h : HV w0 w H B X Y V G pv pm np s sp T D) : ¬ xfoot B X pv H := by
  rintro (e | e | ⟨d, hd, e⟩)
  · exact (h.top.pm_ne h.ps.m (by decide)) e.symm
  · exact Row.type_ne h.top h.ps.top (by decide) e
  · obtain ⟨N, Z, hr⟩ := (h.ps.pin d hd).row e
    exact Row.type_ne hr h.top (by decide) rfl
/-- what page tables and grants have in common is the machine -/
theorem HV.xg (h : HV w0 w H B X Y V G pv pm np s sp T D) {k : Nat} (hx : xfoot B X pv k) (hg : gfoot Y B G pm np k) : k = B := by
  rcases hx with e | e | ⟨d, hd, e⟩
  · exact e
  · exact absurd (e ▸ hg) h.Xg
  · exact absurd hg (h.pg hd e)
theorem HV.chg {S : Nat → Prop} (h : HV w0 w H B X Y V G pv pm np s sp T D) (hc : Chg S w w') (hS : ∀ k, hfoot H B X Y G pv pm np k → ¬ S k) (hS0 : ∀ k, S k → w0.heap.size ≤ k) : HV w0 w' H B X Y V G pv pm np s sp T D :=
  ⟨h.top.chg hc (hS _ (.inl rfl)), h.ps.chg hc fun k hk => hS k (.inr (.inl hk)), h.ga.chg hc fun k hk => hS k (.inr (.inr hk)), h.far, hc.grown h.g hS0⟩
theorem HV.grown (h : HV w0 w H B X Y V G pv pm np s sp T D) (hg : w.grownBy w' none) : HV w0 w' H B X Y V G pv pm np s sp T D := h.chg (S := fun _ => False) (Chg.of0 hg) (fun _ _ e => e) fun _ e => e.elim
/-- a block of the caller's own turns -/
theorem HV.but (h : HV w0 w H B X Y V G pv pm np s sp T D) {r : Option Nat} (hg : w.grownBy w' r) (hr : ∀ b, r = some b → w0.heap.size ≤ b ∧ ¬ hfoot H B X Y G pv pm np b) : HV w0 w' H B X Y V G pv pm np s sp T D :=
  h.chg (S := fun k => r = some k) (Chg.of hg fun j e => .inl e) (fun k hk e => (hr k e).2 hk) fun k e => (hr k e).1
theorem HV.mono (h : HV w0 w H B X Y V G pv pm np s sp T D) {T' : Nat} (hT : T ≤ T') : HV w0 w H B X Y V G pv pm np s sp T' D := ⟨h.top, h.ps, h.ga.mono hT, h.far, h.g⟩
theorem HV.base (h : HV w0 w H B X Y V G pv pm np s sp T D) {w1 : World} (hg : w1.grownBy w none) (hf : ∀ k, hfoot H B X Y G pv pm np k → w1.heap.size ≤ k) : HV w1 w H B X Y V G pv pm np s sp T D := ⟨h.top, h.ps, h.ga, hf, hg⟩
/-- the machine turns -/
theorem HV.mach (h : HV w0 w H B X Y V G pv pm np s sp T D) {M' : Mach} (hm : PM w' B M') (hg : w.grownBy w' (some B)) : HV w0 w' H B X Y V G pv pm np (s.setM M') sp T D :=
  have hc : Chg (fun k => k = B) w w' := Chg.of hg fun j e => .inl (Option.some.inj e).symm
  ⟨h.top.chg hc (fun e => h.Hx (.inl e)), ⟨hm, h.ps.top.chg hc (h.ps.XB), fun d hd => (h.ps.pin d hd).chg hc fun g e e' => h.ps.pinB hd (by rw [e, e']), h.ps.sep⟩, h.ga.mach hm hg, h.far, hc.grown h.g fun k e => h.far k (.inr (.inl (.inl e)))⟩
/-- the page tables turn, and the machine with them -/
theorem HV.tables (h : HV w0 w H B X Y V G pv pm np s sp T D) {M' : Mach} {sp' : Nat → Sp} (hx : XL w w' B X pv M' sp') : ∃ pv', HV w0 w' H B X Y V G pv' pm np (s.setM M') sp' T D ∧ Chg (xfoot B X pv) w w' ∧ (∀ k, xfoot B X pv' k → xfoot B X pv k ∨ w.heap.size ≤ k) := by
  obtain ⟨pv', hp, hc, hf⟩ := hx
  refine ⟨pv', ⟨h.top.chg hc h.Hx, hp, ⟨h.ga.top.chg hc fun e => ?_, h.ga.mp.same (hc.block _ h.ga.mp.lt fun e => ?_), hp.m, fun i hi => (h.ga.p i hi).chg hc.gen fun k hk e => ?_, h.ga.sep, h.ga.gp⟩, fun k hk => ?_, hc.grown h.g fun k e => h.far k (.inr (.inl e))⟩, hc, hf⟩
  · exact h.ga.XB (h.xg e (.inl rfl)).symm
  · exact h.ga.BG (h.xg e (.inr (.inr (.inl rfl))))
  · have := h.xg e (.inr (.inr (.inr ⟨i, hi, hk⟩)))
    exact h.ga.pB hi (this ▸ hk)
  · rcases hk with e | e | e
    · exact h.far k (.inl e)
    · rcases hf k e with e' | e'
      · exact h.far k (.inr (.inl e'))
      · have := h.g.size; omega
    · exact h.far k (.inr (.inr e))
/-- the grants turn, and the machine with them -/
theorem HV.grants (h : HV w0 w H B X Y V G pv pm np s sp T D) {s' : Gs} {T' : Nat} (hl : GL w Y B G pm np s' T' w') : HV w0 w' H B X Y V G pv pm np s' sp T' D :=
  ⟨h.top.chg hl.c h.Hg, ⟨hl.a.m, h.ps.top.chg hl.c h.Xg, fun d hd => (h.ps.pin d hd).chg hl.c fun g e => h.pg hd e, h.ps.sep⟩, hl.a, h.far, hl.c.grown h.g fun k e => h.far k (.inr (.inr e))⟩
/-- a map of places is made -/
theorem HV.add (h : HV w0 w H B X Y V G pv pm np s sp T D) (hmem : ∀ d t i, s.g.mem d = some (t, i) → i < np) {b f p T0 : Nat} {Q : Mp} (hP : PMap w' b f p Q T0) (hT : T0 ≤ T) (hg : w.grownBy w' none) (hf : ∀ k, pfoot b f p k → w.heap.size ≤ k) :
    HV w0 w' H B X Y V G pv (upPm pm np (b, f, p)) (np + 1) ⟨s.M, upP s.P np Q, s.g⟩ sp T D := by
  have h' := h.grown hg
  have hn : ∀ k, gfoot Y B G (upPm pm np (b, f, p)) (np + 1) k → gfoot Y B G pm np k ∨ w.heap.size ≤ k := fun k hk => by
    rcases hk with e | e | e | ⟨i, hi, e⟩
    · exact .inl (.inl e)
    · exact .inl (.inr (.inl e))
    · exact .inl (.inr (.inr (.inl e)))
    · by_cases ei : i = np
      · subst ei
        unfold pft at e
        rw [upPm_same] at e
        exact .inr (hf k e)
      · unfold pft at e
        rw [upPm_other _ _ _ _ ei] at e
        exact .inl (.inr (.inr (.inr ⟨i, by omega, e⟩)))
  refine ⟨h'.top, h'.ps, h.ga.add hmem hP hT hg hf, fun k hk => ?_, h'.g⟩
  rcases hk with e | e | e
  · exact h.far k (.inl e)
  · exact h.far k (.inr (.inl e))
  · rcases hn k e with e | e
    · exact h.far k (.inr (.inr e))
    · have := h.g.size; omega
/-- the cells of a domain -/
theorem HV.cell (h : HV w0 w H B X Y V G pv pm np s sp T D) {d r : Nat} (hd : d < 8) (hr : r < 4) : w.cell? ⟨H, 4 + d * 4 + r, none⟩ = some (dcell (D d) r) := by
  rw [h.top.cell (k := 4 + d * 4 + r) (by omega), htop_at _ _ _ _ _ _ _ hr]
theorem HV.c0 (h : HV w0 w H B X Y V G pv pm np s sp T D) : w.cell? ⟨H, 0, none⟩ = some (.pointer (some ⟨B, 0, none⟩)) := h.top.cell (k := 0) (by omega)
theorem HV.c1 (h : HV w0 w H B X Y V G pv pm np s sp T D) : w.cell? ⟨H, 1, none⟩ = some (.pointer (some ⟨X, 0, none⟩)) := h.top.cell (k := 1) (by omega)
theorem HV.c2 (h : HV w0 w H B X Y V G pv pm np s sp T D) : w.cell? ⟨H, 2, none⟩ = some (.pointer (some ⟨Y, 0, none⟩)) := h.top.cell (k := 2) (by omega)
/-- a domain's four cells are set -/
theorem HV.setD (h : HV w0 w H B X Y V G pv pm np s sp T D) {d : Nat} (hd : d < 8) (x : DC) :
    HV w0 ((((w.setCell ⟨H, 4 + d * 4, none⟩ (.int .i64 x.st)).setCell ⟨H, 4 + d * 4 + 1, none⟩ (.int .i64 x.sz)).setCell ⟨H, 4 + d * 4 + 2, none⟩ (.int .i64 x.gr)).setCell ⟨H, 4 + d * 4 + 3, none⟩ (plB x.pl)) H B X Y V G pv pm np s sp T (upD D d x) := by
  have hg : w.grownBy ((((w.setCell ⟨H, 4 + d * 4, none⟩ (.int .i64 x.st)).setCell ⟨H, 4 + d * 4 + 1, none⟩ (.int .i64 x.sz)).setCell ⟨H, 4 + d * 4 + 2, none⟩ (.int .i64 x.gr)).setCell ⟨H, 4 + d * 4 + 3, none⟩ (plB x.pl)) (some H) :=
    (((grownBy_setCell w H (4 + d * 4) none (.int .i64 x.st)).trans (grownBy_setCell _ H (4 + d * 4 + 1) none (.int .i64 x.sz))).trans (grownBy_setCell _ H (4 + d * 4 + 2) none (.int .i64 x.gr))).trans (grownBy_setCell _ H (4 + d * 4 + 3) none (plB x.pl))
  have hc : Chg (fun k => k = H) w _ := Chg.of hg fun j e => .inl (Option.some.inj e).symm
  refine ⟨?_, h.ps.chg hc fun k hk e => h.Hx (e ▸ hk), h.ga.chg hc fun k hk e => h.Hg (e ▸ hk), h.far, hc.grown h.g fun k e => h.far k (.inl e)⟩
  have o : ∀ k, (∀ r, r < 4 → k ≠ 4 + d * 4 + r) → htop B X Y V (upD D d x) k = htop B X Y V D k := fun k hk => by
    unfold htop
    split; · rfl
    split; · rfl
    split; · rfl
    split; · rfl
    have : (k - 4) / 4 ≠ d := fun e => hk ((k - 4) % 4) (by omega) (by omega)
    rw [upD_other _ _ _ _ this]
  have a : ∀ r, r < 4 → htop B X Y V (upD D d x) (4 + d * 4 + r) = dcell x r := fun r hr => by rw [htop_at _ _ _ _ _ _ _ hr, upD_same]
  have t1 := Row.set (X' := fun j => if j = 4 + d * 4 then .int .i64 x.st else htop B X Y V D j) (k := 4 + d * 4) (v := .int .i64 x.st) h.top (by simp) fun j _ hne => by simp [hne]
  have t2 := Row.set (X' := fun j => if j = 4 + d * 4 + 1 then .int .i64 x.sz else if j = 4 + d * 4 then .int .i64 x.st else htop B X Y V D j) (k := 4 + d * 4 + 1) (v := .int .i64 x.sz) t1 (by simp) fun j _ hne => by simp [hne]
  have t3 := Row.set (X' := fun j => if j = 4 + d * 4 + 2 then .int .i64 x.gr else if j = 4 + d * 4 + 1 then .int .i64 x.sz else if j = 4 + d * 4 then .int .i64 x.st else htop B X Y V D j) (k := 4 + d * 4 + 2) (v := .int .i64 x.gr) t2 (by simp) fun j _ hne => by simp [hne]
  refine Row.set (k := 4 + d * 4 + 3) t3 (by rw [a 3 (by omega)]; rfl) fun j hj hne => ?_
  by_cases e2 : j = 4 + d * 4 + 2
  · simp only [e2, if_true]; rw [a 2 (by omega)]; rfl
  by_cases e1 : j = 4 + d * 4 + 1
  · simp only [e2, e1, if_true, if_false]; rw [a 1 (by omega)]; simp [dcell]
  by_cases e0 : j = 4 + d * 4
  · simp only [e2, e1, e0, if_true, if_false]; have := a 0 (by omega); rw [Nat.add_zero] at this; rw [this]; simp [dcell]
  simp only [e2, e1, e0, if_false]
  exact o j fun r hr e => by
    have : r = 0 ∨ r = 1 ∨ r = 2 ∨ r = 3 := by omega
    rcases this with rfl | rfl | rfl | rfl <;> omega
end
end Go.Proofs.Ytbbaplcfhofeeaa.Dm
