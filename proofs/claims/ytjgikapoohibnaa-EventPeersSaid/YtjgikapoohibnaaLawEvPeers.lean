/-
  EventPeers: for every script of calls the law returns true, and what was there stays. No condition.
-/
import Derived.Test.YtjgikapoohibnaaEvV
import Derived.Test.YtjgikapoohibnaaLift
import Derived.ProofKit
import Derived.OpenShut
import Derived.Deep.RegionWith
set_option linter.unusedSimpArgs false
set_option linter.unusedVariables false
namespace Go.Proofs.Ytjgikapoohibnaa.lawEvPeers
open Go.ChangeShapes Go.WideShapes Go.ChangeAt Go.RowKit Gen
set_option maxHeartbeats 4000000

theorem portR_yes (S : Ev) {d n : Nat} (hd : d < 8) (hn : n < 32) : portR S d n = (S.pt d n, 0) := by
  simp [portR, edOk_yes hd, epOk_yes hn]
theorem zero_port (w : World) : (zeroValue 35).run Try.prog w = .ok Prt.zero.val w := by
  obtain ⟨i0, hi, hz0, _, _⟩ := info_parts info_port7
  simp [zeroValue, typeInfo, hi, hz0]
def falses : Array Value := madeCells #[.bool false] 4
theorem falses_at (k : Nat) (h : k < 4) : falses[k]? = some (.bool false) := by
  unfold falses
  simp [madeCells, h, Nat.mod_one]
theorem falses_size : falses.size = 4 := size_madeCells _ _
theorem make_falses (W : World) : (Instr.makeSlice 33 (.int .i64 4) (.int .i64 4)).run Try.prog W = .ok (.slice (some ⟨W.heap.size, 0, none⟩) 4 4) (W.alloc (.cells falses 4)) := by
  obtain ⟨i0, hi, hz0, hz1, hz2⟩ := info_parts info_bool7
  have hr := run_make W 33 4 i0 (.bool false) Try.underlying33 hi hz0 .i64 .i64 4 4 (by omega) (by omega) (by rw [hz2]; omega) (by omega)
  rw [hr, hz1]
  unfold falses
  simp [Value.cells]
attribute [irreducible] falses
/-- a virtual interrupt that one of the first k ports has -/
def seenE (S : Ev) (d : Nat) : Nat → Nat → Bool
  | 0, _ => false
  | k + 1, v => seenE S d k v || isVirqOf S d v k
theorem seen_no {S : Ev} {d : Nat} {v : Nat} : ∀ {k : Nat}, (∀ m, m < k → isVirqOf S d v m = false) → seenE S d k v = false
  | 0, _ => rfl
  | k + 1, h => by
    unfold seenE
    rw [seen_no (k := k) fun m hm => h m (by omega), h k (by omega)]; rfl
/-- in the midst of the look: the events, the row of what was seen in block B -/
structure Lk (w W : World) (X B : Nat) (S : Ev) (d k : Nat) : Prop where
  x : EvAt W X S
  row : Row W B 4 4 (fun v => .bool (seenE S d k v))
  g : w.grownBy W none
  ne : B ≠ X
  far : w.heap.size ≤ B
section
variable {w W W' : World} {X B : Nat} {S : Ev} {d k : Nat}
theorem Lk.more (h : Lk w W X B S d k) (hg : W.grownBy W' none) : Lk w W' X B S d k := ⟨h.x.grow0 hg, h.row.grown hg (by simp), h.g.trans hg, h.ne, h.far⟩
theorem Lk.next (h : Lk w W X B S d k) (hk : ∀ v : Nat, v < 4 → isVirqOf S d v k = false) : Lk w W X B S d (k + 1) := ⟨h.x, h.row.congr fun v hv => by show Value.bool (seenE S d k v || isVirqOf S d v k) = _; rw [hk v hv, Bool.or_false], h.g, h.ne, h.far⟩
theorem Lk.seen (h : Lk w W X B S d k) {v : Nat} (hv : v < 4) (hk : (S.pt d k).k = 3) (hvv : (S.pt d k).v = v) : Lk w (W.setCell ⟨B, v, none⟩ (.bool true)) X B S d (k + 1) := by
  refine ⟨h.x.grown (grownBy_setCell W B v none _) (fun e => h.ne (by cases e; rfl)), h.row.set (by simp only [seenE, isVirqOf, hk, hvv, decide_true, Bool.and_self, Bool.or_true]) fun j hj hne => ?_, h.g.andThen (grownBy_setCell W B v none _) fun j e => .inl (by cases e; exact h.far), h.ne, h.far⟩
  have : isVirqOf S d j k = false := by
    simp only [isVirqOf, hk, hvv, decide_true, Bool.true_and, decide_eq_false_iff_not]
    omega
  simp only [seenE, this, Bool.or_false]
theorem Lk.start {w W : World} {X Y : Nat} {S : Ev} {L : ELay} (h : EvAt W X S) (g : w.grownBy W none) (d : Nat) : Lk w (W.alloc (.cells falses 4)) X W.heap.size S d 0 :=
  ⟨h.grow0 (World.grownBy_alloc _ _ _), ⟨_, heap_alloc_new W _, by rw [falses_size]; omega, fun k hk => by rw [falses_at k hk]; rfl⟩, g.trans (World.grownBy_alloc _ _ _), fun e => by have := h.lt; omega, g.size⟩
end
theorem virq_of_ne {S : Ev} {d k : Nat} (h : (S.pt d k).k ≠ 3) (v : Int) : isVirqOf S d v k = false := by simp [isVirqOf, h]
set_option maxRecDepth 100000 in
theorem walk (po : Option Addr) (co : Nat) (os : List EOp) (w : World) (ho : EOpsIn w po os) (hos : os.length ≤ 140737488355328) :
    Calls Try.prog 4 #[.slice po os.length co] w fun e w' => e = .returned (.bool true) ∧ w.grownBy w' none := by
  have HO := hid ho; have HOs := hid hos
  clear ho hos
  go_enter Try.func4, Try.ntmps4
  go_wp2_with (first
    | (go_at_call 9; refine (eNew _).mono ?_; rintro e w1 ⟨X, rfl, h1, g1, f1⟩; have H1 := hid h1; have G1 := hid g1; have F1 := hid f1; clear h1 g1 f1)
    | (go_at_call 10; refine (rNew _).mono ?_; rintro e w2 ⟨Y, L, rfl, h2, g2, f2⟩; have HE := hid (eStart H1.out G1.out F1.out h2 g2 f2); clear h2 g2 f2))
  go_loopw [5] (fun i wr => ∃ k : Nat, i = .int .i64 k ∧ k ≤ os.length ∧ EB w wr X Y (runE os k) L) (fun i _ => os.length - (intOf i).toNat)
  case atStart => exact ⟨0, rfl, by omega, HE.out⟩
  case round =>
    clear HE
    obtain ⟨k, rfl, hk, he⟩ := hrel
    have HE := hid he
    clear he
    have hk0 : (0 : Int) ≤ k := by omega
    by_cases hlt : k < os.length
    · have hlt' : (k : Int) < os.length := by omega
      obtain ⟨b', off, rfl, hb', d0, d1, d2, d3, d4⟩ := HO.out k hlt
      have HSt := hid (runE_succ os k hlt)
      have gw := HE.out.g
      have k0 := gw.cell d0 (by simp); have k1 := gw.cell d1 (by simp); have k2 := gw.cell d2 (by simp); have k3 := gw.cell d3 (by simp); have k4 := gw.cell d4 (by simp)
      have hj2 := HOs.out
      clear d0 d1 d2 d3 d4 gw
      generalize os[k] = r at *
      go_wp2_with (go_at_call 11; refine (ePlay w _ X Y r _ L HE.out).mono ?_; rintro e w3 ⟨rfl, h3⟩; have H3 := hid h3; clear h3)
      go_roundw
      case rel => exact ⟨k + 1, by go_num, by omega, by rw [HSt.out]; exact H3.out⟩
      case measure => simp [intOf]; omega
    · obtain rfl : k = os.length := by omega
      have hge : (os.length : Int) ≤ os.length := by omega
      obtain ⟨S, hS⟩ : ∃ S, runE os os.length = S := ⟨_, rfl⟩
      rw [hS] at HE
      clear hS
      have HOk := hid HE.out.ok
      have HE0 := hid (show EvAt wr X S ∧ w.grownBy wr none from ⟨HE.out.x, HE.out.g⟩)
      clear HE
      go_wp2
      go_loopw [6] (fun i wr => ∃ D : Nat, i = .int .i64 D ∧ D ≤ 8 ∧ EvAt wr X S ∧ w.grownBy wr none) (fun i _ => 8 - (intOf i).toNat)
      case atStart => exact ⟨0, rfl, by omega, HE0.out.1, HE0.out.2⟩
      case round =>
        clear HE0
        obtain ⟨D, rfl, hD, hx, hg⟩ := hrel
        have HX := hid hx; have HG := hid hg
        clear hx hg
        have hD0 : (0 : Int) ≤ D := by omega
        by_cases hlt : D < 8
        · have hlt' : (D : Int) < 8 := by omega
          have hmk := make_falses
          have HL := hid (Lk.start (Y := Y) (L := L) HX.out HG.out D)
          obtain ⟨B, hB⟩ : ∃ B, wr.heap.size = B := ⟨_, rfl⟩
          obtain ⟨W0, hW0⟩ : ∃ W0, wr.alloc (.cells falses 4) = W0 := ⟨_, rfl⟩
          rw [hB, hW0] at HL
          go_wp2
          clear hmk hB hW0
          go_loopw [8] (fun i wr => ∃ k : Nat, i = .int .i64 k ∧ k ≤ 32 ∧ Lk w wr X B S D k) (fun i _ => 32 - (intOf i).toNat)
          case atStart => exact ⟨0, rfl, by omega, HL.out⟩
          case round =>
            clear HL
            obtain ⟨k, rfl, hk, hl⟩ := hrel
            have HL := hid hl
            have hk0 : (0 : Int) ≤ k := by omega
            by_cases hk32 : k < 32
            · have hk32' : (k : Int) < 32 := by omega
              have hP := fun W (h : EvAt W X S) => ePort X D k W S h
              simp only [portR_yes S hlt hk32, Prt.val] at hP
              have hok := HOk.out D k hlt hk32
              clear hl
              rcases hok.kind with h0 | h1 | h2 | h3
              · rw [hok.free h0] at hP
                simp only [Prt.zero] at hP
                have HP := hid hP
                have HN := hid (HL.out.next fun v _ => virq_of_ne (by omega) v)
                have hz := zero_port
                have hq := port_neq Prt.zero
                simp only [Prt.val, Prt.zero] at hz hq
                clear hP hok h0
                go_wp2_with (go_at_call 14; refine (HP.out _ HN.out.x).mono ?_; rintro e w4 ⟨rfl, g4⟩; have HO4 := hid ((HN.out.more g4).more (World.grownBy_alloc w4 (.cells #[.int .i64 0, .int .i64 0, .int .i64 0, .int .i64 0, .bool false, .bool false] 35) none)); clear g4)
                all_goals
                  go_roundw
                  case rel => exact ⟨k + 1, by go_num, by omega, HO4.out⟩
                  case measure => simp [intOf]; omega
              · have HN := hid (HL.out.next fun v _ => virq_of_ne (by omega) v)
                rw [h1] at hP
                have HP := hid hP
                clear hP hok h1
                generalize (S.pt D k).r = q1 at *
                generalize (S.pt D k).p = q2 at *
                generalize (S.pt D k).v = q3 at *
                generalize (S.pt D k).pe = q4 at *
                generalize (S.pt D k).ma = q5 at *
                go_wp2_with (go_at_call 14; refine (HP.out _ HN.out.x).mono ?_; rintro e w4 ⟨rfl, g4⟩; have HO4 := hid ((HN.out.more g4).more (World.grownBy_alloc w4 (.cells #[.int .i64 1, .int .i64 q1, .int .i64 q2, .int .i64 q3, .bool q4, .bool q5] 35) none)); clear g4)
                all_goals
                  go_roundw
                  case rel => exact ⟨k + 1, by go_num, by omega, HO4.out⟩
                  case measure => simp [intOf]; omega
              · have HN := hid (HL.out.next fun v _ => virq_of_ne (by omega) v)
                obtain ⟨r, p, hr, hp, e1, e2, e3, e4, e5, e6⟩ := hok.bound h2
                have hP2 := fun W (h : EvAt W X S) => ePort X r p W S h
                simp only [portR_yes S hr hp, Prt.val] at hP2
                rw [e3, e4, e5] at hP2
                rw [h2, e1, e2] at hP
                have HP := hid hP; have HP2 := hid hP2
                clear hP hP2 hok h2 e1 e2 e3 e4 e5 e6
                generalize (S.pt D k).v = q3 at *
                generalize (S.pt D k).pe = q4 at *
                generalize (S.pt D k).ma = q5 at *
                generalize (S.pt r p).v = t3 at *
                generalize (S.pt r p).pe = t4 at *
                generalize (S.pt r p).ma = t5 at *
                have hkk : ((k : Int) != k) = false := by simp
                have hdd : ((D : Int) != D) = false := by simp
                go_wp2_with (go_at_call 14; first
                  | (with_reducible refine (HP.out _ HN.out.x).mono ?_; rintro e w4 ⟨rfl, g4⟩; have HO4 := hid ((HN.out.more g4).more (World.grownBy_alloc w4 (.cells #[.int .i64 2, .int .i64 r, .int .i64 p, .int .i64 q3, .bool q4, .bool q5] 35) none)); clear g4 HP)
                  | (with_reducible refine (HP2.out _ HO4.out.x).mono ?_; rintro e w5 ⟨rfl, g5⟩; have HO5 := hid ((HO4.out.more g5).more (World.grownBy_alloc w5 (.cells #[.int .i64 2, .int .i64 D, .int .i64 k, .int .i64 t3, .bool t4, .bool t5] 35) none)); clear g5))
                all_goals
                  go_roundw
                  case rel => exact ⟨k + 1, by go_num, by omega, HO5.out⟩
                  case measure => simp [intOf]; omega
              · obtain ⟨⟨v, hv4, ev⟩, hu⟩ := hok.virq h3
                have hno : seenE S D k v = false := seen_no fun m hm => by
                  by_cases e : (S.pt D m).k = 3 ∧ (S.pt D m).v = v
                  · have := hu m (by omega) e.1 (by rw [e.2, ev]); omega
                  · simp only [isVirqOf, Bool.and_eq_false_iff, decide_eq_false_iff_not]
                    by_cases e1 : (S.pt D m).k = 3
                    · exact .inr fun e2 => e ⟨e1, e2⟩
                    · exact .inl e1
                have HSn := hid (fun W (h : Lk w W X B S D k) => h.seen hv4 h3 ev)
                rw [h3, ev] at hP
                have HP := hid hP
                have HNo := hid hno
                have hv0 : (0 : Int) ≤ v := by omega
                have hv4' : (v : Int) < 4 := by omega
                clear hP hok h3 ev hu hno
                generalize (S.pt D k).r = q1 at *
                generalize (S.pt D k).p = q2 at *
                generalize (S.pt D k).pe = q4 at *
                generalize (S.pt D k).ma = q5 at *
                go_wp2_with (go_at_call 14; refine (HP.out _ HL.out.x).mono ?_; rintro e w4 ⟨rfl, g4⟩; have HO4 := hid ((HL.out.more g4).more (World.grownBy_alloc w4 (.cells #[.int .i64 3, .int .i64 q1, .int .i64 q2, .int .i64 v, .bool q4, .bool q5] 35) none)); have rb := HO4.out.row.cell hv4; simp only [HNo.out] at rb; have rf := HO4.out.row.frozen v; clear g4)
                all_goals
                  go_roundw
                  case rel => exact ⟨k + 1, by go_num, by omega, HSn.out _ HO4.out⟩
                  case measure => simp [intOf]; omega
            · obtain rfl : k = 32 := by omega
              have hge : (32 : Int) ≤ ((32 : Nat) : Int) := by omega
              clear hl
              go_wp2
              go_roundw
              case rel => exact ⟨D + 1, by go_num, by omega, HL.out.x, HL.out.g⟩
              case measure => simp [intOf]; omega
        · obtain rfl : D = 8 := by omega
          have hge : (8 : Int) ≤ ((8 : Nat) : Int) := by omega
          go_wp2_with (go_at_call 13; refine (eAwake _).mono ?_; rintro e w6 ⟨rfl, g6⟩; have HF := hid (HG.out.trans g6); clear g6)
          go_ret
          exact ⟨rfl, HF.out⟩
theorem main {H : Type} {enc : TypeId × Value → H} (v0 : Value) (W : World) (c0 : Flat.Came enc Try.prog W 0 (fun _ => true) true 22 v0) :
    Calls Try.prog 4 #[v0] W fun e w' => e = .returned (.bool true) ∧ W.grownBy w' none := by
  obtain ⟨po, os, co, rfl, hos, ho⟩ := open_eops c0
  exact walk po co os W ho hos
theorem own : ownKnob Try.prog.godebug = none := by kernel_rfl
theorem laidOut : laidOutB Try.prog = true := by kernel_rfl

set_option maxRecDepth 100000 in
theorem lifted (os : Os) (started : os.Started) (H : Type) (enc : TypeId × Value → H) :
    ReturnsInHanded {} Try.checked os 4 .any (Rows.eventPeersSpec.pre6 enc Try.prog Try.f4 Rows.eventPeersRow.domain false) (Rows.eventPeersSpec.post enc Try.prog Try.f4 false true false false) := by
  refine returnsInHanded_of_change_sized (C := Try.checked) own started (by kernel_rfl) Try.func4
    (ChangeSpec.witness6 (enc := enc) (C := Try.checked) false ⟨#[], #[.slice none 0 0], []⟩ 8 (by kernel_rfl) (by kernel_rfl) (by kernel_rfl) (by kernel_rfl)) ?_
  intro W base args ds gs before hval0 hW _ hsz0 _
  have hsz : (DataW.weightsEach Try.prog (Try.f4.params.toList ++ Rows.eventPeersSpec.plain.varTypes Try.prog) (ds ++ gs)).all (· ≤ reachBytes) = true := hsz0
  clear hsz0
  have hval : ∀ (j : Nat) t v, Try.f4.params[j]? = some t → args[j]? = some v → Value.okWide Try.prog W .any base t v := hval0
  have hW' := hW
  obtain ⟨p, q, hA0, hV, rfl, hfz, hnd⟩ := hW
  have hA : DataW.TrodAll enc Try.prog W 0 (fun _ => true) true Try.f4.params.toList args.toList ds p := hA0
  rw [Try.params4] at hA hval hsz
  obtain ⟨v0, vs0, d0, ds0, p0, q0, hargs, rfl, rfl, h0, r0⟩ := trodAll_cons hA
  obtain ⟨rfl, rfl, rfl⟩ := trodAll_nil r0
  obtain rfl : args = #[v0] := by cases args; simp_all
  obtain ⟨rfl, rfl⟩ := trodVars_none hV
  obtain ⟨ps0, ln0, cp0, rfl⟩ := okWide_slice Try.underlying22 (hval 0 22 v0 rfl rfl)
  have k0 := h0
  have lt0 : ∀ x ∈ p0, x.block < W.heap.size := by obtain ⟨m, hm⟩ := k0; exact DataW.trod_lt m _ _ _ hm
  have c0 : Flat.Came enc Try.prog W 0 (fun _ => true) true 22 (.slice ps0 ln0 cp0) := by
    obtain ⟨fuel, hf⟩ := h0
    exact ⟨fuel, _, hf, fun n hn => by
      have := List.all_eq_true.1 hsz n (DataW.weights_mem_each (j := 0) rfl rfl n hn)
      simpa using this⟩
  clear hA0 hval0
  refine (main (.slice ps0 ln0 cp0) W c0).mono fun e W' ⟨he, hg⟩ => ?_
  subst he
  have bel := below_grown' hg
  simp only [List.append_nil, List.nil_append] at hW'
  exact ⟨_, rfl, _, _, _, [], _, [], hW', trodAll_mk1 (shut_bool Try.underlying4 _), (trodAll_cons_mk (Below.trod laidOut (by kernel_rfl) (of_decide_eq_true (by kernel_rfl)) k0 bel lt0) trodAll_mk0), rfl, bel.frame _, fun h => by cases h⟩

theorem proved : Rows.EventPeersSaid :=
  OpenClaim.holds_of_wide 4 Try.f4 rfl rfl rfl rfl rfl rfl rfl ⟨rfl, rfl, rfl, rfl, rfl⟩ rfl rfl rfl rfl rfl (by kernel_rfl) Try.func4 (by kernel_rfl)
    (of_decide_eq_true (by kernel_rfl)) (by unfold Func.isWrapper; first | (rw [if_pos (by decide +kernel)]; kernel_rfl) | (rw [if_neg (by decide +kernel)]; exact ⟨rfl, rfl⟩))
    (fun os started H enc _ => lifted os started H enc)
#print axioms proved
end Go.Proofs.Ytjgikapoohibnaa.lawEvPeers
