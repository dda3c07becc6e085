/-
  PmapFills: for every two numbers the law returns true, and what was there stays. No condition.
-/
import Derived.Test.YtpickaoeaidihaaPmapD
import Derived.Test.YtpickaoeaidihaaOpen
import Derived.OpenShut
namespace Go.Proofs.Ytpickaoeaidihaa.lawPmapFills
open Go.ChangeShapes Go.WideShapes Go.ChangeAt Go.RowKit Gen
set_option maxHeartbeats 1000000

/-- the first k places filled in order -/
def fillM (s m : Nat) : Nat → Mp
  | 0 => Mp.empty s
  | k + 1 => (fillM s m k).set k (((m : Int) + k) % 256)
theorem fillM_n (s m k : Nat) : (fillM s m k).n = s := by
  induction k with
  | zero => rfl
  | succ k ih => exact ih
theorem fillM_fr (s m k : Nat) (g : Int) : (fillM s m k).fr g = if 0 ≤ g ∧ g < k then some (((m : Int) + g) % 256) else none := by
  induction k with
  | zero => rw [if_neg (by omega)]; rfl
  | succ k ih =>
    show (if g = (k : Int) then some (((m : Int) + k) % 256) else (fillM s m k).fr g) = _
    by_cases h : g = k
    · subst h; rw [if_pos rfl, if_pos (by omega)]
    · rw [if_neg h, ih]
      by_cases h1 : 0 ≤ g ∧ g < k
      · rw [if_pos h1, if_pos (by omega)]
      · rw [if_neg h1, if_neg (by omega)]
theorem fillM_at (s m k : Nat) {g : Nat} (h : g < k) : (fillM s m k).fr g = some (((m : Int) + g) % 256) := by rw [fillM_fr, if_pos (by omega)]
theorem fillM_off (s m k : Nat) {g : Int} (h : ¬ (0 ≤ g ∧ g < k)) : (fillM s m k).fr g = none := by rw [fillM_fr, if_neg h]
theorem fillM_pl {s m k : Nat} (hok : (fillM s m k).ok) (hs : s ≤ 48) (hk : k < s) : (fillM s m k).pl (((m : Int) + k) % 256) = none := by
  cases h : (fillM s m k).pl (((m : Int) + k) % 256) with
  | none => rfl
  | some g =>
    have h1 := (hok.inv _ _).2 h
    rw [fillM_fr] at h1
    split at h1
    · rename_i hg
      have := Option.some.inj h1
      omega
    · cases h1
theorem fillM_ok {s m : Nat} (hs : s ≤ 48) (k : Nat) (hk : k ≤ s) : (fillM s m k).ok := by
  induction k with
  | zero => exact Mp.empty_ok s hs
  | succ k ih =>
    have h := ih (by omega)
    exact Mp.set_ok h (by omega) (by rw [fillM_n]; omega) (by omega) (by omega) (fillM_off s m k (by omega)) (fillM_pl h hs hk)
theorem fillM_hole {s m k : Nat} (hk : k < s) : (fillM s m k).holeE = ((k : Int), 0) :=
  Mp.holeE_at (by rw [fillM_n]; exact hk) (fun j hj => by rw [fillM_at s m k hj]; rfl) (by rw [fillM_off s m k (by omega)]; rfl)
theorem fillM_full {s m : Nat} : (fillM s m s).holeE = (0, 6) :=
  Mp.holeE_none fun j hj => by rw [fillM_n] at hj; rw [fillM_at s m s hj]; rfl
theorem fillM_set {s m k : Nat} (hs : s ≤ 48) (hk : k < s) : (fillM s m k).setE k (((m : Int) + k) % 256) = (fillM s m (k + 1), 0) := by
  unfold Mp.setE
  rw [if_pos (by rw [fillM_n, Bool.and_eq_true, inPl_yes, inFr_yes]; omega), if_neg (by rw [fillM_off s m k (by omega)]; simp), if_neg (by rw [fillM_pl (fillM_ok hs k (by omega)) hs hk]; simp)]
  rfl
theorem fillM_list {s m : Nat} (k : Nat) (hk : k ≤ s) : (fillM s m s).listP k = (List.range k).map fun g : Nat => ((g : Int), ((m : Int) + g) % 256) := by
  induction k with
  | zero => rfl
  | succ k ih => rw [Mp.listP_some (fillM_at s m s hk), ih (by omega), List.range_succ, List.map_append]; rfl
theorem fillM_cells {s m : Nat} {W : World} {base : Nat} {v : Value} (h : W.ownsRow base 43 2 v ((fillM s m s).listP s).length (pcells ((fillM s m s).listP s))) {k : Nat} (hk : k < s) :
    ∃ g c, v = .slice (some ⟨g, 0, none⟩) s c ∧ W.cell? ⟨g, k * 2, none⟩ = some (.int .i64 k) ∧ W.cell? ⟨g, k * 2 + 1, none⟩ = some (.int .i64 (((m : Int) + k) % 256)) := by
  rw [fillM_list s (Nat.le_refl _)] at h
  have hl : ((List.range s).map fun g : Nat => ((g : Int), ((m : Int) + g) % 256)).length = s := by simp
  obtain ⟨e0, e1⟩ := pcells_get ((List.range s).map fun g : Nat => ((g : Int), ((m : Int) + g) % 256)) k (by rw [hl]; exact hk)
  obtain ⟨g, c, u, rfl, _, _, hu, hc⟩ := own_cell h (j := k * 2) (by rw [hl]; omega)
  obtain ⟨g', c', u', hv, _, _, hu', hc'⟩ := own_cell h (j := k * 2 + 1) (by rw [hl]; omega)
  cases hv
  rw [e0] at hu; rw [e1] at hu'
  cases hu; cases hu'
  refine ⟨g, c, by rw [hl], ?_, ?_⟩
  · rw [hc]; simp
  · rw [hc']; simp

set_option maxRecDepth 100000 in
theorem walk (n m s : Nat) (hn : n ≤ 255) (hm : m ≤ 255) (hs : (n : Int) % 49 = s) (w : World) : Calls Try.prog 7 #[.int .u8 n, .int .u8 m] w fun e w' => e = .returned (.bool true) ∧ w.grownBy w' none := by
  have hs48 : s ≤ 48 := by omega
  have hss : (s : Int) ≤ 48 := by omega
  have hs0 : (0 : Int) ≤ s := by omega
  go_enter Try.func7, Try.ntmps7
  go_wp2_with (go_at_call 8; refine (pNew_yes s _ hs48).mono ?_; rintro e w1 ⟨v, rfl, b, f, p, rfl, h1, g1, hf1⟩; have H1 := hid h1; have G1 := hid g1; have F1 := hid hf1; clear h1 g1 hf1)
  go_loopw [8] (fun i wr => ∃ k : Nat, i = .int .i64 k ∧ k ≤ s ∧ PMap wr b f p (fillM s m k) k ∧ w.grownBy wr none) (fun i _ => s - (intOf i).toNat)
  case atStart => exact ⟨0, rfl, by omega, H1.out, G1.out⟩
  case round =>
    obtain ⟨k, rfl, hk, hp, hg⟩ := hrel
    have HP := hid hp; have HG := hid hg
    clear hp hg H1 G1
    have hk0 : (0 : Int) ≤ k := by omega
    by_cases hlt : k < s
    · have hlt' : (k : Int) < s := by omega
      have EH := hid (fillM_hole (m := m) hlt)
      have ES := hid (fillM_set (m := m) hs48 hlt)
      have HI := hid (I64.of (n := (k : Int)) (by omega) (by omega))
      have HJ := hid (I64.of (n := ((m : Int) + k) % 256) (by omega) (by omega))
      have HT := hid (show k < maxLen by unfold maxLen; omega)
      have H48 := hid (show (fillM s m k).n ≤ 48 by rw [fillM_n]; exact hs48)
      go_wp2_with (first
        | (go_at_call 19; refine (pHole_yes b f p _ k _ HP.out H48.out).mono ?_; rw [EH.out]; rintro e w2 ⟨rfl, rfl⟩)
        | (go_at_call 15; refine (pSet_yes b f p _ k k (((m : Int) + k) % 256) HI.out HJ.out HT.out _ HP.out).mono ?_; rw [ES.out]; rintro e w3 ⟨rfl, hl⟩; have HL := hid hl; clear hl))
      go_roundw
      case rel => exact ⟨k + 1, by go_num, by omega, HL.out.map, HL.out.chg.grown HG.out F1.out⟩
      case measure => simp [intOf]; omega
    · obtain rfl : k = s := by omega
      have hge : (k : Int) ≤ k := by omega
      have EF := hid (fillM_full (s := k) (m := m))
      have EN := hid (fillM_n k m k)
      have H48 := hid (show (fillM k m k).n ≤ 48 by rw [fillM_n]; exact hs48)
      have EL := hid (show ((fillM k m k).listP k).length = k by rw [fillM_list k (Nat.le_refl _)]; simp)
      go_wp2_with (first
        | (go_at_call 19; refine (pHole_yes b f p _ k _ HP.out H48.out).mono ?_; rw [EF.out]; rintro e w2 ⟨rfl, rfl⟩)
        | (go_at_call 16; refine (pList_yes b f p _ k _ HP.out H48.out).mono ?_; rw [EN.out]; rintro e w3 ⟨v, rfl, hl⟩; obtain ⟨pv, cv, hv⟩ := ownsRow_slice hl.1; have HL := hid hl.1; have HG3 := hid (HG.out.trans hl.2); clear hl; rw [EL.out] at hv; subst hv))
      go_loop [14] (fun i => ∃ j : Nat, i = .int .i64 j ∧ j ≤ k) (fun i => k - (intOf i).toNat)
      case atStart => exact ⟨0, rfl, by omega⟩
      case round =>
        obtain ⟨j, rfl, hj⟩ := hrel
        have hj0 : (0 : Int) ≤ j := by omega
        by_cases hjl : j < k
        · have hjl' : (j : Int) < k := by omega
          obtain ⟨g, c, hv, hc0, hc1⟩ := fillM_cells HL.out hjl
          cases hv
          go_wp2
          go_round
          case rel => exact ⟨j + 1, by go_num, by omega⟩
          case measure => simp [intOf]; omega
        · obtain rfl : j = k := by omega
          have hge : (j : Int) ≤ j := by omega
          go_wp2
          go_ret
          exact ⟨by simp, HG3.out⟩
theorem main {H : Type} {enc : TypeId × Value → H} (v0 v1 : Value) (W : World) (c0 : Flat.Came enc Try.prog W 0 (fun _ => true) true 5 v0) (c1 : Flat.Came enc Try.prog W 0 (fun _ => true) true 5 v1) :
    Calls Try.prog 7 #[v0, v1] W fun e w' => e = .returned (.bool true) ∧ W.grownBy w' none := by
  obtain ⟨a, rfl, h0⟩ := c0.int Try.underlying5
  obtain ⟨b, rfl, h1⟩ := c1.int Try.underlying5
  obtain ⟨a0, a1⟩ := bounds_u8 h0
  obtain ⟨b0, b1⟩ := bounds_u8 h1
  obtain ⟨n, rfl⟩ := Int.eq_ofNat_of_zero_le a0
  obtain ⟨m, rfl⟩ := Int.eq_ofNat_of_zero_le b0
  exact walk n m (n % 49) (by omega) (by omega) (by omega) W

theorem own : ownKnob Try.prog.godebug = none := by kernel_rfl
theorem laidOut : laidOutB Try.prog = true := by kernel_rfl

set_option maxRecDepth 100000 in
theorem lifted (os : Os) (started : os.Started) (H : Type) (enc : TypeId × Value → H) :
    ReturnsInHanded {} Try.checked os 7 .any (Rows.pmapFillsSpec.pre6 enc Try.prog Try.f7 Rows.pmapFillsRow.domain false) (Rows.pmapFillsSpec.post enc Try.prog Try.f7 false true false false) := by
  refine returnsInHanded_of_change_sized (C := Try.checked) own started (by kernel_rfl) Try.func7
    (ChangeSpec.witness6 (enc := enc) (C := Try.checked) false ⟨#[], #[.int .u8 0, .int .u8 0], []⟩ 8 (by kernel_rfl) (by kernel_rfl) (by kernel_rfl) (by kernel_rfl)) ?_
  intro W base args ds gs before hval0 hW _ hsz0 _
  have hsz : (DataW.weightsEach Try.prog (Try.f7.params.toList ++ Rows.pmapFillsSpec.plain.varTypes Try.prog) (ds ++ gs)).all (· ≤ reachBytes) = true := hsz0
  clear hsz0
  have hval : ∀ (j : Nat) t v, Try.f7.params[j]? = some t → args[j]? = some v → Value.okWide Try.prog W .any base t v := hval0
  have hW' := hW
  obtain ⟨p, q, hA0, hV, rfl, hfz, hnd⟩ := hW
  have hA : DataW.TrodAll enc Try.prog W 0 (fun _ => true) true Try.f7.params.toList args.toList ds p := hA0
  rw [Try.params7] at hA hval hsz
  obtain ⟨v0, vs0, d0, ds0, p0, q0, hargs, rfl, rfl, h0, r0⟩ := trodAll_cons hA
  obtain ⟨v1, vs1, d1, ds1, p1, q1, rfl, rfl, rfl, h1, r1⟩ := trodAll_cons r0
  obtain ⟨rfl, rfl, rfl⟩ := trodAll_nil r1
  obtain rfl : args = #[v0, v1] := by cases args; simp_all
  obtain ⟨rfl, rfl⟩ := trodVars_none hV
  obtain ⟨a0, rfl, rfl, rfl, w0⟩ := open_int Try.underlying5 (hval 0 5 v0 rfl rfl) h0
  have k0 := h0
  have lt0 : ∀ x ∈ ([] : List MemPlace), x.block < W.heap.size := by obtain ⟨m, hm⟩ := k0; exact DataW.trod_lt m _ _ _ hm
  have c0 : Flat.Came enc Try.prog W 0 (fun _ => true) true 5 (.int .u8 a0) := by
    obtain ⟨fuel, hf⟩ := h0
    exact ⟨fuel, _, hf, fun n hn => by
      have := List.all_eq_true.1 hsz n (DataW.weights_mem_each (j := 0) rfl rfl n hn)
      simpa using this⟩
  obtain ⟨a1, rfl, rfl, rfl, w1⟩ := open_int Try.underlying5 (hval 1 5 v1 rfl rfl) h1
  have k1 := h1
  have lt1 : ∀ x ∈ ([] : List MemPlace), x.block < W.heap.size := by obtain ⟨m, hm⟩ := k1; exact DataW.trod_lt m _ _ _ hm
  have c1 : Flat.Came enc Try.prog W 0 (fun _ => true) true 5 (.int .u8 a1) := by
    obtain ⟨fuel, hf⟩ := h1
    exact ⟨fuel, _, hf, fun n hn => by
      have := List.all_eq_true.1 hsz n (DataW.weights_mem_each (j := 1) rfl rfl n hn)
      simpa using this⟩
  clear hA0 hval0
  refine (main (.int .u8 a0) (.int .u8 a1) W c0 c1).mono fun e W' ⟨he, hg⟩ => ?_
  subst he
  have bel := below_grown hg
  simp only [List.append_nil, List.nil_append] at hW'
  exact ⟨_, rfl, _, _, _, [], _, [], hW', trodAll_mk1 (shut_bool Try.underlying4 _), (trodAll_cons_mk (Below.trod laidOut (by kernel_rfl) (of_decide_eq_true (by kernel_rfl)) k0 bel lt0) (trodAll_cons_mk (Below.trod laidOut (by kernel_rfl) (of_decide_eq_true (by kernel_rfl)) k1 bel lt1) trodAll_mk0)), rfl, bel.frame _, fun h => by cases h⟩

theorem proved : Rows.PmapFillsSaid :=
  OpenClaim.holds_of_wide 7 Try.f7 rfl rfl rfl rfl rfl rfl rfl ⟨rfl, rfl, rfl, rfl, rfl⟩ rfl rfl rfl rfl rfl (by kernel_rfl) Try.func7 (by kernel_rfl)
    (of_decide_eq_true (by kernel_rfl)) (by unfold Func.isWrapper; first | (rw [if_pos (by decide +kernel)]; kernel_rfl) | (rw [if_neg (by decide +kernel)]; exact ⟨rfl, rfl⟩))
    (fun os started H enc _ => lifted os started H enc)
#print axioms proved
end Go.Proofs.Ytpickaoeaidihaa.lawPmapFills
