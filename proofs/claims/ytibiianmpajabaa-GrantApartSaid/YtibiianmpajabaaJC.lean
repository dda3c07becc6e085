/-
  Package tenementref03: its map in blocks, by the model of package p2m; contracts of Get, Find, Hole, List, Set, Clear.
-/
import Derived.Test.YtibiianmpajabaaJB
import Derived.Laws.AppendOwnNone
set_option linter.unusedSimpArgs false
set_option linter.unusedVariables false
namespace Go.Proofs.Ytibiianmpajabaa
open Go.RowKit Gen
set_option maxHeartbeats 400000

def lv (M : Mp) (k : Nat) : Value := .int .i64 ((M.fr (k : Int)).getD (-1))
/-- where the row of a map of the reference lies -/
structure RL where
  pa : Option Addr
  cap : Nat
  g : Nat
/-- block b is the map M of package tenementref03 -/
structure RMap (w : World) (b : Nat) (L : RL) (M : Mp) : Prop where
  top : Row w b 171 1 (fun _ => .slice L.pa M.n L.cap)
  lt : L.g < w.heap.size
  row : 1 ≤ M.n → L.pa = some ⟨L.g, 0, none⟩ ∧ Row w L.g 3 M.n (lv M)
  cap : M.n ≤ L.cap
  nil : L.pa = none → L.cap = 0
def rfoot (b : Nat) (L : RL) (k : Nat) : Prop := k = b ∨ k = L.g
section
variable {w w' : World} {b : Nat} {L : RL} {M : Mp}
theorem RMap.c0 (h : RMap w b L M) : w.cell? ⟨b, 0, none⟩ = some (.slice L.pa M.n L.cap) := h.top.cell (k := 0) (by omega)
theorem RMap.chg {S : Nat → Prop} (h : RMap w b L M) (hc : Chg S w w') (hS : ∀ k, rfoot b L k → ¬ S k) : RMap w' b L M :=
  ⟨h.top.chg hc (hS _ (.inl rfl)), Nat.lt_of_lt_of_le h.lt hc.size, fun h1 => ⟨(h.row h1).1, (h.row h1).2.chg hc (hS _ (.inr rfl))⟩, h.cap, h.nil⟩
theorem RMap.grown (h : RMap w b L M) (hg : w.grownBy w' none) : RMap w' b L M := h.chg (S := fun _ => False) (Chg.of0 hg) fun _ _ e => e
theorem RMap.lt_foot (h : RMap w b L M) {k : Nat} (hk : rfoot b L k) : k < w.heap.size := by
  rcases hk with rfl | rfl
  · exact h.top.lt
  · exact h.lt
theorem RMap.at_ (h : RMap w b L M) {k : Nat} (hk : k < M.n) : L.pa = some ⟨L.g, 0, none⟩ ∧ w.cell? ⟨L.g, k, none⟩ = some (.int .i64 ((M.fr (k : Int)).getD (-1))) ∧ b ≠ L.g :=
  ⟨(h.row (by omega)).1, (h.row (by omega)).2.cell hk, h.top.type_ne (h.row (by omega)).2 (by decide)⟩
theorem RMap.set (h : RMap w b L M) {k : Nat} (hk : k < M.n) {M' : Mp} {z : Int} (hn : M'.n = M.n) (hz : (M'.fr (k : Int)).getD (-1) = z) (ho : ∀ j : Nat, j ≠ k → M'.fr (j : Int) = M.fr (j : Int)) : RMap (w.setCell ⟨L.g, k, none⟩ (.int .i64 z)) b L M' := by
  obtain ⟨_, _, hne⟩ := h.at_ hk
  refine ⟨?_, by simpa using h.lt, fun h1 => ?_, by rw [hn]; exact h.cap, h.nil⟩
  · rw [hn]; exact h.top.setOther _ hne _
  · obtain ⟨e, r⟩ := h.row (by omega)
    refine ⟨e, ?_⟩
    rw [hn]
    exact r.set (by simp [lv, hz]) fun j _ hj => by simp [lv, ho j hj]
end
theorem Mp.ok.fr_ge {M : Mp} (h : M.ok) {g m : Int} (hf : M.fr g = some m) : 0 ≤ m ∧ m < 256 := (h.dom g m hf).2.2
theorem Mp.nat_of {M : Mp} {g : Int} (h : inPl M.n g = true) : ∃ k : Nat, g = k ∧ k < M.n := by
  obtain ⟨h0, h1⟩ := inPl_yes.1 h
  obtain ⟨k, rfl⟩ := Int.eq_ofNat_of_zero_le h0
  exact ⟨k, rfl, by omega⟩

/-- Get -/
theorem r3Get (b : Nat) (L : RL) (M : Mp) (g : Int) (w : World) (h : RMap w b L M) (hok : M.ok) :
    Calls Try.prog 92 #[.pointer (some ⟨b, 0, none⟩), .int .i64 g] w fun e w' => e = .returned (.tuple #[.int .i64 (M.getE g).1, .int .i64 (M.getE g).2]) ∧ w = w' := by
  have c0 := h.c0
  have hn48 : (M.n : Int) ≤ 48 := by have := hok.n48; omega
  rcases M.getE_cases g with ⟨m, hp, hf, e1, _⟩ | ⟨hp, hf, e1, _⟩ | ⟨hp, e1, _⟩
  · obtain ⟨k, rfl, hk⟩ := Mp.nat_of hp
    obtain ⟨hpa, hc, _⟩ := h.at_ hk
    rw [hf] at hc
    rw [hpa] at c0
    obtain ⟨h0, _⟩ := hok.fr_ge hf
    have HV := hid e1
    have hk' : (k : Int) < M.n := by omega
    have hk0 : (0 : Int) ≤ k := by omega
    simp only [Option.getD_some] at hc
    clear h hok hp hf e1 hpa
    rw [HV.out]
    go_enter Try.func92, Try.ntmps92
    go_wp2
    go_ret2
    exact ⟨rfl, rfl⟩
  · obtain ⟨k, rfl, hk⟩ := Mp.nat_of hp
    obtain ⟨hpa, hc, _⟩ := h.at_ hk
    rw [hf] at hc
    rw [hpa] at c0
    have HV := hid e1
    have hk' : (k : Int) < M.n := by omega
    have hk0 : (0 : Int) ≤ k := by omega
    simp only [Option.getD_none] at hc
    clear h hok hp hf e1 hpa
    rw [HV.out]
    go_enter Try.func92, Try.ntmps92
    go_wp2
    go_ret2
    exact ⟨rfl, rfl⟩
  · have hp := inPl_no hp
    have HV := hid e1
    rw [HV.out]
    clear h hok e1
    by_cases h0 : g < 0
    · clear hp
      go_enter Try.func92, Try.ntmps92
      go_wp2
      go_ret2
      exact ⟨rfl, rfl⟩
    · have h1 : (M.n : Int) ≤ g := by omega
      clear hp
      go_enter Try.func92, Try.ntmps92
      go_wp2
      go_ret2
      exact ⟨rfl, rfl⟩
/-- Find -/
theorem Mp.findE_at {M : Mp} (hok : M.ok) {g m : Int} (hf : M.fr g = some m) : M.findE m = (g, 0) := by unfold Mp.findE; rw [(hok.inv _ _).1 hf]
theorem Mp.findE_none {M : Mp} (hok : M.ok) {m : Int} (h : ∀ j : Nat, j < M.n → M.fr j ≠ some m) : M.findE m = (0, 6) := by
  unfold Mp.findE
  cases hp : M.pl m with
  | none => rfl
  | some g =>
    have hf := (hok.inv _ _).2 hp
    obtain ⟨h0, h1, _⟩ := hok.dom _ _ hf
    obtain ⟨k, rfl⟩ := Int.eq_ofNat_of_zero_le h0
    exact absurd hf (h k (by omega))
theorem rFind (b : Nat) (L : RL) (M : Mp) (m : Int) (w : World) (h : RMap w b L M) (hok : M.ok) :
    Calls Try.prog 94 #[.pointer (some ⟨b, 0, none⟩), .int .i64 m] w fun e w' => e = .returned (.tuple #[.int .i64 (M.findE m).1, .int .i64 (M.findE m).2]) ∧ w = w' := by
  have c0 := h.c0
  have hn48 : (M.n : Int) ≤ 48 := by have := hok.n48; omega
  have HH := hid h
  have HOk := hid hok
  clear h hok
  go_enter Try.func94, Try.ntmps94
  go_wp2
  go_loop [6] (fun i => ∃ k : Nat, i = .int .i64 k ∧ k ≤ M.n ∧ ∀ j : Nat, j < k → M.fr j ≠ some m) (fun i => M.n - (intOf i).toNat)
  case atStart => exact ⟨0, rfl, by omega, fun j hj => by omega⟩
  case round =>
    obtain ⟨k, rfl, hk, hb⟩ := hrel
    have HB := hid hb
    clear hb
    have hk0 : (0 : Int) ≤ k := by omega
    by_cases hlt : k < M.n
    · have hlt' : (k : Int) < M.n := by omega
      obtain ⟨hpa, hc, _⟩ := HH.out.at_ hlt
      rw [hpa] at c0
      clear hpa
      cases hf : M.fr k with
      | none =>
        rw [hf] at hc
        simp only [Option.getD_none] at hc
        have HF := hid hf
        clear hf
        go_wp2
        go_round
        case rel => exact ⟨k + 1, by go_num, by omega, fun j hj => by
          by_cases e : j = k
          · subst e; rw [HF.out]; simp
          · exact HB.out j (by omega)⟩
        case measure => simp [intOf]; omega
      | some x =>
        rw [hf] at hc
        simp only [Option.getD_some] at hc
        obtain ⟨hx0, _⟩ := HOk.out.fr_ge hf
        by_cases hx : x = m
        · subst hx
          have HF := hid (Mp.findE_at HOk.out hf)
          clear hf
          go_wp2
          go_ret2
          rw [HF.out]
          exact ⟨rfl, rfl⟩
        · have hxb : (x == m) = false := by simp [hx]
          have HF := hid hf
          have HX := hid hx
          clear hf hx
          go_wp2
          go_round
          case rel => exact ⟨k + 1, by go_num, by omega, fun j hj => by
            by_cases e : j = k
            · subst e; rw [HF.out]; exact fun e => HX.out (Option.some.inj e)
            · exact HB.out j (by omega)⟩
          case measure => simp [intOf]; omega
    · have hge : (M.n : Int) ≤ k := by omega
      have HF := hid (Mp.findE_none HOk.out (m := m) fun j hj => HB.out j (by omega))
      go_wp2
      go_ret2
      rw [HF.out]
      exact ⟨rfl, rfl⟩
/-- Hole -/
theorem rHole (b : Nat) (L : RL) (M : Mp) (w : World) (h : RMap w b L M) (hok : M.ok) :
    Calls Try.prog 96 #[.pointer (some ⟨b, 0, none⟩)] w fun e w' => e = .returned (.tuple #[.int .i64 M.holeE.1, .int .i64 M.holeE.2]) ∧ w = w' := by
  have c0 := h.c0
  have hn48 : (M.n : Int) ≤ 48 := by have := hok.n48; omega
  have HH := hid h
  have HOk := hid hok
  clear h hok
  go_enter Try.func96, Try.ntmps96
  go_wp2
  go_loop [4] (fun i => ∃ k : Nat, i = .int .i64 k ∧ k ≤ M.n ∧ ∀ j : Nat, j < k → (M.fr j).isSome = true) (fun i => M.n - (intOf i).toNat)
  case atStart => exact ⟨0, rfl, by omega, fun j hj => by omega⟩
  case round =>
    obtain ⟨k, rfl, hk, hb⟩ := hrel
    have HB := hid hb
    clear hb
    have hk0 : (0 : Int) ≤ k := by omega
    by_cases hlt : k < M.n
    · have hlt' : (k : Int) < M.n := by omega
      obtain ⟨hpa, hc, _⟩ := HH.out.at_ hlt
      rw [hpa] at c0
      clear hpa
      cases hf : M.fr k with
      | none =>
        rw [hf] at hc
        simp only [Option.getD_none] at hc
        have HF := hid (Mp.holeE_at hlt HB.out (by rw [hf]; rfl))
        clear hf
        go_wp2
        go_ret2
        rw [HF.out]
        exact ⟨rfl, rfl⟩
      | some x =>
        rw [hf] at hc
        simp only [Option.getD_some] at hc
        obtain ⟨hx0, _⟩ := HOk.out.fr_ge hf
        have HF := hid hf
        clear hf
        go_wp2
        go_round
        case rel => exact ⟨k + 1, by go_num, by omega, fun j hj => by
          by_cases e : j = k
          · subst e; rw [HF.out]; rfl
          · exact HB.out j (by omega)⟩
        case measure => simp [intOf]; omega
    · have hge : (M.n : Int) ≤ k := by omega
      have HF := hid (Mp.holeE_none (M := M) fun j hj => HB.out j (by omega))
      go_wp2
      go_ret2
      rw [HF.out]
      exact ⟨rfl, rfl⟩
set_option maxRecDepth 100000 in
theorem rList (b : Nat) (L : RL) (M : Mp) (w : World) (h : RMap w b L M) (hok : M.ok) :
    Calls Try.prog 100 #[.pointer (some ⟨b, 0, none⟩)] w fun e w' => ∃ v, e = .returned v ∧ NewPairs w (M.listP M.n) v w' := by
  obtain ⟨i0, hi, hz0, hz1, hz2⟩ := info_parts info_pair
  have Hi := hid hi; have Hz0 := hid hz0; have Hz1 := hid hz1; have Hz2 := hid hz2
  clear hi hz0 hz1 hz2
  have hn48 : (M.n : Int) ≤ 48 := by have := hok.n48; omega
  have HH := hid h
  have HOk := hid hok
  clear h hok
  go_enter Try.func100, Try.ntmps100
  go_wp2
  go_loopw [3, 4] (fun v i wr => ∃ k : Nat, i = .int .i64 k ∧ k ≤ M.n ∧ wr.ownsRow w.heap.size 220 2 v (M.listP k).length (pcells (M.listP k)) ∧ w.grownBy wr none) (fun _ i _ => M.n - (intOf i).toNat)
  case atStart => exact ⟨0, rfl, by omega, World.ownsRow_nil _ _ _ _, grownBy_refl _ _⟩
  case round =>
    obtain ⟨k, rfl, hk, hrow, hg⟩ := hrel
    obtain ⟨pv, cv, hv⟩ := ownsRow_slice hrow
    have HO := hid hrow
    have HG := hid hg
    have HW := hid (HH.out.grown hg)
    clear hrow hg
    subst hv
    have c0 := HW.out.c0
    have hk0 : (0 : Int) ≤ k := by omega
    by_cases hlt : k < M.n
    · have hlt' : (k : Int) < M.n := by omega
      obtain ⟨hpa, hc, _⟩ := HW.out.at_ hlt
      rw [hpa] at c0
      clear hpa
      cases hf : M.fr k with
      | none =>
        rw [hf] at hc
        simp only [Option.getD_none] at hc
        have e3 := hid (Mp.listP_none hf)
        clear hf
        go_wp2
        go_roundw
        case rel => exact ⟨k + 1, by go_num, by omega, by rw [e3.out]; exact HO.out, HG.out⟩
        case measure => simp [intOf]; omega
      | some m =>
        rw [hf] at hc
        simp only [Option.getD_some] at hc
        obtain ⟨hx0, _⟩ := HOk.out.fr_ge hf
        have e3 := hid (Mp.listP_some hf)
        have hl := M.listP_len k
        clear hf
        go_wp2_with (at_builtin; refine wpList_append_own _ rfl _ _ 176 rfl w.heap.size 220 i0 (.agg #[.int .i64 0, .int .i64 0]) 2 16 Try.underlying176 Hi.out Hz0.out Hz1.out Hz2.out rfl (by decide) _ _ _ rfl (HO.out.alloc _) ⟨wr.heap.size, 0, none⟩ 1 1 [.int .i64 k, .int .i64 m] rfl rfl (World.news_of_block (heap_alloc_new wr _)) (by simp [Value.oneCell']) (by unfold maxLen; omega) (by omega) (by have := HG.out.size; simp; omega) ?_; intro v' w1 hown' hgrow hnil; clear hnil; have HO1 := hid hown'; have HG1 := hid ((HG.out.trans (World.grownBy_alloc wr _ none)).andThen hgrow (fun j hj => .inl (HO.out.lt j hj).1)); clear hown' hgrow)
        go_roundw
        case rel => exact ⟨k + 1, by go_num, by omega, by rw [e3.out, pcells_app, List.length_append]; exact HO1.out, HG1.out⟩
        case measure => simp [intOf]; omega
    · obtain rfl : k = M.n := by omega
      have hge : (M.n : Int) ≤ M.n := by omega
      go_wp2
      go_ret
      exact ⟨_, rfl, HO.out, HG.out⟩
end Go.Proofs.Ytibiianmpajabaa

/-
  Package tenementref03: contracts of Set, Clear, New, Copy.
-/
set_option linter.unusedSimpArgs false
set_option linter.unusedVariables false
namespace Go.Proofs.Ytibiianmpajabaa
open Go.RowKit Gen
set_option maxHeartbeats 400000

/-- Set -/
theorem rSet (b : Nat) (L : RL) (M : Mp) (g m : Int) (w : World) (h : RMap w b L M) (hok : M.ok) :
    Calls Try.prog 90 #[.pointer (some ⟨b, 0, none⟩), .int .i64 g, .int .i64 m] w fun e w' => e = .returned (.int .i64 (M.setE g m).2) ∧ RMap w' b L (M.setE g m).1 ∧ Chg (rfoot b L) w w' := by
  have c0 := h.c0
  have hn48 : (M.n : Int) ≤ 48 := by have := hok.n48; omega
  have HH := hid h
  have HOk := hid hok
  clear h hok
  cases hp : inPl M.n g with
  | false =>
    have hp' := inPl_no hp
    have HV := hid (show M.setE g m = (M, 1) by unfold Mp.setE; rw [hp]; rfl)
    rw [HV.out]
    by_cases h0 : g < 0
    · clear hp'
      go_enter Try.func90, Try.ntmps90
      go_wp2
      go_ret
      exact ⟨rfl, HH.out, Chg.refl _ _⟩
    · have h1 : (M.n : Int) ≤ g := by omega
      clear hp'
      go_enter Try.func90, Try.ntmps90
      go_wp2
      go_ret
      exact ⟨rfl, HH.out, Chg.refl _ _⟩
  | true =>
  obtain ⟨k, rfl, hk⟩ := Mp.nat_of hp
  have hk' : (k : Int) < M.n := by omega
  have hk0 : (0 : Int) ≤ k := by omega
  cases hq : inFr m with
  | false =>
    have HV := hid (show M.setE k m = (M, 1) by unfold Mp.setE; rw [hp, hq]; rfl)
    have hq' : ¬ (0 ≤ m ∧ m < 256) := fun h => by rw [inFr_yes.2 h] at hq; cases hq
    rw [HV.out]
    clear hp hq
    by_cases h0 : m < 0
    · clear hq'
      go_enter Try.func90, Try.ntmps90
      go_wp2
      go_ret
      exact ⟨rfl, HH.out, Chg.refl _ _⟩
    · have h1 : 256 ≤ m := by omega
      clear hq'
      go_enter Try.func90, Try.ntmps90
      go_wp2
      go_ret
      exact ⟨rfl, HH.out, Chg.refl _ _⟩
  | true =>
  obtain ⟨hm0, hm1⟩ := inFr_yes.1 hq
  obtain ⟨hpa, hc, hne⟩ := HH.out.at_ hk
  rw [hpa] at c0
  cases hf : M.fr k with
  | some x =>
    have HV := hid (show M.setE k m = (M, 30) by unfold Mp.setE; rw [hp, hq, hf]; rfl)
    rw [hf] at hc
    simp only [Option.getD_some] at hc
    obtain ⟨hx0, _⟩ := HOk.out.fr_ge hf
    rw [HV.out]
    clear hp hq hf hpa
    go_enter Try.func90, Try.ntmps90
    go_wp2
    go_ret
    exact ⟨rfl, HH.out, Chg.refl _ _⟩
  | none =>
  rw [hf] at hc
  simp only [Option.getD_none] at hc
  cases hl : M.pl m with
  | some x =>
    have HV := hid (show M.setE k m = (M, 8) by unfold Mp.setE; rw [hp, hq, hf, hl]; rfl)
    have HF := hid (show M.findE m = (x, 0) by unfold Mp.findE; rw [hl])
    rw [HV.out]
    clear hp hq hf hl hpa
    go_enter Try.func90, Try.ntmps90
    go_wp2_with (go_at_call 94; refine (rFind b L M m _ HH.out HOk.out).mono ?_; rw [HF.out]; rintro e w1 ⟨rfl, rfl⟩)
    go_ret
    exact ⟨rfl, HH.out, Chg.refl _ _⟩
  | none =>
    have HV := hid (show M.setE k m = (M.set k m, 0) by unfold Mp.setE; rw [hp, hq, hf, hl]; rfl)
    have HF := hid (show M.findE m = (0, 6) by unfold Mp.findE; rw [hl])
    have fz := (HH.out.row (by omega)).2.frozen k
    have HS := hid (HH.out.set hk (M' := M.set k m) (z := m) rfl (by simp [Mp.set]) (fun j hj => by show (if (j : Int) = k then _ else _) = _; rw [if_neg (by omega)]))
    rw [HV.out]
    clear hp hq hf hl hpa
    go_enter Try.func90, Try.ntmps90
    go_wp2_with (go_at_call 94; refine (rFind b L M m _ HH.out HOk.out).mono ?_; rw [HF.out]; rintro e w1 ⟨rfl, rfl⟩)
    go_ret
    exact ⟨rfl, HS.out, Chg.one (grownBy_setCell _ _ _ _ _) (.inr rfl)⟩
/-- Clear -/
theorem rClear (b : Nat) (L : RL) (M : Mp) (g : Int) (w : World) (h : RMap w b L M) (hok : M.ok) :
    Calls Try.prog 91 #[.pointer (some ⟨b, 0, none⟩), .int .i64 g] w fun e w' => e = .returned (.tuple #[.int .i64 (M.clearE g).2.1, .int .i64 (M.clearE g).2.2]) ∧ RMap w' b L (M.clearE g).1 ∧ Chg (rfoot b L) w w' := by
  have c0 := h.c0
  have hn48 : (M.n : Int) ≤ 48 := by have := hok.n48; omega
  have HH := hid h
  have HOk := hid hok
  clear h hok
  rcases M.getE_cases g with ⟨m, hp, hf, e1, e2⟩ | ⟨_, _, e1, e2⟩ | ⟨_, e1, e2⟩
  · obtain ⟨k, rfl, hk⟩ := Mp.nat_of hp
    have hk' : (k : Int) < M.n := by omega
    have hk0 : (0 : Int) ≤ k := by omega
    obtain ⟨hpa, hc, hne⟩ := HH.out.at_ hk
    rw [hpa] at c0
    have fz := (HH.out.row (by omega)).2.frozen k
    have HS := hid (HH.out.set hk (M' := M.clr k m) (z := -1) rfl (by simp [Mp.clr]) (fun j hj => by show (if (j : Int) = k then _ else _) = _; rw [if_neg (by omega)]))
    have HV := hid e2
    have HU := hid e1
    rw [HV.out]
    clear hp hf hpa e1 e2
    go_enter Try.func91, Try.ntmps91
    go_wp2_with (go_at_call 92; refine (r3Get b L M k _ HH.out HOk.out).mono ?_; rw [HU.out]; rintro e w1 ⟨rfl, rfl⟩)
    go_ret2
    exact ⟨rfl, HS.out, Chg.one (grownBy_setCell _ _ _ _ _) (.inr rfl)⟩
  · have HV := hid e2
    have HU := hid e1
    rw [HV.out]
    clear e1 e2
    go_enter Try.func91, Try.ntmps91
    go_wp2_with (go_at_call 92; refine (r3Get b L M g _ HH.out HOk.out).mono ?_; rw [HU.out]; rintro e w1 ⟨rfl, rfl⟩)
    go_ret2
    exact ⟨rfl, HH.out, Chg.refl _ _⟩
  · have HV := hid e2
    have HU := hid e1
    rw [HV.out]
    clear e1 e2
    go_enter Try.func91, Try.ntmps91
    go_wp2_with (go_at_call 92; refine (r3Get b L M g _ HH.out HOk.out).mono ?_; rw [HU.out]; rintro e w1 ⟨rfl, rfl⟩)
    go_ret2
    exact ⟨rfl, HH.out, Chg.refl _ _⟩
/-- New -/
def NewR (w : World) (M : Mp) (v : Value) (w' : World) : Prop := ∃ b L, v = .pointer (some ⟨b, 0, none⟩) ∧ RMap w' b L M ∧ w.grownBy w' none ∧ ∀ k, rfoot b L k → w.heap.size ≤ k
theorem newR_of {w W : World} {b base n : Nat} {v : Value} {M : Mp} {xs : List Value} (ht : Row W b 171 1 (fun _ => v)) (ho : W.ownsRow base 3 1 v M.n xs) (hx : ∀ k, k < M.n → xs[k]? = some (lv M k)) (hb : w.heap.size ≤ b) (hb2 : w.heap.size ≤ base) (hg : w.grownBy W none) :
    NewR w M (.pointer (some ⟨b, 0, none⟩)) W := by
  obtain ⟨pa, cap, rfl⟩ := ownsRow_slice ho
  have hnil : pa = none → cap = 0 := fun e => by
    rcases ho.2 with ⟨e', _⟩ | ⟨g', cap', cur, e', _⟩
    · injection e' with _ _ h3
    · injection e' with h1; rw [e] at h1; cases h1
  by_cases h0 : M.n = 0
  · refine ⟨b, ⟨pa, cap, b⟩, rfl, ⟨ht, ht.lt, fun h => by omega, by omega, hnil⟩, hg, fun k hk => by rcases hk with rfl | rfl <;> exact hb⟩
  · obtain ⟨q, hq⟩ : ∃ q, M.n = q + 1 := ⟨M.n - 1, by omega⟩
    have ho' := ho
    rw [hq] at ho'
    obtain ⟨g, c, e, hbg, hr⟩ := ownsRow_row ho'
    rw [← hq] at e
    cases e
    have hcap : M.n ≤ cap := by
      rcases ho.2 with ⟨e, _⟩ | ⟨g', cap', cur, e, _, _, hn, _⟩
      · cases e
      · cases e; exact hn
    refine ⟨b, ⟨some ⟨g, 0, none⟩, cap, g⟩, rfl, ⟨ht, hr.lt, fun _ => ⟨rfl, ?_⟩, hcap, fun e => by cases e⟩, hg, fun k hk => by rcases hk with rfl | rfl <;> omega⟩
    rw [← hq, Nat.mul_one] at hr
    exact hr.congr fun k hk => by simp [List.getD, hx k hk]
theorem info_int3 : (Try.prog.info? 3).map (fun i => (i.zero, i.size, i.bytes)) = some (some (.int .i64 0), 1, 8) := by kernel_rfl
theorem r3New_no (n : Int) (w : World) (h : n < 0 ∨ 48 < n) : Calls Try.prog 29 #[.int .i64 n] w fun e w' => e = .returned (.tuple #[.pointer none, .int .i64 1]) ∧ w = w' := by
  by_cases h0 : n < 0
  · clear h
    go_enter Try.func29, Try.ntmps29
    go_wp2
    go_ret2
    exact ⟨rfl, rfl⟩
  · have h1 : 48 < n := by omega
    clear h
    go_enter Try.func29, Try.ntmps29
    go_wp2
    go_ret2
    exact ⟨rfl, rfl⟩
theorem rep_snoc (k : Nat) : List.replicate (k + 1) (Value.int .i64 (-1)) = List.replicate k (Value.int .i64 (-1)) ++ [.int .i64 (-1)] := by
  rw [List.replicate_succ']
set_option maxRecDepth 100000 in
theorem r3New_yes (n : Nat) (w : World) (h : n ≤ 48) : Calls Try.prog 29 #[.int .i64 n] w fun e w' => ∃ v, e = .returned (.tuple #[v, .int .i64 0]) ∧ NewR w (.empty n) v w' := by
  have h0 : (0 : Int) ≤ n := by omega
  have h1 : (n : Int) ≤ 48 := by omega
  obtain ⟨i0, hi, hz0, hz1, hz2⟩ := info_parts info_int3
  have Hi := hid hi; have Hz0 := hid hz0; have Hz1 := hid hz1; have Hz2 := hid hz2
  clear hi hz0 hz1 hz2
  go_enter Try.func29, Try.ntmps29
  go_wp2
  go_loopw [5] (fun i wr => ∃ (k : Nat) (v : Value), i = .int .i64 k ∧ k ≤ n ∧ Row wr w.heap.size 171 1 (fun _ => v) ∧ wr.ownsRow (w.heap.size + 1) 3 1 v k (List.replicate k (.int .i64 (-1))) ∧ w.heap.size + 1 ≤ wr.heap.size ∧ w.grownBy wr none) (fun i _ => n - (intOf i).toNat)
  case atStart => exact ⟨0, .slice none 0 0, rfl, by omega, Row.new w _ _ _ _ (by simp) (fun k hk => by match k, hk with | 0, _ => rfl), World.ownsRow_nil _ _ _ _, by simp, World.grownBy_alloc w _ none⟩
  case round =>
    obtain ⟨k, v, rfl, hk, ht, ho, hsz, hg⟩ := hrel
    obtain ⟨pv, cv, hv⟩ := ownsRow_slice ho
    have HTt := hid ht; have HO := hid ho; have HG := hid hg; have HSz := hid hsz
    clear ht ho hg hsz
    subst hv
    have c0 := HTt.out.cell (k := 0) (by omega)
    have hk0 : (0 : Int) ≤ k := by omega
    by_cases hlt : k < n
    · have hlt' : (k : Int) < n := by omega
      go_wp2_with (at_builtin; refine wpList_append_own _ rfl _ _ 154 rfl (w.heap.size + 1) 3 i0 (.int .i64 0) 1 8 Try.underlying154 Hi.out Hz0.out Hz1.out Hz2.out rfl (by decide) _ _ _ rfl (HO.out.alloc _) ⟨wr.heap.size, 0, none⟩ 1 1 [.int .i64 (-1)] rfl rfl (cell_one_new _ _ _) (by simp [Value.oneCell']) (by unfold maxLen; omega) (by omega) (by have := HSz.out; simp; omega) ?_; intro v' w1 hown' hgrow hnil; clear hnil; obtain ⟨pv', cv', rfl⟩ := ownsRow_slice hown'; have HO1 := hid hown'; have HG1 := hid ((HG.out.trans (World.grownBy_alloc wr _ none)).andThen hgrow (fun j hj => .inl (by have := (HO.out.lt j hj).1; omega))); have HT1 := hid ((HTt.out.alloc _).grown hgrow (own_ne HO.out (by omega))); have HS1 := hid (show w.heap.size + 1 ≤ w1.heap.size by have := hgrow.size; have := HSz.out; simp at *; omega); have hf1 := HT1.out.frozen 0; have d0 := HT1.out.cell (k := 0) (by omega); clear hown' hgrow)
      go_roundw
      case rel => exact ⟨k + 1, _, by go_num, by omega, HT1.out.set rfl (fun j hj hne => by omega), by rw [rep_snoc]; exact HO1.out.kept (grownBy_setCell _ _ _ _ _) (by have := own_ne HO1.out (B := w.heap.size) (by omega); cases h : (Value.slice pv' (k + 1) cv').ownBlock with | none => exact .inl rfl | some x => exact .inr (fun e => this (by rw [h, e]))), by simpa using HS1.out, HG1.out.andThen (grownBy_setCell w1 w.heap.size 0 none _) (fun j hj => .inl (by cases hj; omega))⟩
      case measure => simp [intOf]; omega
    · obtain rfl : k = n := by omega
      have hge : (k : Int) ≤ k := by omega
      go_wp2
      go_ret2
      exact ⟨_, rfl, newR_of (n := k) HTt.out HO.out (fun j hj => by rw [List.getElem?_replicate, if_pos (show j < k from hj)]; rfl) (Nat.le_refl _) (by omega) HG.out⟩
end Go.Proofs.Ytibiianmpajabaa
