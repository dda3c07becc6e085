/-
  Package tenementref03: contracts of Set, Clear, New, Copy.
-/
import Derived.Test.YtpickaoeaidihaaPrefA
import Derived.Laws.AppendOwnNone
namespace Go.Proofs.Ytpickaoeaidihaa
open Go.RowKit Gen
set_option maxHeartbeats 400000

/-- Set -/
theorem rSet (b : Nat) (L : RL) (M : Mp) (g m : Int) (w : World) (h : RMap w b L M) (hok : M.ok) :
    Calls Try.prog 24 #[.pointer (some ⟨b, 0, none⟩), .int .i64 g, .int .i64 m] w fun e w' => e = .returned (.int .i64 (M.setE g m).2) ∧ RMap w' b L (M.setE g m).1 ∧ Chg (rfoot b L) w w' := by
  have c0 := h.c0
  have hn48 : (M.n : Int) ≤ 48 := by have := hok.n48; omega
  have HH := hid h
  have HOk := hid hok
  clear h hok
  cases hp : inPl M.n g with
  | false =>
    have hp' := inPl_no hp
    have HV := hid (show M.setE g m = (M, 1) by unfold Mp.setE; rw [hp]; rfl)
    rw [HV.out]
    by_cases h0 : g < 0
    · clear hp'
      go_enter Try.func24, Try.ntmps24
      go_wp2
      go_ret
      exact ⟨rfl, HH.out, Chg.refl _ _⟩
    · have h1 : (M.n : Int) ≤ g := by omega
      clear hp'
      go_enter Try.func24, Try.ntmps24
      go_wp2
      go_ret
      exact ⟨rfl, HH.out, Chg.refl _ _⟩
  | true =>
  obtain ⟨k, rfl, hk⟩ := Mp.nat_of hp
  have hk' : (k : Int) < M.n := by omega
  have hk0 : (0 : Int) ≤ k := by omega
  cases hq : inFr m with
  | false =>
    have HV := hid (show M.setE k m = (M, 1) by unfold Mp.setE; rw [hp, hq]; rfl)
    have hq' : ¬ (0 ≤ m ∧ m < 256) := fun h => by rw [inFr_yes.2 h] at hq; cases hq
    rw [HV.out]
    clear hp hq
    by_cases h0 : m < 0
    · clear hq'
      go_enter Try.func24, Try.ntmps24
      go_wp2
      go_ret
      exact ⟨rfl, HH.out, Chg.refl _ _⟩
    · have h1 : 256 ≤ m := by omega
      clear hq'
      go_enter Try.func24, Try.ntmps24
      go_wp2
      go_ret
      exact ⟨rfl, HH.out, Chg.refl _ _⟩
  | true =>
  obtain ⟨hm0, hm1⟩ := inFr_yes.1 hq
  obtain ⟨hpa, hc, hne⟩ := HH.out.at_ hk
  rw [hpa] at c0
  cases hf : M.fr k with
  | some x =>
    have HV := hid (show M.setE k m = (M, 30) by unfold Mp.setE; rw [hp, hq, hf]; rfl)
    rw [hf] at hc
    simp only [Option.getD_some] at hc
    obtain ⟨hx0, _⟩ := HOk.out.fr_ge hf
    rw [HV.out]
    clear hp hq hf hpa
    go_enter Try.func24, Try.ntmps24
    go_wp2
    go_ret
    exact ⟨rfl, HH.out, Chg.refl _ _⟩
  | none =>
  rw [hf] at hc
  simp only [Option.getD_none] at hc
  cases hl : M.pl m with
  | some x =>
    have HV := hid (show M.setE k m = (M, 8) by unfold Mp.setE; rw [hp, hq, hf, hl]; rfl)
    have HF := hid (show M.findE m = (x, 0) by unfold Mp.findE; rw [hl])
    rw [HV.out]
    clear hp hq hf hl hpa
    go_enter Try.func24, Try.ntmps24
    go_wp2_with (go_at_call 27; refine (rFind b L M m _ HH.out HOk.out).mono ?_; rw [HF.out]; rintro e w1 ⟨rfl, rfl⟩)
    go_ret
    exact ⟨rfl, HH.out, Chg.refl _ _⟩
  | none =>
    have HV := hid (show M.setE k m = (M.set k m, 0) by unfold Mp.setE; rw [hp, hq, hf, hl]; rfl)
    have HF := hid (show M.findE m = (0, 6) by unfold Mp.findE; rw [hl])
    have fz := (HH.out.row (by omega)).2.frozen k
    have HS := hid (HH.out.set hk (M' := M.set k m) (z := m) rfl (by simp [Mp.set]) (fun j hj => by show (if (j : Int) = k then _ else _) = _; rw [if_neg (by omega)]))
    rw [HV.out]
    clear hp hq hf hl hpa
    go_enter Try.func24, Try.ntmps24
    go_wp2_with (go_at_call 27; refine (rFind b L M m _ HH.out HOk.out).mono ?_; rw [HF.out]; rintro e w1 ⟨rfl, rfl⟩)
    go_ret
    exact ⟨rfl, HS.out, Chg.one (grownBy_setCell _ _ _ _ _) (.inr rfl)⟩
/-- Clear -/
theorem rClear (b : Nat) (L : RL) (M : Mp) (g : Int) (w : World) (h : RMap w b L M) (hok : M.ok) :
    Calls Try.prog 25 #[.pointer (some ⟨b, 0, none⟩), .int .i64 g] w fun e w' => e = .returned (.tuple #[.int .i64 (M.clearE g).2.1, .int .i64 (M.clearE g).2.2]) ∧ RMap w' b L (M.clearE g).1 ∧ Chg (rfoot b L) w w' := by
  have c0 := h.c0
  have hn48 : (M.n : Int) ≤ 48 := by have := hok.n48; omega
  have HH := hid h
  have HOk := hid hok
  clear h hok
  rcases M.getE_cases g with ⟨m, hp, hf, e1, e2⟩ | ⟨_, _, e1, e2⟩ | ⟨_, e1, e2⟩
  · obtain ⟨k, rfl, hk⟩ := Mp.nat_of hp
    have hk' : (k : Int) < M.n := by omega
    have hk0 : (0 : Int) ≤ k := by omega
    obtain ⟨hpa, hc, hne⟩ := HH.out.at_ hk
    rw [hpa] at c0
    have fz := (HH.out.row (by omega)).2.frozen k
    have HS := hid (HH.out.set hk (M' := M.clr k m) (z := -1) rfl (by simp [Mp.clr]) (fun j hj => by show (if (j : Int) = k then _ else _) = _; rw [if_neg (by omega)]))
    have HV := hid e2
    have HU := hid e1
    rw [HV.out]
    clear hp hf hpa e1 e2
    go_enter Try.func25, Try.ntmps25
    go_wp2_with (go_at_call 26; refine (rGet b L M k _ HH.out HOk.out).mono ?_; rw [HU.out]; rintro e w1 ⟨rfl, rfl⟩)
    go_ret2
    exact ⟨rfl, HS.out, Chg.one (grownBy_setCell _ _ _ _ _) (.inr rfl)⟩
  · have HV := hid e2
    have HU := hid e1
    rw [HV.out]
    clear e1 e2
    go_enter Try.func25, Try.ntmps25
    go_wp2_with (go_at_call 26; refine (rGet b L M g _ HH.out HOk.out).mono ?_; rw [HU.out]; rintro e w1 ⟨rfl, rfl⟩)
    go_ret2
    exact ⟨rfl, HH.out, Chg.refl _ _⟩
  · have HV := hid e2
    have HU := hid e1
    rw [HV.out]
    clear e1 e2
    go_enter Try.func25, Try.ntmps25
    go_wp2_with (go_at_call 26; refine (rGet b L M g _ HH.out HOk.out).mono ?_; rw [HU.out]; rintro e w1 ⟨rfl, rfl⟩)
    go_ret2
    exact ⟨rfl, HH.out, Chg.refl _ _⟩
/-- New -/
def NewR (w : World) (M : Mp) (v : Value) (w' : World) : Prop := ∃ b L, v = .pointer (some ⟨b, 0, none⟩) ∧ RMap w' b L M ∧ w.grownBy w' none ∧ ∀ k, rfoot b L k → w.heap.size ≤ k
theorem newR_of {w W : World} {b base n : Nat} {v : Value} {M : Mp} {xs : List Value} (ht : Row W b 56 1 (fun _ => v)) (ho : W.ownsRow base 3 1 v M.n xs) (hx : ∀ k, k < M.n → xs[k]? = some (lv M k)) (hb : w.heap.size ≤ b) (hb2 : w.heap.size ≤ base) (hg : w.grownBy W none) :
    NewR w M (.pointer (some ⟨b, 0, none⟩)) W := by
  obtain ⟨pa, cap, rfl⟩ := ownsRow_slice ho
  have hnil : pa = none → cap = 0 := fun e => by
    rcases ho.2 with ⟨e', _⟩ | ⟨g', cap', cur, e', _⟩
    · injection e' with _ _ h3
    · injection e' with h1; rw [e] at h1; cases h1
  by_cases h0 : M.n = 0
  · refine ⟨b, ⟨pa, cap, b⟩, rfl, ⟨ht, ht.lt, fun h => by omega, by omega, hnil⟩, hg, fun k hk => by rcases hk with rfl | rfl <;> exact hb⟩
  · obtain ⟨q, hq⟩ : ∃ q, M.n = q + 1 := ⟨M.n - 1, by omega⟩
    have ho' := ho
    rw [hq] at ho'
    obtain ⟨g, c, e, hbg, hr⟩ := ownsRow_row ho'
    rw [← hq] at e
    cases e
    have hcap : M.n ≤ cap := by
      rcases ho.2 with ⟨e, _⟩ | ⟨g', cap', cur, e, _, _, hn, _⟩
      · cases e
      · cases e; exact hn
    refine ⟨b, ⟨some ⟨g, 0, none⟩, cap, g⟩, rfl, ⟨ht, hr.lt, fun _ => ⟨rfl, ?_⟩, hcap, fun e => by cases e⟩, hg, fun k hk => by rcases hk with rfl | rfl <;> omega⟩
    rw [← hq, Nat.mul_one] at hr
    exact hr.congr fun k hk => by simp [List.getD, hx k hk]
theorem info_int : (Try.prog.info? 3).map (fun i => (i.zero, i.size, i.bytes)) = some (some (.int .i64 0), 1, 8) := by kernel_rfl
theorem rNew_no (n : Int) (w : World) (h : n < 0 ∨ 48 < n) : Calls Try.prog 9 #[.int .i64 n] w fun e w' => e = .returned (.tuple #[.pointer none, .int .i64 1]) ∧ w = w' := by
  by_cases h0 : n < 0
  · clear h
    go_enter Try.func9, Try.ntmps9
    go_wp2
    go_ret2
    exact ⟨rfl, rfl⟩
  · have h1 : 48 < n := by omega
    clear h
    go_enter Try.func9, Try.ntmps9
    go_wp2
    go_ret2
    exact ⟨rfl, rfl⟩
theorem rep_snoc (k : Nat) : List.replicate (k + 1) (Value.int .i64 (-1)) = List.replicate k (Value.int .i64 (-1)) ++ [.int .i64 (-1)] := by
  rw [List.replicate_succ']
set_option maxRecDepth 100000 in
theorem rNew_yes (n : Nat) (w : World) (h : n ≤ 48) : Calls Try.prog 9 #[.int .i64 n] w fun e w' => ∃ v, e = .returned (.tuple #[v, .int .i64 0]) ∧ NewR w (.empty n) v w' := by
  have h0 : (0 : Int) ≤ n := by omega
  have h1 : (n : Int) ≤ 48 := by omega
  obtain ⟨i0, hi, hz0, hz1, hz2⟩ := info_parts info_int
  have Hi := hid hi; have Hz0 := hid hz0; have Hz1 := hid hz1; have Hz2 := hid hz2
  clear hi hz0 hz1 hz2
  go_enter Try.func9, Try.ntmps9
  go_wp2
  go_loopw [5] (fun i wr => ∃ (k : Nat) (v : Value), i = .int .i64 k ∧ k ≤ n ∧ Row wr w.heap.size 56 1 (fun _ => v) ∧ wr.ownsRow (w.heap.size + 1) 3 1 v k (List.replicate k (.int .i64 (-1))) ∧ w.heap.size + 1 ≤ wr.heap.size ∧ w.grownBy wr none) (fun i _ => n - (intOf i).toNat)
  case atStart => exact ⟨0, .slice none 0 0, rfl, by omega, Row.new w _ _ _ _ (by simp) (fun k hk => by match k, hk with | 0, _ => rfl), World.ownsRow_nil _ _ _ _, by simp, World.grownBy_alloc w _ none⟩
  case round =>
    obtain ⟨k, v, rfl, hk, ht, ho, hsz, hg⟩ := hrel
    obtain ⟨pv, cv, hv⟩ := ownsRow_slice ho
    have HTt := hid ht; have HO := hid ho; have HG := hid hg; have HSz := hid hsz
    clear ht ho hg hsz
    subst hv
    have c0 := HTt.out.cell (k := 0) (by omega)
    have hk0 : (0 : Int) ≤ k := by omega
    by_cases hlt : k < n
    · have hlt' : (k : Int) < n := by omega
      go_wp2_with (at_builtin; refine wpList_append_own _ rfl _ _ 54 rfl (w.heap.size + 1) 3 i0 (.int .i64 0) 1 8 Try.underlying54 Hi.out Hz0.out Hz1.out Hz2.out rfl (by decide) _ _ _ rfl (HO.out.alloc _) ⟨wr.heap.size, 0, none⟩ 1 1 [.int .i64 (-1)] rfl rfl (cell_one_new _ _ _) (by simp [Value.oneCell']) (by unfold maxLen; omega) (by omega) (by have := HSz.out; simp; omega) ?_; intro v' w1 hown' hgrow hnil; clear hnil; obtain ⟨pv', cv', rfl⟩ := ownsRow_slice hown'; have HO1 := hid hown'; have HG1 := hid ((HG.out.trans (World.grownBy_alloc wr _ none)).andThen hgrow (fun j hj => .inl (by have := (HO.out.lt j hj).1; omega))); have HT1 := hid ((HTt.out.alloc _).grown hgrow (own_ne HO.out (by omega))); have HS1 := hid (show w.heap.size + 1 ≤ w1.heap.size by have := hgrow.size; have := HSz.out; simp at *; omega); have hf1 := HT1.out.frozen 0; have d0 := HT1.out.cell (k := 0) (by omega); clear hown' hgrow)
      go_roundw
      case rel => exact ⟨k + 1, _, by go_num, by omega, HT1.out.set rfl (fun j hj hne => by omega), by rw [rep_snoc]; exact HO1.out.kept (grownBy_setCell _ _ _ _ _) (by have := own_ne HO1.out (B := w.heap.size) (by omega); cases h : (Value.slice pv' (k + 1) cv').ownBlock with | none => exact .inl rfl | some x => exact .inr (fun e => this (by rw [h, e]))), by simpa using HS1.out, HG1.out.andThen (grownBy_setCell w1 w.heap.size 0 none _) (fun j hj => .inl (by cases hj; omega))⟩
      case measure => simp [intOf]; omega
    · obtain rfl : k = n := by omega
      have hge : (k : Int) ≤ k := by omega
      go_wp2
      go_ret2
      exact ⟨_, rfl, newR_of (n := k) HTt.out HO.out (fun j hj => by rw [List.getElem?_replicate, if_pos (show j < k from hj)]; rfl) (Nat.le_refl _) (by omega) HG.out⟩
set_option maxRecDepth 100000 in
theorem rCopy (b : Nat) (L : RL) (M : Mp) (w : World) (h : RMap w b L M) (hok : M.ok) : Calls Try.prog 21 #[.pointer (some ⟨b, 0, none⟩)] w fun e w' => ∃ v, e = .returned v ∧ NewR w M v w' := by
  obtain ⟨i0, hi, hz0, hz1, hz2⟩ := info_parts info_int
  have Hi := hid hi; have Hz0 := hid hz0; have Hz1 := hid hz1; have Hz2 := hid hz2
  clear hi hz0 hz1 hz2
  have c0 := h.c0
  have hn48 : (M.n : Int) ≤ 48 := by have := hok.n48; omega
  have HH := hid h
  have HG0 := hid (World.grownBy_alloc w (.cells #[] 3) none)
  have HOn := hid (World.ownsRow_made (base := w.heap.size) (e := 3) (size := 1) w #[] 0 (Nat.le_refl _) (by unfold maxLen; omega) (by simp))
  clear h
  obtain ⟨pa, cap, g⟩ := L
  cases pa with
  | none =>
    have hz : M.n = 0 := by
      cases e : M.n with
      | zero => rfl
      | succ q => have := (HH.out.row (by omega)).1; cases this
    obtain rfl : cap = 0 := HH.out.nil rfl
    have HZ := hid hz
    simp only [hz] at c0
    have c1 := HG0.out.cell c0 (by simp)
    clear hz
    go_enter Try.func21, Try.ntmps21
    go_wp2_with (at_builtin; refine wpList_append_own_none rfl _ _ 54 rfl w.heap.size 3 i0 1 Try.underlying54 Hi.out (.slice (some ⟨w.heap.size, 0, none⟩) 0 0) 0 [] rfl HOn.out rfl ?_)
    go_ret
    have ht := Row.new (w.alloc (.cells #[] 3)) #[.slice (some ⟨w.heap.size, 0, none⟩) 0 0] 56 1 (fun _ => .slice (some ⟨w.heap.size, 0, none⟩) 0 0) (by simp) (fun k hk => by match k, hk with | 0, _ => rfl)
    rw [show (w.alloc (.cells #[] 3)).heap.size = w.heap.size + 1 by simp] at ht
    exact ⟨_, rfl, newR_of (n := M.n) (base := w.heap.size) (xs := []) ht (by rw [HZ.out]; exact HOn.out.alloc _) (fun j hj => by rw [HZ.out] at hj; omega) (by omega) (Nat.le_refl _) (HG0.out.trans (World.grownBy_alloc _ _ none))⟩
  | some a =>
    have c1 := HG0.out.cell c0 (by simp)
    have HA := hid (show 1 ≤ M.n → a = ⟨g, 0, none⟩ from fun h1 => Option.some.inj (HH.out.row h1).1)
    have HNw := hid (show ∀ j u, ((List.range M.n).map (lv M))[j]? = some u → (w.alloc (.cells #[] 3)).cell? (a.add j) = some u from fun j u hu => by
      rw [List.getElem?_map, Option.map_eq_some_iff] at hu
      obtain ⟨k, hk, rfl⟩ := hu
      have hj := (List.getElem?_eq_some_iff.1 hk).1
      simp only [List.length_range] at hj
      rw [List.getElem?_range hj] at hk
      cases hk
      rw [HA.out (by omega)]
      have e : (⟨g, 0, none⟩ : Addr).add j = ⟨g, j, none⟩ := by unfold Addr.add; split <;> simp_all
      rw [e]
      exact HG0.out.cell ((HH.out.row (by omega)).2.cell hj) (by simp))
    go_enter Try.func21, Try.ntmps21
    go_wp2_with (at_builtin; refine wpList_append_own _ rfl _ _ 54 rfl w.heap.size 3 i0 (.int .i64 0) 1 8 Try.underlying54 Hi.out Hz0.out Hz1.out Hz2.out rfl (by decide) _ 0 [] rfl HOn.out a M.n cap ((List.range M.n).map (lv M)) rfl (by simp) HNw.out (by simp [lv, Value.oneCell']) (by unfold maxLen; omega) (by omega) (by simp) ?_; intro v' w1 hown' hgrow hnil; clear hnil; simp only [Nat.zero_add, List.nil_append] at hown'; obtain ⟨pv', cv', rfl⟩ := ownsRow_slice hown'; have HO1 := hid hown'; have HG1 := hid (HG0.out.andThen hgrow (fun j hj => .inl (HOn.out.lt j hj).1)); clear hown' hgrow)
    go_ret
    exact ⟨_, rfl, newR_of (n := M.n) (Row.new w1 _ _ _ _ (by simp) (fun k hk => by match k, hk with | 0, _ => rfl)) (HO1.out.alloc _) (fun j hj => by rw [List.getElem?_map, List.getElem?_range hj]; rfl) HG1.out.size (Nat.le_refl _) (HG1.out.trans (World.grownBy_alloc w1 _ none))⟩
end Go.Proofs.Ytpickaoeaidihaa
