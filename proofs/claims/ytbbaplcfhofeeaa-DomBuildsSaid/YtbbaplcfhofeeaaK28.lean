/-
  Package dom: Build, Dom; what holds behind any calls of Build.
-/
import Derived.Test.YtbbaplcfhofeeaaK27
import Derived.Test.YtbbaplcfhofeeaaK11
set_option linter.unusedSimpArgs false
set_option linter.unusedVariables false
namespace Go.Proofs.Ytbbaplcfhofeeaa.Dm
open Go.RowKit
set_option maxHeartbeats 2000000

/-- m domains are built -/
structure Dn (n m : Nat) (s : Gs) (sp : Nat → Sp) (D : Nat → DC) (E : Cnt) (np : Nat) : Prop where
  all : All s.M sp E
  eb : ∀ i, E i 0 + E i 1 + E i 2 + E i 3 ≤ m
  m8 : m ≤ 8
  n : s.M.n = n
  mem : ∀ d t i, s.g.mem d = some (t, i) → i < np
  free : ∀ d, m ≤ d → d < 8 → D d = dc0 ∧ (sp d).root = -1 ∧ s.g.mem d = none ∧ (s.M.ownedL d).length = 0
  st : ∀ d, d < m → (D d).st = 1
theorem Dn.start (n : Nat) (h1 : 2 ≤ n) (h2 : n ≤ 256) : Dn n 0 (gs0 n) sp0 d0 E0 0 := by
  obtain ⟨a, b, c, e⟩ := hypN_facts n h1 h2 2 (by omega)
  exact ⟨a, fun i => by simp [E0], by omega, e, (fun d t i h => nomatch h), (fun d _ _ => ⟨rfl, rfl, rfl, c d⟩), (fun d h => by omega)⟩
theorem Cnt.sum4 (E : Cnt) (p i : Nat) : E.add p 1 i 0 + E.add p 1 i 1 + E.add p 1 i 2 + E.add p 1 i 3 ≤ E i 0 + E i 1 + E i 2 + E i 3 + 1 := by
  have := Cnt.sum_add E p 1 i (by omega)
  split at this <;> omega
/-- a bound on references, whatever is called -/
theorem Dn.okT {n m : Nat} {s : Gs} {sp : Nat → Sp} {D : Nat → DC} {E : Cnt} {np : Nat} (h : Dn n m s sp D E np) : ∀ A sp' E', (E' = E ∨ ∃ p, E' = E.add p 1) → All A sp' E' → A.ok 40000 := fun A sp' E' he hA => by
  have hb : ∀ i, E' i 0 + E' i 1 + E' i 2 + E' i 3 ≤ 9 := fun i => by
    have h1 := h.eb i
    have h2 := h.m8
    rcases he with rfl | ⟨p, rfl⟩
    · omega
    · have := Cnt.sum4 E p i; omega
  exact (hA.okT (S := 9) hb).mono (by omega)
/-- one more domain is built -/
theorem Dn.next {n m : Nat} {s : Gs} {sp : Nat → Sp} {D : Nat → DC} {E : Cnt} {np : Nat} (h : Dn n m s sp D E np) (hm : m < 8) {ps : List Nat} {p0 r lf : Nat} {A0 A1 A2 A3 A4 : Mach} (hg : Got s.M A0 m (ps ++ [r, lf])) (hb : Built A0 sp E m ps p0 r lf A1 A2 A3 A4) (b : Nat) :
    Dn n (m + 1) ⟨A4, upP s.P np (placeM ps ps.length), s.g.setMem m (some ((p0 : Int), np))⟩ (upS sp m { sp m with root := r }) (upD D m ⟨1, ps.length, p0, some b⟩) (E.add p0 1) (np + 1) ∧
    (A4.ownedL (-1)).length + (ps.length + 2) = (s.M.ownedL (-1)).length ∧ (A4.ownedL m).length = ps.length + 2 := by
  have hl : (ps ++ [r, lf]).length = ps.length + 2 := by simp
  have ho : ∀ o : Int, o ≠ -1 → (A4.ownedL o).length = (s.M.ownedL o).length + if o = m then ps.length + 2 else 0 := fun o h1 => by rw [hb.own, hg.own o h1, hl]
  refine ⟨⟨hb.a4, fun i => ?_, by omega, hb.n.trans (hg.n.trans h.n), fun d t i hd => ?_, fun d h1 h2 => ?_, fun d hd => ?_⟩, ?_, ?_⟩
  · have := Cnt.sum4 E p0 i; have := h.eb i; omega
  · change (if d = m then some ((p0 : Int), np) else s.g.mem d) = some (t, i) at hd
    split at hd
    · cases hd; omega
    · have := h.mem d t i hd; omega
  · obtain ⟨f1, f2, f3, f4⟩ := h.free d (by omega) h2
    refine ⟨by rw [upD_other _ _ _ _ (by omega)]; exact f1, by rw [upS_other _ _ _ _ (by omega)]; exact f2, ?_, ?_⟩
    · show (if d = m then some ((p0 : Int), np) else s.g.mem d) = none
      rw [if_neg (by omega)]; exact f3
    · have := ho d (by omega)
      rw [if_neg (by omega)] at this
      show (A4.ownedL d).length = 0
      omega
  · by_cases e : d = m
    · subst e; rw [upD_same]
    · rw [upD_other _ _ _ _ e]; exact h.st d (by omega)
  · rw [hb.own]; have := hg.left; rw [hl] at this; exact this
  · have := ho m (by omega)
    rw [if_pos rfl, (h.free m (Nat.le_refl _) hm).2.2.2] at this
    omega
theorem eql_pnil (w : World) : (Op.equalIn 9999 46 (.pointer none) (.pointer none)).run Try.prog w = .ok true w := by kernel_rfl
/-- what Build answers: 170, 10, 71, or 0 -/
def buildE (m : Nat) (left : Nat) (z : Int) : Int := if z < 1 ∨ 48 < z then 170 else if (left : Int) < z + 2 then 10 else if m = 8 then 71 else 0
set_option maxRecDepth 100000 in
theorem hBuildU (w0 w : World) (H B X Y V G : Nat) (pv : Nat → Value) (pm : Nat → Nat × Nat × Nat) (np : Nat) (s : Gs) (sp : Nat → Sp) (T : Nat) (D : Nat → DC) (E : Cnt) (n m : Nat) (h : HV w0 w H B X Y V G pv pm np s sp T D) (hD : Dn n m s sp D E np) (hTT : 48 ≤ T) (z : Int) :
    Calls Try.prog 7 #[.pointer (some ⟨H, 0, none⟩), .int .i64 z] w fun e w' => ∃ a c, e = .returned (.tuple #[.int .i64 a, .int .i64 c]) ∧ c = buildE m (s.M.ownedL (-1)).length z ∧
      (c ≠ 0 → HV w0 w' H B X Y V G pv pm np s sp T D) ∧ (c = 0 → a = m ∧ ∃ size : Nat, z = size ∧ BuildPost w0 w' H B X Y V G pm np s sp T D E m size) := by
  have c0 := h.c0
  have HM := hid (fun w h => hMade H ⟨B, 0, none⟩ w h)
  obtain ⟨L, hL⟩ : ∃ L, (s.M.ownedL (-1)).length = L := ⟨_, rfl⟩
  have hn := hD.all.n0
  have HLeft := hid (Left_any (some ⟨B, 0, none⟩) s.M w (h.ps.m.stops hn.1 hn.2) hn.2)
  have hLn : s.M.leftN = L := by unfold Mach.leftN; rw [hL]
  have hLb : L ≤ 256 := by rw [← hL]; exact ownedL_len _ _ hn.2
  rw [hLn] at HLeft
  have HH := hid h; have HD := hid hD; have HL := hid hL
  have hL0 : (0 : Int) ≤ L := by omega
  have hL1 : (L : Int) ≤ 256 := by omega
  rw [hL]
  clear h hD hLn hL hn hLb
  unfold buildE
  by_cases h1 : z < 1
  · rw [if_pos (.inl h1)]
    go_enter Try.func7, Try.ntmps7
    go_wp2_with (go_at_call 15; refine (HM.out _ c0).mono ?_; rintro e w' ⟨rfl, rfl⟩)
    go_ret2
    exact ⟨_, _, rfl, rfl, fun _ => HH.out, fun e => by cases e⟩
  by_cases h2 : 48 < z
  · rw [if_pos (.inr h2)]
    go_enter Try.func7, Try.ntmps7
    go_wp2_with (go_at_call 15; refine (HM.out _ c0).mono ?_; rintro e w' ⟨rfl, rfl⟩)
    go_ret2
    exact ⟨_, _, rfl, rfl, fun _ => HH.out, fun e => by cases e⟩
  rw [if_neg (by omega)]
  obtain ⟨size, rfl⟩ : ∃ size : Nat, z = size := ⟨z.toNat, by omega⟩
  have hs1 : 1 ≤ size := by omega
  have hs2 : size ≤ 48 := by omega
  have hz0 : (0 : Int) ≤ size := by omega
  have hz48 : (size : Int) ≤ 48 := by omega
  by_cases h3 : (L : Int) < size + 2
  · rw [if_pos h3]
    go_enter Try.func7, Try.ntmps7
    go_wp2_with (first
      | (go_at_call 15; refine (HM.out _ c0).mono ?_; rintro e w' ⟨rfl, rfl⟩)
      | (go_at_call 6; refine HLeft.out.mono ?_; rintro e w1 ⟨rfl, hg⟩; have HG := hid hg; clear hg))
    go_ret2
    exact ⟨_, _, rfl, rfl, fun _ => HH.out.grown HG.out, fun e => by cases e⟩
  rw [if_neg h3]
  go_enter Try.func7, Try.ntmps7
  go_wp2_with (first
    | (go_at_call 15; refine (HM.out _ c0).mono ?_; rintro e w' ⟨rfl, rfl⟩)
    | (go_at_call 6; refine HLeft.out.mono ?_; rintro e w1 ⟨rfl, hg⟩; have HG := hid hg; clear hg))
  have HH1 := hid (HH.out.grown HG.out)
  go_loopw [24] (fun x wr => ∃ k : Nat, x = .int .i64 k ∧ k ≤ m ∧ w1.grownBy wr none) (fun x _ => 8 - (intOf x).toNat)
  case atStart => exact ⟨0, rfl, by omega, World.grownBy.refl _ _⟩
  case round =>
    obtain ⟨k, rfl, hk, hg⟩ := hrel
    have HHk := hid (HH1.out.grown hg)
    have HGk := hid hg
    have hk0 : (0 : Int) ≤ k := by omega
    have hm8 := HD.out.m8
    clear hg
    by_cases hk8 : k < 8
    · have hk8' : (k : Int) < 8 := by omega
      have d0 := HHk.out.cell hk8 (r := 0) (by omega)
      have d1 := HHk.out.cell hk8 (r := 1) (by omega)
      have d2 := HHk.out.cell hk8 (r := 2) (by omega)
      have d3 := HHk.out.cell hk8 (r := 3) (by omega)
      rw [Nat.add_zero] at d0
      by_cases hkm : k < m
      · have hst := HD.out.st k hkm
        obtain ⟨x0, hx0⟩ : ∃ x, D k = x := ⟨_, rfl⟩
        rw [hx0] at d0 d1 d2 d3 hst
        obtain ⟨st, sz, gr, pl⟩ := x0
        simp only at hst
        subst hst
        clear hx0
        cases pl with
        | none =>
          change wr.cell? _ = some (Value.int .i64 1) at d0
          change wr.cell? _ = some (Value.int .i64 sz) at d1
          change wr.cell? _ = some (Value.int .i64 gr) at d2
          change wr.cell? _ = some (Value.pointer none) at d3
          go_wp2
          go_roundw
          case rel => exact ⟨k + 1, by go_num, by omega, HGk.out⟩
          case measure => simp [intOf]; omega
        | some pb =>
          change wr.cell? _ = some (Value.int .i64 1) at d0
          change wr.cell? _ = some (Value.int .i64 sz) at d1
          change wr.cell? _ = some (Value.int .i64 gr) at d2
          change wr.cell? _ = some (Value.pointer (some ⟨pb, 0, none⟩)) at d3
          go_wp2
          go_roundw
          case rel => exact ⟨k + 1, by go_num, by omega, HGk.out⟩
          case measure => simp [intOf]; omega
      · obtain rfl : k = m := by omega
        obtain ⟨f1, f2, f3, f4⟩ := HD.out.free k (Nat.le_refl _) hk8
        rw [f1] at d0 d1 d2 d3
        change wr.cell? _ = some (Value.int .i64 0) at d0
        change wr.cell? _ = some (Value.int .i64 0) at d1
        change wr.cell? _ = some (Value.int .i64 0) at d2
        change wr.cell? _ = some (Value.pointer none) at d3
        have HBl := hid (hBuild w0 wr H B X Y V G pv pm np s sp T D E HHk.out HD.out.all 40000 HD.out.okT (by omega) k size hk8 hs1 hs2 (by rw [HL.out]; omega) f2 f3 HD.out.mem hTT)
        clear f1 f2 f3 f4
        have hpn := eql_pnil
        go_wp2_with (go_at_call 17; refine HBl.out.mono ?_; rintro e w2 ⟨rfl, hp⟩; have HP := hid hp; clear hp)
        go_ret2
        exact ⟨_, _, rfl, rfl, fun e => absurd rfl e, fun _ => ⟨rfl, size, rfl, HP.out⟩⟩
    · obtain rfl : k = 8 := by omega
      obtain rfl : m = 8 := by omega
      have hge : ¬ (((8 : Nat) : Int) < 8) := by omega
      go_wp2
      go_ret2
      exact ⟨_, _, rfl, rfl, fun _ => HHk.out, fun e => by cases e⟩
/-- a value of api.Dom -/
def domA (st sz fr gr rt : Int) : Value := .agg #[.int .i64 st, .int .i64 sz, .int .i64 fr, .int .i64 gr, .int .i64 rt]
set_option maxRecDepth 100000 in
theorem hDom (w0 w : World) (H B X Y V G : Nat) (pv : Nat → Value) (pm : Nat → Nat × Nat × Nat) (np : Nat) (s : Gs) (sp : Nat → Sp) (T : Nat) (D : Nat → DC) (h : HV w0 w H B X Y V G pv pm np s sp T D) (hn1 : 1 ≤ s.M.n) (hn2 : s.M.n ≤ 256) (d : Nat) (hd : d < 8) (hst : (D d).st ≠ 0) :
    Calls Try.prog 8 #[.pointer (some ⟨H, 0, none⟩), .int .i64 d] w fun e w' => e = .returned (.tuple #[domA (D d).st (D d).sz ((s.M.ownedL d).length : Nat) (D d).gr (sp d).root, .int .i64 0]) ∧ w.grownBy w' none := by
  have ga := World.grownBy_alloc w (.cells #[.int .i64 0, .int .i64 0, .int .i64 0, .int .i64 0, .int .i64 0] 33) none
  obtain ⟨W, hW⟩ : ∃ W, w.alloc (.cells #[.int .i64 0, .int .i64 0, .int .i64 0, .int .i64 0, .int .i64 0] 33) = W := ⟨_, rfl⟩
  rw [hW] at ga
  have hv := h.grown ga
  have HH := hid hv
  have z0 : W.cell? ⟨w.heap.size, 0, none⟩ = some (.int .i64 0) := by rw [← hW]; simp [go_sem]
  have z1 : W.cell? ⟨w.heap.size, 1, none⟩ = some (.int .i64 0) := by rw [← hW]; simp [go_sem]
  have z2 : W.cell? ⟨w.heap.size, 2, none⟩ = some (.int .i64 0) := by rw [← hW]; simp [go_sem]
  have z3 : W.cell? ⟨w.heap.size, 3, none⟩ = some (.int .i64 0) := by rw [← hW]; simp [go_sem]
  have z4 : W.cell? ⟨w.heap.size, 4, none⟩ = some (.int .i64 0) := by rw [← hW]; simp [go_sem]
  have c0 := hv.c0; have c1 := hv.c1
  have d0 := hv.cell hd (r := 0) (by omega)
  have d1 := hv.cell hd (r := 1) (by omega)
  have d2 := hv.cell hd (r := 2) (by omega)
  have d3 := hv.cell hd (r := 3) (by omega)
  rw [Nat.add_zero] at d0
  obtain ⟨x0, hx0⟩ : ∃ x, D d = x := ⟨_, rfl⟩
  rw [hx0] at d0 d1 d2 d3 hst ⊢
  obtain ⟨st, sz, gr, pl⟩ := x0
  simp only at hst ⊢
  change W.cell? _ = some (Value.int .i64 st) at d0
  change W.cell? _ = some (Value.int .i64 sz) at d1
  change W.cell? _ = some (Value.int .i64 gr) at d2
  change W.cell? _ = some (plB pl) at d3
  have HAt := hid (hAt H d ⟨B, 0, none⟩ W st sz gr pl hd hst c0 d0 d1 d2 d3)
  have HOwn := hid (fun wX (hX : HV w0 wX H B X Y V G pv pm np s sp T D) => Owned_any (some ⟨B, 0, none⟩) s.M (d : Int) wX (hX.ps.m.stops hn1 hn2) hn2)
  have HRt := hid (fun wX (hX : HV w0 wX H B X Y V G pv pm np s sp T D) => xRoot_yes X B d wX s.M sp pv hd hX.ps)
  obtain ⟨R, hR⟩ : ∃ R, (sp d).root = R := ⟨_, rfl⟩
  rw [hR] at HRt ⊢
  obtain ⟨L, hL⟩ : ∃ L, s.M.ownedL d = L := ⟨_, rfl⟩
  rw [hL] at HOwn ⊢
  have hLn : L.length ≤ 256 := by rw [← hL]; exact ownedL_len _ _ hn2
  have hHl := h.top.lt
  have HHl := hid hHl
  have zf : ∀ k, W.frozen? ⟨w.heap.size, k, none⟩ = false := fun k => by rw [← hW]; exact frozen_of_row _ _ _ _ _ (heap_alloc_new w _)
  have HZ := hid (show w.heap.size < W.heap.size by rw [← hW]; simp)
  have HZf := hid zf
  clear zf hHl
  have HGa := hid ga
  clear h hv ga hx0 hst d3 hR hL
  go_enter Try.func8, Try.ntmps8
  go_wp2_with (go_at_call 18; refine HAt.out.mono ?_; rintro e w' ⟨rfl, rfl⟩)
  clear hW
  go_region_held3 (fun w' => w'.cell? ⟨H, 0, none⟩ = some (.pointer (some ⟨B, 0, none⟩)) ∧ w'.cell? ⟨H, 1, none⟩ = some (.pointer (some ⟨X, 0, none⟩)) ∧ w'.cell? ⟨H, 4 + d * 4, none⟩ = some (.int .i64 st) ∧ w'.cell? ⟨H, 4 + d * 4 + 1, none⟩ = some (.int .i64 sz) ∧ w'.cell? ⟨H, 4 + d * 4 + 2, none⟩ = some (.int .i64 gr)) (first | exact ⟨by assumption, by assumption, by assumption, by assumption, by assumption⟩ | go_keep)
    (first
      | (go_at_call 19; (first | refine (HOwn.out W.drew (HH.out.grown (grownBy_drew W none))).mono ?_ | refine (HOwn.out W.drew.drew (HH.out.grown ((grownBy_drew W none).trans (grownBy_drew _ none)))).mono ?_); rintro e w2 ⟨v, rfl, ho, -, hg2⟩; obtain ⟨pv2, cv2, hv2⟩ := ownsRow_slice ho; subst hv2; have hgw : W.grownBy w2 none := (by first | exact (grownBy_drew W none).trans hg2 | exact ((grownBy_drew W none).trans (grownBy_drew _ none)).trans hg2); have HH2 := hid (HH.out.grown hgw); have HG2 := hid (HGa.out.trans hgw); have e0 := hgw.cell c0 (by simp); have e1 := hgw.cell c1 (by simp); have e2 := hgw.cell d0 (by simp); have e3 := hgw.cell d1 (by simp); have e4 := hgw.cell d2 (by simp); have y0 := hgw.cell z0 (by simp); have y1 := hgw.cell z1 (by simp); have y2 := hgw.cell z2 (by simp); have y3 := hgw.cell z3 (by simp); have y4 := hgw.cell z4 (by simp); have x0 := (grown_frozen hgw (a := ⟨w.heap.size, 0, none⟩) HZ.out (by simp)).trans (HZf.out 0); have x1 := (grown_frozen hgw (a := ⟨w.heap.size, 1, none⟩) HZ.out (by simp)).trans (HZf.out 1); have x2 := (grown_frozen hgw (a := ⟨w.heap.size, 2, none⟩) HZ.out (by simp)).trans (HZf.out 2); have x3 := (grown_frozen hgw (a := ⟨w.heap.size, 3, none⟩) HZ.out (by simp)).trans (HZf.out 3); have x4 := (grown_frozen hgw (a := ⟨w.heap.size, 4, none⟩) HZ.out (by simp)).trans (HZf.out 4); obtain ⟨w3, hw3⟩ : ∃ w3, (((((w2.setCell ⟨w.heap.size, 0, none⟩ (.int .i64 st)).setCell ⟨w.heap.size, 1, none⟩ (.int .i64 sz)).setCell ⟨w.heap.size, 2, none⟩ (.int .i64 (L.length : Nat))).setCell ⟨w.heap.size, 3, none⟩ (.int .i64 gr)).setCell ⟨w.heap.size, 4, none⟩ (.int .i64 R)) = w3 := ⟨_, rfl⟩; have hg3 : w2.grownBy w3 (some w.heap.size) := hw3 ▸ ((((grownBy_setCell w2 w.heap.size 0 none _).trans (grownBy_setCell _ w.heap.size 1 none _)).trans (grownBy_setCell _ w.heap.size 2 none _)).trans (grownBy_setCell _ w.heap.size 3 none _)).trans (grownBy_setCell _ w.heap.size 4 none _); have hne : (some H : Option Nat) ≠ some w.heap.size := (by have := HHl.out; simp; omega); have HG3 := hid (HG2.out.andThen hg3 (fun j e => by cases e; exact .inl (Nat.le_refl _))); have v0 : w3.drew.cell? ⟨H, 0, none⟩ = _ := hg3.cell e0 hne; have v1 : w3.drew.cell? ⟨H, 1, none⟩ = _ := hg3.cell e1 hne; have v2 : w3.drew.cell? ⟨H, 4 + d * 4, none⟩ = _ := hg3.cell e2 hne; have v3 : w3.drew.cell? ⟨H, 4 + d * 4 + 1, none⟩ = _ := hg3.cell e3 hne; have v4 : w3.drew.cell? ⟨H, 4 + d * 4 + 2, none⟩ = _ := hg3.cell e4 hne; have k0 : w3.cell? ⟨w.heap.size, 0, none⟩ = some (.int .i64 st) := (by rw [← hw3]; simp [go_sem, y0, y1, y2, y3, y4]); have k1 : w3.cell? ⟨w.heap.size, 1, none⟩ = some (.int .i64 sz) := (by rw [← hw3]; simp [go_sem, y0, y1, y2, y3, y4]); have k2 : w3.cell? ⟨w.heap.size, 2, none⟩ = some (.int .i64 (L.length : Nat)) := (by rw [← hw3]; simp [go_sem, y0, y1, y2, y3, y4]); have k3 : w3.cell? ⟨w.heap.size, 3, none⟩ = some (.int .i64 gr) := (by rw [← hw3]; simp [go_sem, y0, y1, y2, y3, y4]); have k4 : w3.cell? ⟨w.heap.size, 4, none⟩ = some (.int .i64 R) := (by rw [← hw3]; simp [go_sem, y0, y1, y2, y3, y4]); clear ho hg2 hgw hg3 hne)
      | (go_at_call 20; first
          | (refine (HRt.out w2 HH2.out).mono ?_; rintro e w4 ⟨rfl, rfl⟩)
          | (refine (HRt.out w2.drew (HH2.out.grown (grownBy_drew _ none))).mono ?_; rintro e w4 ⟨rfl, rfl⟩)
          | (refine (HRt.out W.drew (HH.out.grown (grownBy_drew _ none))).mono ?_; rintro e w4 ⟨rfl, rfl⟩)
          | fail)
      | fail)
  all_goals clear hw3
  all_goals go_wp2
  all_goals (try simp only [Exit.inBlock, Exit.then])
  all_goals refine bodyPost_ret (v := .tuple #[domA st sz (L.length : Nat) gr R, .int .i64 0]) (by simp [results, Try.results8, go_sem, k0, k1, k2, k3, k4, domA]) rfl ?_
  all_goals (first | exact ⟨rfl, HG3.out⟩ | exact ⟨rfl, HG3.out.trans (grownBy_drew _ none)⟩)
end Go.Proofs.Ytbbaplcfhofeeaa.Dm
