/-
  Package blk: the reference's Unpack; both sides' Unpack as one outcome.
-/
import Derived.Test.YtoeohbiofmcdeaaBkM
import Derived.Test.YtoeohbiofmcdeaaBkN
import Derived.BigRegion
import Derived.Deep.RegionHeld3
import Derived.Deep.Cut
set_option linter.unusedSimpArgs false
set_option linter.unusedVariables false
namespace Go.Proofs.Ytoeohbiofmcdeaa.Bk
open Go.RowKit Gen
set_option maxHeartbeats 4000000

/-- what Unpack leaves: the request, its segments in memory, three numbers -/
def UnpQ (V : Rq × Int × Int × Int) (w : World) (e : Ending) (w' : World) : Prop := ∃ p c, e = .returned (.tuple #[.agg #[.int .i64 V.1.op, .int .i64 V.1.id, .int .i64 V.1.sec, .slice p V.1.segs.length c], .int .i64 V.2.1, .int .i64 V.2.2.1, .int .i64 V.2.2.2]) ∧ SA w' p V.1.segs ∧ w.grownBy w' none
theorem UnpQ.no {w w' : World} {V : Rq × Int × Int × Int} {k : Int} (hV : V = (⟨0, 0, 0, []⟩, 0, 0, k)) (hg : w.grownBy w' none) : UnpQ V w (.returned (.tuple #[.agg #[.int .i64 0, .int .i64 0, .int .i64 0, .slice none 0 0], .int .i64 0, .int .i64 0, .int .i64 k])) w' := by
  subst hV
  exact ⟨none, 0, rfl, SA.nil _ _, hg⟩
theorem UnpQ.yes {w w' : World} {V : Rq × Int × Int × Int} {a b c p n : Int} {s : List Seg} {q : Option Addr} {cc : Nat} (hV : V = (⟨a, b, c, s⟩, p, n, 0)) (hs : SA w' q s) (hg : w.grownBy w' none) : UnpQ V w (.returned (.tuple #[.agg #[.int .i64 a, .int .i64 b, .int .i64 c, .slice q s.length cc], .int .i64 p, .int .i64 n, .int .i64 0])) w' := by
  subst hV
  exact ⟨q, cc, rfl, hs, hg⟩
theorem rSegsW2 (l : List UInt8) (p : Option Addr) (c : Nat) (w : World) (hl : l.length ≤ 16777216) (h : BA w p l) : Calls Try.prog 37 #[.slice p l.length c] w (SegsRead2 w l) := by
  by_cases ho : l.length % 2 = 1
  · exact (rSegs_odd l p c w (by omega) ho).mono fun e w' h => h.read2
  · by_cases h0 : 0 < l.length
    · obtain ⟨b, o, rfl⟩ := h.ptr h0
      exact (rSegs l b o c w hl (by omega) h).mono fun e w' h => h.read2
    · have : l = [] := List.eq_nil_of_length_eq_zero (by omega)
      subst this
      exact (rSegs_nil p c w).mono fun e w' h => h.read2
theorem numV_two (x y : UInt8) : (numV [x, y] : Int) = ((upN x.toNat y.toNat 0 0 2 : Nat) : Int) := by simp only [numV, upN]; omega
theorem numV_four (x y z u : UInt8) : (numV [x, y, z, u] : Int) = ((upN x.toNat y.toNat z.toNat u.toNat 4 : Nat) : Int) := by simp only [numV, upN]; omega
/-- unpV, case by case, by the reference's tests -/
theorem unpV_cases (l : List UInt8) (hl : l.length = 16) :
    (3 < (l.getD 0 0).toNat → unpV l = (⟨0, 0, 0, []⟩, 0, 0, 4)) ∧
    ((l.getD 0 0).toNat = 3 → (decide ((l.getD 9 0).toNat ≤ 1) && manyV (l.getD 9 0).toNat (l.getD 1 0).toNat 16) = false → unpV l = (⟨0, 0, 0, []⟩, 0, 0, 4)) ∧
    ((l.getD 0 0).toNat = 3 → (decide ((l.getD 9 0).toNat ≤ 1) && manyV (l.getD 9 0).toNat (l.getD 1 0).toNat 16) = true → unpV l = (Rq.mk (l.getD 9 0).toNat (upN (l.getD 2 0).toNat (l.getD 3 0).toNat 0 0 2 : Nat) (upN (l.getD 4 0).toNat (l.getD 5 0).toNat (l.getD 6 0).toNat (l.getD 7 0).toNat 4 : Nat) [], ((l.getD 8 0).toNat : Int), ((l.getD 1 0).toNat : Int), (0 : Int))) ∧
    ((l.getD 0 0).toNat < 3 → manyV (l.getD 0 0).toNat (l.getD 1 0).toNat 4 = false → unpV l = (⟨0, 0, 0, []⟩, 0, 0, 4)) ∧
    ((l.getD 0 0).toNat < 3 → manyV (l.getD 0 0).toNat (l.getD 1 0).toNat 4 = true → (segsR ((l.drop 8).take (2 * (l.getD 1 0).toNat))).2 ≠ 0 → unpV l = (⟨0, 0, 0, []⟩, 0, 0, 4)) ∧
    ((l.getD 0 0).toNat < 3 → manyV (l.getD 0 0).toNat (l.getD 1 0).toNat 4 = true → (segsR ((l.drop 8).take (2 * (l.getD 1 0).toNat))).2 = 0 → unpV l = (Rq.mk (l.getD 0 0).toNat (upN (l.getD 2 0).toNat (l.getD 3 0).toNat 0 0 2 : Nat) (upN (l.getD 4 0).toNat (l.getD 5 0).toNat (l.getD 6 0).toNat (l.getD 7 0).toNat 4 : Nat) (segsR ((l.drop 8).take (2 * (l.getD 1 0).toNat))).1, (-1 : Int), ((l.getD 1 0).toNat : Int), (0 : Int))) := by
  have hp : ¬ (((l.getD 8 0).toNat : Int) = -1) := by omega
  unfold unpV
  rw [if_pos hl]
  unfold unpR
  simp only [numV_two, numV_four, hp, if_false, if_true]
  rw [mayV_self _ _ (by omega), mayV_page _ _ _ (by omega)]
  have e2 : (((l.getD 0 0).toNat : Int) ≤ 2) = ((l.getD 0 0).toNat ≤ 2) := by apply propext; omega
  have e1 : (((l.getD 9 0).toNat : Int) ≤ 1) = ((l.getD 9 0).toNat ≤ 1) := by apply propext; omega
  simp only [e1, e2]
  clear hp e1 e2
  generalize (l.getD 0 0).toNat = x0
  generalize (l.getD 1 0).toNat = x1
  generalize (l.getD 9 0).toNat = x9
  refine ⟨fun h => ?_, fun h hm => ?_, fun h hm => ?_, fun h hm => ?_, fun h hm hs => ?_, fun h hm hs => ?_⟩
  · rw [if_neg (by omega), if_neg (by simp; omega)]
  · rw [if_pos h, if_neg (by simp [hm])]
  · rw [if_pos h, if_pos hm]
  · rw [if_neg (by omega), if_neg (by simp [hm])]
  · rw [if_neg (by omega), if_pos (by simp [hm]; omega), if_neg hs]
  · rw [if_neg (by omega), if_pos (by simp [hm]; omega), if_pos hs]
theorem w64 (x : Int) (h0 : 0 ≤ x) (h1 : x < 9223372036854775808) : IntKind.i64.wrap x = x := by rw [IntKind.wrap_i64]; omega
theorem wr_two (x y : Nat) (hx : x < 256) (hy : y < 256) : IntKind.i64.wrap (IntKind.i64.wrap (x : Int) + IntKind.i64.wrap (256 * IntKind.i64.wrap (y : Int))) = ((upN x y 0 0 2 : Nat) : Int) := by
  rw [w64 x (by omega) (by omega), w64 y (by omega) (by omega), w64 (256 * y) (by omega) (by omega), w64 (x + 256 * y) (by omega) (by omega)]
  simp only [upN]; omega
theorem wr_four (x y z u : Nat) (hx : x < 256) (hy : y < 256) (hz : z < 256) (hu : u < 256) : IntKind.i64.wrap (IntKind.i64.wrap (IntKind.i64.wrap (IntKind.i64.wrap (x : Int) + IntKind.i64.wrap (256 * IntKind.i64.wrap (y : Int))) + IntKind.i64.wrap (65536 * IntKind.i64.wrap (z : Int))) + IntKind.i64.wrap (16777216 * IntKind.i64.wrap (u : Int))) = ((upN x y z u 4 : Nat) : Int) := by
  rw [w64 x (by omega) (by omega), w64 y (by omega) (by omega), w64 z (by omega) (by omega), w64 u (by omega) (by omega), w64 (256 * y) (by omega) (by omega), w64 (x + 256 * y) (by omega) (by omega), w64 (65536 * z) (by omega) (by omega), w64 (x + 256 * y + 65536 * z) (by omega) (by omega), w64 (16777216 * u) (by omega) (by omega), w64 (x + 256 * y + 65536 * z + 16777216 * u) (by omega) (by omega)]
  simp only [upN]; omega
theorem rUnp_len (l : List UInt8) (p : Option Addr) (c : Nat) (w : World) (h : l.length ≠ 16) (hn : l.length ≤ 140737488351232) : Calls Try.prog 14 #[.slice p l.length c] w (UnpQ (unpV l) w) := by
  have hv : unpV l = (⟨0, 0, 0, []⟩, 0, 0, 1) := by unfold unpV; rw [if_neg h]
  have HV := hid hv
  have h1 : ((l.length : Int) != 16) = true := by simp; omega
  clear hv h
  go_enter Try.func14, Try.ntmps14
  go_wp2
  obtain ⟨W, hW⟩ : ∃ W, w.alloc (.cells #[.int .i64 0, .int .i64 0, .int .i64 0, .slice none 0 0] 24) = W := ⟨_, rfl⟩
  have rs := rowQ hW
  have hG2 : w.grownBy W none := hW ▸ World.grownBy_alloc _ _ _
  rw [hW]
  clear hW
  have z0 := rs.cell (k := 0) (by omega); have z1 := rs.cell (k := 1) (by omega); have z2 := rs.cell (k := 2) (by omega); have z3 := rs.cell (k := 3) (by omega)
  simp only [rqV] at z0 z1 z2 z3
  refine bodyPost_ret (v := .tuple #[.agg #[.int .i64 0, .int .i64 0, .int .i64 0, .slice none 0 0], .int .i64 0, .int .i64 0, .int .i64 1]) (by simp [results, Try.results14, go_sem, z0, z1, z2, z3]) rfl (.no HV.out hG2)
set_option maxRecDepth 100000 in
theorem rUnp_16 (l : List UInt8) (b o c : Nat) (w : World) (hl : l.length = 16) (hc : 16 ≤ c) (h : BA w (some ⟨b, o, none⟩) l) :
    Calls Try.prog 14 #[.slice (some ⟨b, o, none⟩) 16 c] w (UnpQ (unpV l) w) := by
  obtain ⟨W, hW⟩ : ∃ W, w.alloc (.cells #[.int .i64 0, .int .i64 0, .int .i64 0, .slice none 0 0] 24) = W := ⟨_, rfl⟩
  have hg : w.grownBy W none := hW ▸ World.grownBy_alloc _ _ none
  have h' := h.grown hg
  have HB := hid h'
  have c0 := h'.at (k := 0) (by omega)
  have c1 := h'.at (k := 1) (by omega)
  have c2 := h'.at (k := 2) (by omega)
  have c3 := h'.at (k := 3) (by omega)
  have c4 := h'.at (k := 4) (by omega)
  have c5 := h'.at (k := 5) (by omega)
  have c6 := h'.at (k := 6) (by omega)
  have c7 := h'.at (k := 7) (by omega)
  have c8 := h'.at (k := 8) (by omega)
  have c9 := h'.at (k := 9) (by omega)
  rw [Nat.add_zero] at c0
  have y0 := UInt8.toNat_lt (l.getD 0 0)
  have y1 := UInt8.toNat_lt (l.getD 1 0)
  have y2 := UInt8.toNat_lt (l.getD 2 0)
  have y3 := UInt8.toNat_lt (l.getD 3 0)
  have y4 := UInt8.toNat_lt (l.getD 4 0)
  have y5 := UInt8.toNat_lt (l.getD 5 0)
  have y6 := UInt8.toNat_lt (l.getD 6 0)
  have y7 := UInt8.toNat_lt (l.getD 7 0)
  have y8 := UInt8.toNat_lt (l.getD 8 0)
  have y9 := UInt8.toNat_lt (l.getD 9 0)
  have HCS := hid (unpV_cases l hl)
  have HL := hid hl
  have HNB := hid (show b ≠ w.heap.size from fun e => by have := World.block_lt_of_cell? w _ (h.at (k := 0) (by omega)); simp only at this; omega)
  obtain ⟨V, hV⟩ : ∃ V, unpV l = V := ⟨_, rfl⟩
  rw [hV] at HCS ⊢
  clear h h' hV hl
  generalize (l.getD 0 0).toNat = x0 at *
  generalize (l.getD 1 0).toNat = x1 at *
  generalize (l.getD 2 0).toNat = x2 at *
  generalize (l.getD 3 0).toNat = x3 at *
  generalize (l.getD 4 0).toNat = x4 at *
  generalize (l.getD 5 0).toNat = x5 at *
  generalize (l.getD 6 0).toNat = x6 at *
  generalize (l.getD 7 0).toNat = x7 at *
  generalize (l.getD 8 0).toNat = x8 at *
  generalize (l.getD 9 0).toNat = x9 at *
  obtain ⟨a1, ha1⟩ : ∃ a, ((upN x2 x3 0 0 2 : Nat) : Int) = a := ⟨_, rfl⟩
  obtain ⟨a2, ha2⟩ : ∃ a, ((upN x4 x5 x6 x7 4 : Nat) : Int) = a := ⟨_, rfl⟩
  rw [ha1, ha2] at HCS
  have HA1 := hid ha1; have HA2 := hid ha2
  have HW := hid hW
  have HG := hid hg
  clear ha1 ha2 hg
  go_enter Try.func14, Try.ntmps14
  go_wp2
  have N0 := World.new_ne W ⟨b, o, none⟩ c0
  have r4 := rowQ (w := W.drew) (a := .int .i64 0) (b := .int .i64 0) (c := .int .i64 0) (d := .slice none 0 0) rfl
  have v0 := r4.cell (k := 0) (by omega); have v1 := r4.cell (k := 1) (by omega); have v2 := r4.cell (k := 2) (by omega); have v3 := r4.cell (k := 3) (by omega); have vz := r4.frozen
  simp only [rqV] at v0 v1 v2 v3
  clear r4
  go_region_held3 (fun w' => w'.cell? ⟨b, o + 2, none⟩ = some (.int .u8 (x2 : Nat)) ∧ w'.cell? ⟨b, o + 3, none⟩ = some (.int .u8 (x3 : Nat)) ∧ w'.cell? ⟨b, o + 4, none⟩ = some (.int .u8 (x4 : Nat)) ∧ w'.cell? ⟨b, o + 5, none⟩ = some (.int .u8 (x5 : Nat)) ∧ w'.cell? ⟨b, o + 6, none⟩ = some (.int .u8 (x6 : Nat)) ∧ w'.cell? ⟨b, o + 7, none⟩ = some (.int .u8 (x7 : Nat))) (first | exact ⟨by assumption, by assumption, by assumption, by assumption, by assumption, by assumption⟩ | go_keep) (fail)
  rw [(wr_two x2 x3 y2 y3).trans HA1.out, (wr_four x4 x5 x6 x7 y4 y5 y6 y7).trans HA2.out]
  obtain ⟨W2, hW2⟩ : ∃ W2, (W.alloc (.cells #[.int .i64 x0, .int .i64 a1, .int .i64 a2, .slice none 0 0] 24)).drew = W2 := ⟨_, rfl⟩
  have g2 : W.grownBy W2 none := by rw [← hW2]; exact (World.grownBy_alloc _ _ none).trans (grownBy_drew _ none)
  have rn := (rowQ (w := W) (a := .int .i64 x0) (b := .int .i64 a1) (c := .int .i64 a2) (d := .slice none 0 0) rfl).grown (grownBy_drew _ none) (by simp)
  rw [hW2] at rn
  have rz := (rowQ HW.out).grown g2 (by simp)
  have HLT := hid (show W.heap.size < W2.heap.size from rn.lt)
  have HNE := hid (show w.heap.size ≠ W.heap.size by rw [← HW.out]; simp)
  rw [hW2]
  have HN0 := hid N0
  clear hW2 v0 v1 v2 v3 vz N0
  have HN := hid rn
  have HZ := hid rz
  have G2 := hid g2
  have b8 := g2.cell c8 (by simp)
  have b9 := g2.cell c9 (by simp)
  have HB2 := hid (HB.out.grown g2)
  clear c0 c1 c2 c3 c4 c5 c6 c7 c8 c9 hW HB
  have f0 := rn.cell (k := 0) (by omega); have f1 := rn.cell (k := 1) (by omega); have f2 := rn.cell (k := 2) (by omega); have f3 := rn.cell (k := 3) (by omega); have ff := rn.frozen
  have z0 := rz.cell (k := 0) (by omega); have z1 := rz.cell (k := 1) (by omega); have z2 := rz.cell (k := 2) (by omega); have z3 := rz.cell (k := 3) (by omega); have zz := rz.frozen
  simp only [rqV] at f0 f1 f2 f3 z0 z1 z2 z3
  have HGW2 := hid (HG.out.trans G2.out)
  clear rn rz g2
  have hne1 : ¬ (W.heap.size = w.heap.size) := fun e => HNE.out e.symm
  have hne2 : ¬ (w.heap.size = W.heap.size) := HNE.out
  have HMY := fun (op n most : Int) (w' : World) => rMany op n most w'
  have HM := hid HMY
  clear HMY
  rcases Nat.lt_trichotomy x0 3 with hlt | heq | hgt
  · have q0 : decide ((3 : Int) < x0) = false := by simp; omega
    have q1 : ((x0 : Int) == 3) = false := by simp; omega
    have hop := hlt
    cases hm : manyV x0 x1 4 with
    | false =>
      have hv : V = (⟨0, 0, 0, []⟩, 0, 0, 4) := HCS.out.2.2.2.1 hlt hm
      have HV := hid hv
      have HM1 := hid (fun w' => hm ▸ HM.out x0 x1 4 w')
      clear hv hm hlt hop
      go_wp2_with (go_at_call 35; refine (HM1.out _).mono ?_; rintro e w' ⟨rfl, rfl⟩)
      have rs := set4 HZ.out (.int .i64 0) (.int .i64 0) (.int .i64 0) (.slice none 0 0)
      have gs := set4_grown W2 w.heap.size (.int .i64 0) (.int .i64 0) (.int .i64 0) (.slice none 0 0)
      have hG2 := (HGW2.out).andThen gs (fun j e => .inl (by cases e; exact Nat.le_refl _))
      clear gs
      generalize ((((W2.setCell ⟨w.heap.size, 0, none⟩ (.int .i64 0)).setCell ⟨w.heap.size, 1, none⟩ (.int .i64 0)).setCell ⟨w.heap.size, 2, none⟩ (.int .i64 0)).setCell ⟨w.heap.size, 3, none⟩ (.slice none 0 0)) = A9 at rs hG2 ⊢
      have t0 := rs.cell (k := 0) (by omega); have t1 := rs.cell (k := 1) (by omega); have t2 := rs.cell (k := 2) (by omega); have t3 := rs.cell (k := 3) (by omega)
      simp only [rqV] at t0 t1 t2 t3
      refine bodyPost_ret (v := .tuple #[.agg #[.int .i64 0, .int .i64 0, .int .i64 0, .slice none 0 0], .int .i64 0, .int .i64 0, .int .i64 4]) (by simp [results, Try.results14, go_sem, t0, t1, t2, t3]) rfl (.no HV.out hG2)
    | true =>
      have hle : x1 ≤ 4 := by
        unfold manyV at hm
        split at hm
        · simp at hm; omega
        · simp at hm; omega
      obtain ⟨L, hL⟩ : ∃ L, (l.drop 8).take (2 * x1) = L := ⟨_, rfl⟩
      have hLl : L.length = 2 * x1 := by rw [← hL, List.length_take, List.length_drop, HL.out]; omega
      have hBL : BA W2 (some ⟨b, o + 8, none⟩) L := by rw [← hL]; exact HB2.out.sub 8 (2 * x1) (by rw [HL.out]; omega)
      obtain ⟨⟨sl, er⟩, hR⟩ : ∃ r, segsR L = r := ⟨_, rfl⟩
      have her : er = 0 ∨ er = 4 := by
        have : (segsR L).2 = 0 ∨ (segsR L).2 = 4 := by unfold segsR; rw [if_neg (by omega)]; split <;> simp
        rw [hR] at this; exact this
      have HS := hid (show ∀ w', BA w' (some ⟨b, o + 8, none⟩) L → Calls Try.prog 37 #[.slice (some ⟨b, o + 8, none⟩) (2 * x1) (c - 8)] w' fun e w'' => ∃ p cc, e = .returned (.tuple #[.slice p sl.length cc, .int .i64 er]) ∧ SA w'' p sl ∧ (∀ a : Addr, p = some a → w'.heap.size ≤ a.block) ∧ w'.grownBy w'' none from fun w' hb => by
        have := rSegsW2 L (some ⟨b, o + 8, none⟩) (c - 8) w' (by omega) hb
        unfold SegsRead2 at this
        rw [hR, hLl] at this
        exact this)
      have hvq : er = 4 → V = (⟨0, 0, 0, []⟩, 0, 0, 4) := fun h4 => HCS.out.2.2.2.2.1 hlt hm (by rw [hL, hR]; simp [h4])
      have hvy : er = 0 → V = (Rq.mk (x0 : Int) a1 a2 sl, (-1 : Int), (x1 : Int), (0 : Int)) := fun h4 => by have := HCS.out.2.2.2.2.2 hlt hm (by rw [hL, hR]; exact h4); rw [hL, hR] at this; exact this
      have HVQ := hid hvq
      have HVY := hid hvy
      have HBL := hid hBL
      have HM1 := hid (fun w' => hm ▸ HM.out x0 x1 4 w')
      clear hvq hvy hBL hL hLl hR hm hlt hop HB2 HL
      rcases her with rfl | rfl
      · have hv := HVY.out rfl
        have HV := hid hv
        clear hv HVQ HVY
        go_wp2_with (first
          | (go_at_call 35; refine (HM1.out _).mono ?_; rintro e w' ⟨rfl, rfl⟩)
          | (go_at_call 37; refine (HS.out _ HBL.out).mono ?_; rintro e w5 ⟨ps, cs, rfl, hsa, hba, g5⟩; have HSA := hid hsa; have HBA := hid hba; have HG5 := hid (HGW2.out.trans g5); have hZ5 := hid (HZ.out.grown g5 (by simp)); have hN5 := hid (HN.out.grown g5 (by simp)); have u0 := hN5.out.cell (k := 0) (by omega); have u1 := hN5.out.cell (k := 1) (by omega); have u2 := hN5.out.cell (k := 2) (by omega); have u3 := hN5.out.cell (k := 3) (by omega); have uu := hN5.out.frozen; have s0 := hZ5.out.cell (k := 0) (by omega); have s1 := hZ5.out.cell (k := 1) (by omega); have s2 := hZ5.out.cell (k := 2) (by omega); have s3 := hZ5.out.cell (k := 3) (by omega); have sz := hZ5.out.frozen; (simp only [rqV] at u0 u1 u2 u3 s0 s1 s2 s3); clear hsa hba g5))
        have RF := set4 (hZ5.out.setOther ⟨W.heap.size, 3, none⟩ hne2 (.slice ps sl.length cs)) (.int .i64 x0) (.int .i64 a1) (.int .i64 a2) (.slice ps sl.length cs)
        have GF := (HG5.out.andThen (grownBy_setCell w5 W.heap.size 3 none (.slice ps sl.length cs)) (fun j e => .inl (by cases e; exact HG.out.size))).andThen (set4_grown (w5.setCell ⟨W.heap.size, 3, none⟩ (.slice ps sl.length cs)) w.heap.size (.int .i64 x0) (.int .i64 a1) (.int .i64 a2) (.slice ps sl.length cs)) (fun j e => .inl (by cases e; exact Nat.le_refl _))
        have GS := sa_end (v := .slice ps sl.length cs) (a := .int .i64 x0) (b := .int .i64 a1) (c := .int .i64 a2) (d := .slice ps sl.length cs) HSA.out HBA.out HLT.out HG.out.size
        generalize ((((w5.setCell ⟨W.heap.size, 3, none⟩ (.slice ps sl.length cs)).setCell ⟨w.heap.size, 0, none⟩ (.int .i64 x0)).setCell ⟨w.heap.size, 1, none⟩ (.int .i64 a1)).setCell ⟨w.heap.size, 2, none⟩ (.int .i64 a2)).setCell ⟨w.heap.size, 3, none⟩ (.slice ps sl.length cs) = A9 at RF GF GS ⊢
        have t0 := RF.cell (k := 0) (by omega); have t1 := RF.cell (k := 1) (by omega); have t2 := RF.cell (k := 2) (by omega); have t3 := RF.cell (k := 3) (by omega)
        simp only [rqV] at t0 t1 t2 t3
        refine bodyPost_ret (v := .tuple #[.agg #[.int .i64 x0, .int .i64 a1, .int .i64 a2, .slice ps sl.length cs], .int .i64 (-1), .int .i64 x1, .int .i64 0]) (by simp [results, Try.results14, go_sem, t0, t1, t2, t3]) rfl (.yes HV.out GS GF)
      · have hv := HVQ.out rfl
        have HV := hid hv
        clear hv HVQ HVY
        go_wp2_with (first
          | (go_at_call 35; refine (HM1.out _).mono ?_; rintro e w' ⟨rfl, rfl⟩)
          | (go_at_call 37; refine (HS.out _ HBL.out).mono ?_; rintro e w5 ⟨ps, cs, rfl, hsa, hba, g5⟩; have HG5 := hid (HGW2.out.trans g5); have hZ5 := hid (HZ.out.grown g5 (by simp)); have s0 := hZ5.out.cell (k := 0) (by omega); have s1 := hZ5.out.cell (k := 1) (by omega); have s2 := hZ5.out.cell (k := 2) (by omega); have s3 := hZ5.out.cell (k := 3) (by omega); have sz := hZ5.out.frozen; (simp only [rqV] at s0 s1 s2 s3); clear hsa hba g5))
        have rs := set4 hZ5.out (.int .i64 0) (.int .i64 0) (.int .i64 0) (.slice none 0 0)
        have gs := set4_grown w5 w.heap.size (.int .i64 0) (.int .i64 0) (.int .i64 0) (.slice none 0 0)
        have hG2 := (HG5.out).andThen gs (fun j e => .inl (by cases e; exact Nat.le_refl _))
        clear gs
        generalize ((((w5.setCell ⟨w.heap.size, 0, none⟩ (.int .i64 0)).setCell ⟨w.heap.size, 1, none⟩ (.int .i64 0)).setCell ⟨w.heap.size, 2, none⟩ (.int .i64 0)).setCell ⟨w.heap.size, 3, none⟩ (.slice none 0 0)) = A9 at rs hG2 ⊢
        have t0 := rs.cell (k := 0) (by omega); have t1 := rs.cell (k := 1) (by omega); have t2 := rs.cell (k := 2) (by omega); have t3 := rs.cell (k := 3) (by omega)
        simp only [rqV] at t0 t1 t2 t3
        refine bodyPost_ret (v := .tuple #[.agg #[.int .i64 0, .int .i64 0, .int .i64 0, .slice none 0 0], .int .i64 0, .int .i64 0, .int .i64 4]) (by simp [results, Try.results14, go_sem, t0, t1, t2, t3]) rfl (.no HV.out hG2)
  · have q0 : decide ((3 : Int) < x0) = false := by simp; omega
    have q1 : ((x0 : Int) == 3) = true := by simp; omega
    have RN := HN.out.set (k := 0) (v := .int .i64 x9) (X' := rqV (.int .i64 x9) (.int .i64 a1) (.int .i64 a2) (.slice none 0 0)) rfl (fun j _ hj => by match j, hj with | 1, _ => rfl | 2, _ => rfl | _ + 3, _ => rfl)
    have RZ := HZ.out.setOther ⟨W.heap.size, 0, none⟩ hne2 (.int .i64 x9)
    have GN := hid (HGW2.out.andThen (grownBy_setCell W2 W.heap.size 0 none (.int .i64 x9)) (fun j e => .inl (by cases e; exact HG.out.size)))
    have RN := hid RN; have RZ := hid RZ
    by_cases h9 : x9 ≤ 1
    · have q9 : decide ((1 : Int) < x9) = false := by simp; omega
      cases hm : manyV x9 x1 16 with
      | false =>
        have hv : V = (⟨0, 0, 0, []⟩, 0, 0, 4) := HCS.out.2.1 heq (by simp [hm])
        have HV := hid hv
        have HM1 := hid (fun w' => hm ▸ HM.out x9 x1 16 w')
        clear hv hm heq h9
        go_wp2_with (go_at_call 35; refine (HM1.out _).mono ?_; rintro e w' ⟨rfl, rfl⟩)
        have rs := set4 RZ.out (.int .i64 0) (.int .i64 0) (.int .i64 0) (.slice none 0 0)
        have gs := set4_grown (W2.setCell ⟨W.heap.size, 0, none⟩ (.int .i64 x9)) w.heap.size (.int .i64 0) (.int .i64 0) (.int .i64 0) (.slice none 0 0)
        have hG2 := (GN.out).andThen gs (fun j e => .inl (by cases e; exact Nat.le_refl _))
        clear gs
        generalize (((((W2.setCell ⟨W.heap.size, 0, none⟩ (.int .i64 x9)).setCell ⟨w.heap.size, 0, none⟩ (.int .i64 0)).setCell ⟨w.heap.size, 1, none⟩ (.int .i64 0)).setCell ⟨w.heap.size, 2, none⟩ (.int .i64 0)).setCell ⟨w.heap.size, 3, none⟩ (.slice none 0 0)) = A9 at rs hG2 ⊢
        have t0 := rs.cell (k := 0) (by omega); have t1 := rs.cell (k := 1) (by omega); have t2 := rs.cell (k := 2) (by omega); have t3 := rs.cell (k := 3) (by omega)
        simp only [rqV] at t0 t1 t2 t3
        refine bodyPost_ret (v := .tuple #[.agg #[.int .i64 0, .int .i64 0, .int .i64 0, .slice none 0 0], .int .i64 0, .int .i64 0, .int .i64 4]) (by simp [results, Try.results14, go_sem, t0, t1, t2, t3]) rfl (.no HV.out hG2)
      | true =>
        have hv : V = (Rq.mk (x9 : Int) a1 a2 [], (x8 : Int), (x1 : Int), (0 : Int)) := HCS.out.2.2.1 heq (by simp [hm, h9])
        have HV := hid hv
        have HM1 := hid (fun w' => hm ▸ HM.out x9 x1 16 w')
        have b8' : (W2.setCell ⟨W.heap.size, 0, none⟩ (.int .i64 x9)).cell? ⟨b, o + 8, none⟩ = some (.int .u8 x8) := by
          have hbne : b ≠ W.heap.size := by
            exact fun e => HN0.out e.symm
          rw [World.cell?_of_block (a := ⟨b, o + 8, none⟩) (heap_setCell_other W2 _ b _ hbne)]; exact b8
        clear hv hm heq h9
        go_wp2_with (go_at_call 35; refine (HM1.out _).mono ?_; rintro e w' ⟨rfl, rfl⟩)
        have hb8 := hid b8'
        clear b8' b8 b9 f0 f1 f2 f3 ff z0 z1 z2 z3 zz
        obtain ⟨A1, hA1⟩ : ∃ A1, W2.setCell ⟨W.heap.size, 0, none⟩ (.int .i64 x9) = A1 := ⟨_, rfl⟩
        rw [hA1] at RN RZ GN hb8 ⊢
        clear hA1
        have b8 := hb8.out
        have f0 := RN.out.cell (k := 0) (by omega); have f1 := RN.out.cell (k := 1) (by omega); have f2 := RN.out.cell (k := 2) (by omega); have f3 := RN.out.cell (k := 3) (by omega); have ff := RN.out.frozen
        have z0 := RZ.out.cell (k := 0) (by omega); have z1 := RZ.out.cell (k := 1) (by omega); have z2 := RZ.out.cell (k := 2) (by omega); have z3 := RZ.out.cell (k := 3) (by omega); have zz := RZ.out.frozen
        simp only [rqV] at f0 f1 f2 f3 z0 z1 z2 z3
        have k8 : ((((A1.setCell ⟨w.heap.size, 0, none⟩ (.int .i64 x9)).setCell ⟨w.heap.size, 1, none⟩ (.int .i64 a1)).setCell ⟨w.heap.size, 2, none⟩ (.int .i64 a2)).setCell ⟨w.heap.size, 3, none⟩ (.slice none 0 0)).drew.cell? ⟨b, o + 8, none⟩ = some (.int .u8 x8) := by
          have := (set4_grown A1 w.heap.size (.int .i64 x9) (.int .i64 a1) (.int .i64 a2) (.slice none 0 0)).cell b8 (by simpa using HNB.out)
          exact this
        have hgs := set4_grown A1 w.heap.size (.int .i64 x9) (.int .i64 a1) (.int .i64 a2) (.slice none 0 0)
        have k0' := hgs.cell f0 (by simpa using hne1)
        have k1' := hgs.cell f1 (by simpa using hne1)
        have k2' := hgs.cell f2 (by simpa using hne1)
        have k3' := hgs.cell f3 (by simpa using hne1)
        have rs := set4 RZ.out (.int .i64 x9) (.int .i64 a1) (.int .i64 a2) (.slice none 0 0)
        have HRS := hid rs
        have HGS := hid (GN.out.andThen hgs (fun j e => .inl (by cases e; exact Nat.le_refl _)))
        have K := hid (show (fun w' : World => w'.cell? ⟨b, o + 8, none⟩ = some (.int .u8 (x8 : Nat)) ∧ w'.cell? ⟨W.heap.size, 0, none⟩ = some (.int .i64 x9) ∧ w'.cell? ⟨W.heap.size, 1, none⟩ = some (.int .i64 a1) ∧ w'.cell? ⟨W.heap.size, 2, none⟩ = some (.int .i64 a2) ∧ w'.cell? ⟨W.heap.size, 3, none⟩ = some (.slice none 0 0)) ((((A1.setCell ⟨w.heap.size, 0, none⟩ (.int .i64 x9)).setCell ⟨w.heap.size, 1, none⟩ (.int .i64 a1)).setCell ⟨w.heap.size, 2, none⟩ (.int .i64 a2)).setCell ⟨w.heap.size, 3, none⟩ (.slice none 0 0)).drew from ⟨k8, k0', k1', k2', k3'⟩)
        clear k8 k0' k1' k2' k3' hgs rs
        refine wp_region_held_drew (S := (fun w' => w'.cell? ⟨b, o + 8, none⟩ = some (.int .u8 (x8 : Nat)) ∧ w'.cell? ⟨W.heap.size, 0, none⟩ = some (.int .i64 x9) ∧ w'.cell? ⟨W.heap.size, 1, none⟩ = some (.int .i64 a1) ∧ w'.cell? ⟨W.heap.size, 2, none⟩ = some (.int .i64 a2) ∧ w'.cell? ⟨W.heap.size, 3, none⟩ = some (.slice none 0 0))) (by kernel_rfl) ⟨b8, f0, f1, f2, f3⟩ (fun hH => ?_)
        try dsimp only [Act.put]
        try simp only [List.setIfInBounds_toArray, List.set_cons_zero, List.set_cons_succ]
        refine wpAnyH_take (i := 0) (v := ?v0) (by simp only [List.getElem?_toArray, List.getElem?_cons_zero, List.getElem?_cons_succ]; rfl) (by kernel_rfl) (by kernel_rfl) (by kernel_rfl) (by intro _ _ _ h; exact h) (Or.inl ⟨by rfl, ?y0⟩) (by assumption) ?r0
        case y0 =>
          intro WW hSw
          obtain ⟨hs0, hs1, hs2, hs3, hs4⟩ := hSw
          go_simp
          try with_reducible rfl
        try dsimp only [Act.put]
        try simp only [List.setIfInBounds_toArray, List.set_cons_zero, List.set_cons_succ]
        refine wpAnyH_take (i := 1) (v := ?v1) (by simp only [List.getElem?_toArray, List.getElem?_cons_zero, List.getElem?_cons_succ]; rfl) (by kernel_rfl) (by kernel_rfl) (by kernel_rfl) (by intro _ _ _ h; exact h) (Or.inl ⟨by rfl, ?y1⟩) (by assumption) ?r1
        case y1 =>
          intro WW hSw
          obtain ⟨hs0, hs1, hs2, hs3, hs4⟩ := hSw
          go_simp
          try with_reducible rfl
        try dsimp only [Act.put]
        try simp only [List.setIfInBounds_toArray, List.set_cons_zero, List.set_cons_succ]
        refine wpAnyH_take (i := 2) (v := ?v2) (by simp only [List.getElem?_toArray, List.getElem?_cons_zero, List.getElem?_cons_succ]; rfl) (by kernel_rfl) (by kernel_rfl) (by kernel_rfl) (by intro _ _ _ h; exact h) (Or.inl ⟨by rfl, ?y2⟩) (by assumption) ?r2
        case y2 =>
          intro WW hSw
          obtain ⟨hs0, hs1, hs2, hs3, hs4⟩ := hSw
          go_simp
          try with_reducible rfl
        try dsimp only [Act.put]
        try simp only [List.setIfInBounds_toArray, List.set_cons_zero, List.set_cons_succ]
        refine wpAnyH_take (i := 3) (v := ?v3) (by simp only [List.getElem?_toArray, List.getElem?_cons_zero, List.getElem?_cons_succ]; rfl) (by kernel_rfl) (by kernel_rfl) (by kernel_rfl) (by intro _ _ _ h; exact h) (Or.inl ⟨by rfl, ?y3⟩) (by assumption) ?r3
        case y3 =>
          intro WW hSw
          obtain ⟨hs0, hs1, hs2, hs3, hs4⟩ := hSw
          go_simp
          try with_reducible rfl
        try dsimp only [Act.put]
        try simp only [List.setIfInBounds_toArray, List.set_cons_zero, List.set_cons_succ]
        refine wpAnyH_take (i := 4) (v := ?v4) (by simp only [List.getElem?_toArray, List.getElem?_cons_zero, List.getElem?_cons_succ]; rfl) (by kernel_rfl) (by kernel_rfl) (by kernel_rfl) (by intro _ _ _ h; exact h) (Or.inl ⟨by rfl, ?y4⟩) (by assumption) ?r4
        case y4 =>
          intro WW hSw
          obtain ⟨hs0, hs1, hs2, hs3, hs4⟩ := hSw
          go_simp
          try with_reducible rfl
        try dsimp only [Act.put]
        try simp only [List.setIfInBounds_toArray, List.set_cons_zero, List.set_cons_succ]
        refine wpAnyH_take (i := 5) (v := ?v5) (by simp only [List.getElem?_toArray, List.getElem?_cons_zero, List.getElem?_cons_succ]; rfl) (by kernel_rfl) (by kernel_rfl) (by kernel_rfl) (by intro _ _ _ h; exact h) (Or.inl ⟨by rfl, ?y5⟩) (by assumption) ?r5
        case y5 =>
          intro WW hSw
          obtain ⟨hs0, hs1, hs2, hs3, hs4⟩ := hSw
          go_simp
          try with_reducible rfl
        try dsimp only [Act.put]
        try simp only [List.setIfInBounds_toArray, List.set_cons_zero, List.set_cons_succ]
        refine wpAnyH_ready (rs := [6]) (by kernel_rfl) (by simp) ?_
        refine AllReadyH.cons (by simp only [List.getElem?_toArray, List.getElem?_cons_zero, List.getElem?_cons_succ]; rfl) (fun K0 hK0 => ?_) AllReadyH.nil
        go_simp
        refine hK0.out _ _ K.out (fun hH => ?_)
        clear hK0 K0
        try dsimp only [Act.put]
        try simp only [List.setIfInBounds_toArray, List.set_cons_zero, List.set_cons_succ]
        refine wpAnyH_take (i := 7) (v := ?v7) (by simp only [List.getElem?_toArray, List.getElem?_cons_zero, List.getElem?_cons_succ]; rfl) (by kernel_rfl) (by kernel_rfl) (by kernel_rfl) (by intro _ _ _ h; exact h) (Or.inl ⟨by rfl, ?y7⟩) (by assumption) ?r7
        case y7 =>
          intro WW hSw
          obtain ⟨hs0, hs1, hs2, hs3, hs4⟩ := hSw
          go_simp
          try with_reducible rfl
        try dsimp only [Act.put]
        try simp only [List.setIfInBounds_toArray, List.set_cons_zero, List.set_cons_succ]
        refine wpAnyH_take (i := 8) (v := ?v8) (by simp only [List.getElem?_toArray, List.getElem?_cons_zero, List.getElem?_cons_succ]; rfl) (by kernel_rfl) (by kernel_rfl) (by kernel_rfl) (by intro _ _ _ h; exact h) (Or.inl ⟨by rfl, ?y8⟩) (by assumption) ?r8
        case y8 =>
          intro WW hSw
          obtain ⟨hs0, hs1, hs2, hs3, hs4⟩ := hSw
          go_simp
          try with_reducible rfl
        try dsimp only [Act.put]
        try simp only [List.setIfInBounds_toArray, List.set_cons_zero, List.set_cons_succ]
        refine wpAnyH_take (i := 9) (v := ?v9) (by simp only [List.getElem?_toArray, List.getElem?_cons_zero, List.getElem?_cons_succ]; rfl) (by kernel_rfl) (by kernel_rfl) (by kernel_rfl) (by intro _ _ _ h; exact h) (Or.inl ⟨by rfl, ?y9⟩) (by assumption) ?r9
        case y9 =>
          intro WW hSw
          obtain ⟨hs0, hs1, hs2, hs3, hs4⟩ := hSw
          go_simp
          try with_reducible rfl
        try dsimp only [Act.put]
        try simp only [List.setIfInBounds_toArray, List.set_cons_zero, List.set_cons_succ]
        refine wpAnyH_done (by kernel_rfl) ?_ _
        have hRF := HRS.out.grown (grownBy_drew _ none) (by simp)
        have hGF := HGS.out.trans (grownBy_drew _ none)
        generalize ((((A1.setCell ⟨w.heap.size, 0, none⟩ (.int .i64 x9)).setCell ⟨w.heap.size, 1, none⟩ (.int .i64 a1)).setCell ⟨w.heap.size, 2, none⟩ (.int .i64 a2)).setCell ⟨w.heap.size, 3, none⟩ (.slice none 0 0)).drew = A9 at hRF hGF ⊢
        clear hH K HRS HGS b8 f0 f1 f2 f3 ff z0 z1 z2 z3 zz
        have t0 := hRF.cell (k := 0) (by omega); have t1 := hRF.cell (k := 1) (by omega); have t2 := hRF.cell (k := 2) (by omega); have t3 := hRF.cell (k := 3) (by omega)
        simp only [rqV] at t0 t1 t2 t3
        rw [show IntKind.i64.wrap (x8 : Int) = x8 from w64 x8 (by omega) (by omega)]
        go_wp2
        refine bodyPost_ret (v := .tuple #[.agg #[.int .i64 x9, .int .i64 a1, .int .i64 a2, .slice none 0 0], .int .i64 x8, .int .i64 x1, .int .i64 0]) (by simp [results, Try.results14, go_sem, t0, t1, t2, t3]) rfl (.yes HV.out (SA.nil _ _) hGF)
    · have q9 : decide ((1 : Int) < x9) = true := by simp; omega
      have hv : V = (⟨0, 0, 0, []⟩, 0, 0, 4) := HCS.out.2.1 heq (by simp [h9])
      have HV := hid hv
      clear hv heq h9
      go_wp2
      have rs := set4 RZ.out (.int .i64 0) (.int .i64 0) (.int .i64 0) (.slice none 0 0)
      have gs := set4_grown (W2.setCell ⟨W.heap.size, 0, none⟩ (.int .i64 x9)) w.heap.size (.int .i64 0) (.int .i64 0) (.int .i64 0) (.slice none 0 0)
      have hG2 := (GN.out).andThen gs (fun j e => .inl (by cases e; exact Nat.le_refl _))
      clear gs
      generalize (((((W2.setCell ⟨W.heap.size, 0, none⟩ (.int .i64 x9)).setCell ⟨w.heap.size, 0, none⟩ (.int .i64 0)).setCell ⟨w.heap.size, 1, none⟩ (.int .i64 0)).setCell ⟨w.heap.size, 2, none⟩ (.int .i64 0)).setCell ⟨w.heap.size, 3, none⟩ (.slice none 0 0)) = A9 at rs hG2 ⊢
      have t0 := rs.cell (k := 0) (by omega); have t1 := rs.cell (k := 1) (by omega); have t2 := rs.cell (k := 2) (by omega); have t3 := rs.cell (k := 3) (by omega)
      simp only [rqV] at t0 t1 t2 t3
      refine bodyPost_ret (v := .tuple #[.agg #[.int .i64 0, .int .i64 0, .int .i64 0, .slice none 0 0], .int .i64 0, .int .i64 0, .int .i64 4]) (by simp [results, Try.results14, go_sem, t0, t1, t2, t3]) rfl (.no HV.out hG2)
  · have q0 : decide ((3 : Int) < x0) = true := by simp; omega
    have hv : V = (⟨0, 0, 0, []⟩, 0, 0, 4) := HCS.out.1 hgt
    have HV := hid hv
    clear hv hgt
    go_wp2
    have rs := set4 HZ.out (.int .i64 0) (.int .i64 0) (.int .i64 0) (.slice none 0 0)
    have gs := set4_grown W2 w.heap.size (.int .i64 0) (.int .i64 0) (.int .i64 0) (.slice none 0 0)
    have hG2 := (HGW2.out).andThen gs (fun j e => .inl (by cases e; exact Nat.le_refl _))
    clear gs
    generalize ((((W2.setCell ⟨w.heap.size, 0, none⟩ (.int .i64 0)).setCell ⟨w.heap.size, 1, none⟩ (.int .i64 0)).setCell ⟨w.heap.size, 2, none⟩ (.int .i64 0)).setCell ⟨w.heap.size, 3, none⟩ (.slice none 0 0)) = A9 at rs hG2 ⊢
    have t0 := rs.cell (k := 0) (by omega); have t1 := rs.cell (k := 1) (by omega); have t2 := rs.cell (k := 2) (by omega); have t3 := rs.cell (k := 3) (by omega)
    simp only [rqV] at t0 t1 t2 t3
    refine bodyPost_ret (v := .tuple #[.agg #[.int .i64 0, .int .i64 0, .int .i64 0, .slice none 0 0], .int .i64 0, .int .i64 0, .int .i64 4]) (by simp [results, Try.results14, go_sem, t0, t1, t2, t3]) rfl (.no HV.out hG2)
end Go.Proofs.Ytoeohbiofmcdeaa.Bk
