/-
  Package path: take at a domain's place.
-/
import Derived.Test.YtmnolfaejneomaaDoorPaY
import Derived.Deep.QuietTactic
import Derived.Deep.RegionHeld3
set_option linter.unusedSimpArgs false
set_option linter.unusedVariables false
namespace Go.Proofs.YtmnolfaejneomaaDoor
open Go.RowKit
set_option maxHeartbeats 4000000
theorem dig_num {r : Int} {d : Int} (h : domB d = true) : 0 ≤ d ∧ d < 8 := by simpa [domB] using h
theorem set1 {w : World} {b B0 : Nat} {l : List PD} {nx : PD} {v : Value} (z : Int) (hh : w.heap[b]? = some (partsO v nx)) : (w.setCell ⟨b, 1, none⟩ (.int .i64 z)).heap[b]? = some (partsO v (z, nx.2)) :=
  heap_setCell_same w b 1 _ _ (.int .i64 z) hh
/-- behind the append: the row is longer, and the parts hold it -/
theorem grown_parts {X w3 : World} {b B0 g cap : Nat} {l : List PD} {nx : PD} {v : Value} (hX : X.heap[b]? = some (partsO v nx)) (hb : b < B0) (hB : B0 ≤ X.heap.size) (ho : X.ownsRow B0 56 3 v l.length (pcl l))
    (hown : w3.ownsRow B0 56 3 (.slice (some ⟨g, 0, none⟩) (l.length + 1) cap) (l.length + 1) (pcl l ++ [.int .i64 nx.1, .bool nx.2.1, .bool nx.2.2])) (hg : X.grownBy w3 v.ownBlock) :
    w3.heap[b]? = some (partsO v nx) ∧ PT (w3.setCell ⟨b, 0, none⟩ (.slice (some ⟨g, 0, none⟩) (l.length + 1) cap)) b B0 (l ++ [nx]) nx ∧ Below b X (w3.setCell ⟨b, 0, none⟩ (.slice (some ⟨g, 0, none⟩) (l.length + 1) cap)) ∧ Lib.OthersKept 56 (some b) X (w3.setCell ⟨b, 0, none⟩ (.slice (some ⟨g, 0, none⟩) (l.length + 1) cap)) := by
  have h3 : w3.heap[b]? = some (partsO v nx) := (hg.block b (by omega) (own_ne ho hb)).trans hX
  have hlow : ∀ k, k < b → some k ≠ v.ownBlock := fun k hk => own_ne ho (by omega)
  refine ⟨h3, ⟨_, heap_setCell_same w3 b 0 _ _ _ h3, ?_, hb, by have := hg.size; simp; omega⟩, ?_, ?_⟩
  · rw [List.length_append, List.length_cons, List.length_nil, pcl_snoc]
    exact own_setCell hown hb
  · exact (show Below b X w3 from ⟨hg.os, hg.tape, hg.output, hg.size, fun k hk => hg.block k (by omega) (hlow k hk)⟩).trans below_set
  · refine Lib.OthersKept.trans (c := w3) (fun k o hk hkb hne => ?_) kept_set
    refine (hg.block k (Array.getElem?_eq_some_iff.1 hk).1 fun e => ?_).trans hk
    rcases ho.2 with ⟨rfl, _⟩ | ⟨g', cap', cur, rfl, _, hg', _⟩
    · simp [Value.ownBlock] at e
    · have e : k = g' := by simpa [Value.ownBlock] using e
      subst e
      rw [hk] at hg'
      exact hne _ _ (Option.some.inj hg')
theorem tk1_yes (b B0 : Nat) (l : List PD) (nx : PD) (a : Int) (r : Int) (w : World) (h : PT w b B0 l nx) (hm : a.tmod 3 = 1) (h8 : l.length < 8) (hr0 : -1 ≤ r) (hr1 : r ≤ 2147483647) (hd : domB (r - 48) = true) (hv : hasV l (r - 48) = false) :
    Calls Tryd.prog 30 #[.pointer (some ⟨b, 0, none⟩), .int .i64 a, .int .i32 r] w (TkPost b B0 (l ++ [(r - 48, nx.2)]) (r - 48, nx.2) w) := by
  obtain ⟨v, hh, hown, hb, hB⟩ := h
  obtain ⟨p, c, rfl⟩ := PT.len_slice hown
  obtain ⟨⟨c0, c1, c2, c3⟩, f0, f1, f2, f3⟩ := parts_cells hh
  have HDg := hid (paDig r w hr0 hr1)
  rw [hd, if_pos rfl] at HDg
  have HDd := hid (dig_num (r := r) hd)
  obtain ⟨d, hdr⟩ : ∃ d, r - 48 = d := ⟨_, rfl⟩
  rw [hdr] at HDg HDd hv ⊢
  have HW1 := hid (set1 (B0 := B0) (l := l) d hh)
  have HO1 := hid (own_setCell (i := 1) (u := .int .i64 d) hown hb)
  have HB1 := hid (show Below b w (w.setCell ⟨b, 1, none⟩ (.int .i64 d)) from below_set)
  have HK1 := hid (show Lib.OthersKept 56 (some b) w (w.setCell ⟨b, 1, none⟩ (.int .i64 d)) from kept_set)
  have HC := hid (by
    obtain ⟨p', c', e, hc, hg⟩ := pg_own (W := (w.setCell ⟨b, 1, none⟩ (.int .i64 d)).drew) HO1.out
    cases e
    have := paHas l p l.length c d (w.setCell ⟨b, 1, none⟩ (.int .i64 d)).drew (Nat.le_refl _) (by omega) hg
    rw [List.take_of_length_le (Nat.le_refl _), hv] at this
    exact this)
  have HBs := hid hB
  obtain ⟨i0, hi, hz⟩ := Option.map_eq_some_iff.1 infoPe
  simp only [Prod.mk.injEq] at hz
  have Hi := hid hi
  have Hz0 := hid hz.1
  have Hz1 := hid hz.2.1
  have Hz2 := hid hz.2.2
  clear hi hz
  clear hown hh hd hv hr0 hr1 hdr c2 c3 hB
  obtain ⟨nd, nr, nw⟩ := nx
  obtain ⟨W1, hW1⟩ : ∃ W1, w.setCell ⟨b, 1, none⟩ (.int .i64 d) = W1 := ⟨_, rfl⟩
  rw [hW1] at HW1 HO1 HB1 HK1 HC
  have k0 := (parts_cells HW1.out).1.1
  have k1 := (parts_cells HW1.out).1.2.1
  go_enter Tryd.func30, Tryd.ntmps30
  go_wp2_with (go_at_call 45; refine HDg.out.mono ?_; rintro e w2 ⟨rfl, rfl⟩)
  clear hW1 c0 c1 f0 f1 f2 f3
  go_region_held3 (fun w' => w'.cell? ⟨b, 0, none⟩ = some (.slice p l.length c) ∧ w'.cell? ⟨b, 1, none⟩ = some (.int .i64 d)) (first | exact ⟨by assumption, by assumption⟩ | go_keep)
    (first | (go_at_call 32; refine HC.out.mono ?_; rintro e w2 ⟨rfl, hb2⟩; have HB2 := hid hb2; have HH2 := hid (heap_below (w := W1.drew) HW1.out hb2); have HO2 := hid (own_below (w := W1.drew) HO1.out hb2); have q0 := (parts_cells HH2.out).1.1; have q1 := (parts_cells HH2.out).1.2.1; clear hb2))
  all_goals
    have KC2 := hid (parts_cells HH2.out)
    obtain ⟨⟨q2, q3⟩, g0, g1, g2, g3⟩ := (show (w2.cell? ⟨b, 2, none⟩ = some (.bool nr) ∧ w2.cell? ⟨b, 3, none⟩ = some (.bool nw)) ∧ _ from ⟨⟨KC2.out.1.2.2.1, KC2.out.1.2.2.2⟩, KC2.out.2⟩)
    clear k0 k1
    have HbW := hid (show b ≤ W1.heap.size by have := HB1.out.size; have := HBs.out; omega)
    have HBw := hid (show w.heap.size ≤ w2.heap.size from Nat.le_trans HB1.out.size HB2.out.size)
    have HbW2 := hid (show b ≤ w2.heap.size by have := HBw.out; have := HBs.out; omega)
    go_wp2_with fail
    obtain ⟨X, hX⟩ : ∃ X, w2.alloc (.cells #[.int .i64 d, .bool nr, .bool nw] 56) = X := ⟨_, rfl⟩
    have hXb : Below w2.heap.size w2 X := hX ▸ (Below.refl w2.heap.size w2).alloc (Nat.le_refl _) _
    have HXb := hid hXb
    have HXh := hid (heap_below HH2.out hXb)
    have HXo := hid (own_below HO2.out hXb)
    have HXs := hid (show X.heap.size = w2.heap.size + 1 by rw [← hX]; simp)
    have HXn := hid (show X.heap[w2.heap.size]? = some (.cells #[.int .i64 d, .bool nr, .bool nw] 56 (0, 0)) from by rw [← hX]; exact (MapKept.heap_alloc w2 _).1)
    have HbX := hid (show B0 ≤ X.heap.size from Nat.le_trans (Nat.le_trans HBs.out HBw.out) hXb.size)
    have x0 := (parts_cells HXh.out).1.1
    clear hXb
    go_region_law (refine step_append_lies _ (by rfl) _ _ 30 (by rfl) B0 56 i0 (.agg #[.int .i64 0, .bool false, .bool false]) 3 16 Tryd.underlying30 Hi.out Hz0.out Hz1.out Hz2.out rfl (by decide) (.slice p l.length c) l.length (pcl l) (by rfl) HXo.out ⟨w2.heap.size, 0, none⟩ 1 1 [.int .i64 d, .bool nr, .bool nw] (by rfl) rfl (World.news_of_block HXn.out) (by simp [Value.oneCell']) (by omega) (by unfold maxLen; omega) (by omega) HbX.out (w2.heap.size + 1) HXs.out ?_; intro gb cb w3 hown hgrow hat hlt2; have hgrow2 : X.grownBy w3 (Value.slice p l.length c).ownBlock := (by first | exact hgrow | exact (World.grownBy.mk rfl rfl rfl (Nat.le_refl _) (fun _ _ _ => rfl) : X.grownBy X.drew _).trans hgrow); have HGp := hid (grown_parts (nx := (d, nr, nw)) HXh.out hb HbX.out HXo.out hown hgrow2); have s0 := (parts_cells HGp.out.1).1.1; have s1 := (parts_cells HGp.out.1).2.1; clear hown hgrow hat hlt2 hgrow2)
    all_goals clear hX
    all_goals go_wp2
    all_goals go_ret2
    all_goals exact ⟨rfl, HGp.out.2.1, (below_drew' HB1.out).trans ((HB2.out.mono HbW.out).trans ((HXb.out.mono HbW2.out).trans HGp.out.2.2.1)), HK1.out.drew.trans ((kept_of_below HB2.out : Lib.OthersKept 56 (some b) W1.drew w2).trans ((kept_of_below HXb.out).trans HGp.out.2.2.2))⟩
theorem tk1_has (b B0 : Nat) (l : List PD) (nx : PD) (a : Int) (r : Int) (w : World) (h : PT w b B0 l nx) (hm : a.tmod 3 = 1) (h8 : l.length < 8) (hr0 : -1 ≤ r) (hr1 : r ≤ 2147483647) (hd : domB (r - 48) = true) (hv : hasV l (r - 48) = true) :
    Calls Tryd.prog 30 #[.pointer (some ⟨b, 0, none⟩), .int .i64 a, .int .i32 r] w (TkNo w · · b) := by
  obtain ⟨v, hh, hown, hb, hB⟩ := h
  obtain ⟨p, c, rfl⟩ := PT.len_slice hown
  obtain ⟨⟨c0, c1, c2, c3⟩, f0, f1, f2, f3⟩ := parts_cells hh
  have HDg := hid (paDig r w hr0 hr1)
  rw [hd, if_pos rfl] at HDg
  have HDd := hid (dig_num (r := r) hd)
  obtain ⟨d, hdr⟩ : ∃ d, r - 48 = d := ⟨_, rfl⟩
  rw [hdr] at HDg HDd hv
  have HW1 := hid (set1 (B0 := B0) (l := l) d hh)
  have HO1 := hid (own_setCell (i := 1) (u := .int .i64 d) hown hb)
  have HB1 := hid (show Below b w (w.setCell ⟨b, 1, none⟩ (.int .i64 d)) from below_set)
  have HK1 := hid (show Lib.OthersKept 56 (some b) w (w.setCell ⟨b, 1, none⟩ (.int .i64 d)) from kept_set)
  have HC := hid (by
    obtain ⟨p', c', e, hc, hg⟩ := pg_own (W := (w.setCell ⟨b, 1, none⟩ (.int .i64 d)).drew) HO1.out
    cases e
    have := paHas l p l.length c d (w.setCell ⟨b, 1, none⟩ (.int .i64 d)).drew (Nat.le_refl _) (by omega) hg
    rw [List.take_of_length_le (Nat.le_refl _), hv] at this
    exact this)
  have HBs := hid hB
  obtain ⟨i0, hi, hz⟩ := Option.map_eq_some_iff.1 infoPe
  simp only [Prod.mk.injEq] at hz
  have Hi := hid hi
  have Hz0 := hid hz.1
  have Hz1 := hid hz.2.1
  have Hz2 := hid hz.2.2
  clear hi hz
  clear hown hh hd hv hr0 hr1 hdr c2 c3 hB
  obtain ⟨nd, nr, nw⟩ := nx
  obtain ⟨W1, hW1⟩ : ∃ W1, w.setCell ⟨b, 1, none⟩ (.int .i64 d) = W1 := ⟨_, rfl⟩
  rw [hW1] at HW1 HO1 HB1 HK1 HC
  have k0 := (parts_cells HW1.out).1.1
  have k1 := (parts_cells HW1.out).1.2.1
  go_enter Tryd.func30, Tryd.ntmps30
  go_wp2_with (go_at_call 45; refine HDg.out.mono ?_; rintro e w2 ⟨rfl, rfl⟩)
  clear hW1 c0 c1 f0 f1 f2 f3
  go_region_held3 (fun w' => w'.cell? ⟨b, 0, none⟩ = some (.slice p l.length c) ∧ w'.cell? ⟨b, 1, none⟩ = some (.int .i64 d)) (first | exact ⟨by assumption, by assumption⟩ | go_keep)
    (first | (go_at_call 32; refine HC.out.mono ?_; rintro e w2 ⟨rfl, hb2⟩; have HB2 := hid hb2; have HH2 := hid (heap_below (w := W1.drew) HW1.out hb2); have HO2 := hid (own_below (w := W1.drew) HO1.out hb2); have q0 := (parts_cells HH2.out).1.1; have q1 := (parts_cells HH2.out).1.2.1; clear hb2))
  all_goals
    have KC2 := hid (parts_cells HH2.out)
    obtain ⟨⟨q2, q3⟩, g0, g1, g2, g3⟩ := (show (w2.cell? ⟨b, 2, none⟩ = some (.bool nr) ∧ w2.cell? ⟨b, 3, none⟩ = some (.bool nw)) ∧ _ from ⟨⟨KC2.out.1.2.2.1, KC2.out.1.2.2.2⟩, KC2.out.2⟩)
    clear k0 k1
    have HbW := hid (show b ≤ W1.heap.size by have := HB1.out.size; have := HBs.out; omega)
    have HBw := hid (show w.heap.size ≤ w2.heap.size from Nat.le_trans HB1.out.size HB2.out.size)
    go_wp2
    go_ret2
    exact ⟨_, 8, rfl, by decide, (below_drew' HB1.out).trans (HB2.out.mono HbW.out)⟩
theorem tk1_no (b B0 : Nat) (l : List PD) (nx : PD) (a : Int) (r : Int) (w : World) (h : PT w b B0 l nx) (hm : a.tmod 3 = 1) (h8 : l.length < 8) (hr0 : -1 ≤ r) (hr1 : r ≤ 2147483647) (hd : domB (r - 48) = false) :
    Calls Tryd.prog 30 #[.pointer (some ⟨b, 0, none⟩), .int .i64 a, .int .i32 r] w (TkNo w · · b) := by
  obtain ⟨v, hh, hown, hb, hB⟩ := h
  obtain ⟨p, c, rfl⟩ := PT.len_slice hown
  obtain ⟨⟨c0, c1, c2, c3⟩, f0, f1, f2, f3⟩ := parts_cells hh
  have HDg := hid (paDig r w hr0 hr1)
  rw [hd, if_neg (by decide)] at HDg
  obtain ⟨d, hdr⟩ : ∃ d : Int, d = 0 := ⟨_, rfl⟩
  rw [← hdr] at HDg
  have HW1 := hid (set1 (B0 := B0) (l := l) d hh)
  have HO1 := hid (own_setCell (i := 1) (u := .int .i64 d) hown hb)
  have HB1 := hid (show Below b w (w.setCell ⟨b, 1, none⟩ (.int .i64 d)) from below_set)
  have HK1 := hid (show Lib.OthersKept 56 (some b) w (w.setCell ⟨b, 1, none⟩ (.int .i64 d)) from kept_set)
  have HBs := hid hB
  obtain ⟨i0, hi, hz⟩ := Option.map_eq_some_iff.1 infoPe
  simp only [Prod.mk.injEq] at hz
  have Hi := hid hi
  have Hz0 := hid hz.1
  have Hz1 := hid hz.2.1
  have Hz2 := hid hz.2.2
  clear hi hz
  clear hown hh hd hr0 hr1 hdr c2 c3 hB
  obtain ⟨nd, nr, nw⟩ := nx
  obtain ⟨W1, hW1⟩ : ∃ W1, w.setCell ⟨b, 1, none⟩ (.int .i64 d) = W1 := ⟨_, rfl⟩
  rw [hW1] at HW1 HO1 HB1 HK1
  have k0 := (parts_cells HW1.out).1.1
  have k1 := (parts_cells HW1.out).1.2.1
  go_enter Tryd.func30, Tryd.ntmps30
  go_wp2_with (go_at_call 45; refine HDg.out.mono ?_; rintro e w2 ⟨rfl, rfl⟩)
  clear hW1 c0 c1 f0 f1 f2 f3
  go_quiet (fail)
  obtain ⟨w2, hw2⟩ : ∃ w2, W1.drewN nq = w2 := ⟨_, rfl⟩
  have HB2 := hid (show Below b W1 w2 from hw2 ▸ below_drewN' (Below.refl _ _) nq)
  have HH2 := hid (show w2.heap[b]? = some (partsO (.slice p l.length c) (d, nr, nw)) from hw2 ▸ HW1.out)
  have HO2 := hid (show w2.ownsRow B0 56 3 (.slice p l.length c) l.length (pcl l) from hw2 ▸ HO1.out)
  have HBw := hid (show w.heap.size ≤ w2.heap.size from Nat.le_trans HB1.out.size HB2.out.size)
  have HbW2 := hid (show b ≤ w2.heap.size by have := HBw.out; have := HBs.out; omega)
  have KC2 := hid (parts_cells HH2.out)
  obtain ⟨⟨q0, q1, q2, q3⟩, g0, g1, g2, g3⟩ := parts_cells HH2.out
  rw [hw2]
  clear k0 k1 hw2
  all_goals
    go_wp2_with fail
    obtain ⟨X, hX⟩ : ∃ X, w2.alloc (.cells #[.int .i64 d, .bool nr, .bool nw] 56) = X := ⟨_, rfl⟩
    have hXb : Below w2.heap.size w2 X := hX ▸ (Below.refl w2.heap.size w2).alloc (Nat.le_refl _) _
    have HXb := hid hXb
    have HXh := hid (heap_below HH2.out hXb)
    have HXo := hid (own_below HO2.out hXb)
    have HXs := hid (show X.heap.size = w2.heap.size + 1 by rw [← hX]; simp)
    have HXn := hid (show X.heap[w2.heap.size]? = some (.cells #[.int .i64 d, .bool nr, .bool nw] 56 (0, 0)) from by rw [← hX]; exact (MapKept.heap_alloc w2 _).1)
    have HbX := hid (show B0 ≤ X.heap.size from Nat.le_trans (Nat.le_trans HBs.out HBw.out) hXb.size)
    have x0 := (parts_cells HXh.out).1.1
    clear hXb
    go_region_law (refine step_append_lies _ (by rfl) _ _ 30 (by rfl) B0 56 i0 (.agg #[.int .i64 0, .bool false, .bool false]) 3 16 Tryd.underlying30 Hi.out Hz0.out Hz1.out Hz2.out rfl (by decide) (.slice p l.length c) l.length (pcl l) (by rfl) HXo.out ⟨w2.heap.size, 0, none⟩ 1 1 [.int .i64 d, .bool nr, .bool nw] (by rfl) rfl (World.news_of_block HXn.out) (by simp [Value.oneCell']) (by omega) (by unfold maxLen; omega) (by omega) HbX.out (w2.heap.size + 1) HXs.out ?_; intro gb cb w3 hown hgrow hat hlt2; have hgrow2 : X.grownBy w3 (Value.slice p l.length c).ownBlock := (by first | exact hgrow | exact (World.grownBy.mk rfl rfl rfl (Nat.le_refl _) (fun _ _ _ => rfl) : X.grownBy X.drew _).trans hgrow); have HGp := hid (grown_parts (nx := (d, nr, nw)) HXh.out hb HbX.out HXo.out hown hgrow2); have s0 := (parts_cells HGp.out.1).1.1; have s1 := (parts_cells HGp.out.1).2.1; clear hown hgrow hat hlt2 hgrow2)
    all_goals clear hX
    all_goals go_wp2
    all_goals go_ret2
    all_goals exact ⟨_, 90, rfl, by decide, HB1.out.trans (HB2.out.trans ((HXb.out.mono HbW2.out).trans HGp.out.2.2.1))⟩
end Go.Proofs.YtmnolfaejneomaaDoor
