/-
  Package tenementref07: New.
-/
import Derived.Test.YtjgikapoohibnaaEvT
import Derived.Deep.AppendLies
set_option linter.unusedSimpArgs false
set_option linter.unusedVariables false
namespace Go.Proofs.Ytjgikapoohibnaa
open Go.RowKit Gen
set_option maxHeartbeats 1000000

theorem info_ports : (Try.prog.info? 65).map (fun i => (i.zero, i.size, i.bytes)) = some (some (.slice none 0 0), 1, 24) := by kernel_rfl
theorem info_bool7 : (Try.prog.info? 4).map (fun i => (i.zero, i.size, i.bytes)) = some (some (.bool false), 1, 1) := by kernel_rfl
theorem info_port7 : (Try.prog.info? 35).map (fun i => (i.zero, i.size, i.bytes)) = some (some Prt.zero.val, 6, 40) := by kernel_rfl
/-- 32 free ports -/
def zports : Array Value := madeCells #[.int .i64 0, .int .i64 0, .int .i64 0, .int .i64 0, .bool false, .bool false] 192
theorem zports_size : zports.size = 192 := size_madeCells _ _
theorem zports_at (k : Nat) (h : k < 192) : zports[k]? = some (prow ev0 0 k) := by
  unfold zports
  have h6 : k % 6 < 6 := Nat.mod_lt _ (by omega)
  have hp : prow ev0 0 k = Prt.zero.cell (k % 6) := rfl
  rw [hp]
  simp only [madeCells]
  simp [h]
  generalize k % 6 = m at h6 ⊢
  match m, h6 with
  | 0, _ => rfl
  | 1, _ => rfl
  | 2, _ => rfl
  | 3, _ => rfl
  | 4, _ => rfl
  | 5, _ => rfl
attribute [irreducible] zports
theorem make_ports (W : World) : (Instr.makeSlice 65 (.int .i64 32) (.int .i64 32)).run Try.prog W = .ok (.slice (some ⟨W.heap.size, 0, none⟩) 32 32) (W.alloc (.cells zports 35)) := by
  obtain ⟨i0, hi, hz0, hz1, hz2⟩ := info_parts info_port7
  have hr := run_make W 65 35 i0 Prt.zero.val Try.underlying65 hi hz0 .i64 .i64 32 32 (by omega) (by omega) (by rw [hz2]; omega) (by omega)
  rw [hr, hz1]
  unfold zports
  simp [Value.cells, Prt.val, Prt.zero]
theorem zports_row (W : World) (d : Nat) : Row (W.alloc (.cells zports 35)) W.heap.size 35 192 (prow ev0 d) :=
  ⟨zports, heap_alloc_new W _, by rw [zports_size]; omega, fun k hk => by rw [zports_at k hk]; rfl⟩
def topE (vP vU : Value) : Nat → Value
  | 0 => vP
  | _ => vU
def slE (gs : List Nat) : List Value := gs.map fun g => .slice (some ⟨g, 0, none⟩) 32 32
/-- New under way: so many rows of ports, so many upcalls -/
structure NewE (w W : World) (Y : Nat) (gs : List Nat) (kU : Nat) (vP vU : Value) : Prop where
  top : Row W Y 64 2 (topE vP vU)
  pr : W.ownsRow (Y + 1) 65 1 vP gs.length (slE gs)
  ur : W.ownsRow (Y + 1) 4 1 vU kU (List.replicate kU (.bool false))
  row : ∀ g ∈ gs, Y < g ∧ Row W g 35 192 (prow ev0 0)
  inj : gs.Nodup
  hb : w.heap.size ≤ Y
  grown : w.grownBy W none
theorem NewE.ext {w W X : World} {Y kU : Nat} {gs : List Nat} {vP vU : Value} (h : NewE w W Y gs kU vP vU) (hX : W.grownBy X none) : NewE w X Y gs kU vP vU :=
  ⟨h.top.grown hX (by simp), h.pr.kept hX (none_row' _), h.ur.kept hX (none_row' _), fun g hg => ⟨(h.row g hg).1, (h.row g hg).2.grown hX (by simp)⟩, h.inj, h.hb, h.grown.trans hX⟩
theorem own_ne_ownE {W : World} {base base' : Nat} {e e' : TypeId} {size size' n n' : Nat} {v v' : Value} {xs xs' : List Value} (h : W.ownsRow base e size v n xs) (h' : W.ownsRow base' e' size' v' n' xs') (ht : e ≠ e') : v.ownBlock = none ∨ v.ownBlock ≠ v'.ownBlock := by
  rcases h.2 with ⟨rfl, _⟩ | ⟨g, cap, cur, rfl, _, hg, _⟩
  · exact .inl rfl
  · rcases h'.2 with ⟨rfl, _⟩ | ⟨g', cap', cur', rfl, _, hg', _⟩
    · exact .inr (by simp [Value.ownBlock])
    · refine .inr fun e => ?_
      obtain rfl : g = g' := by simpa [Value.ownBlock] using e
      rw [hg] at hg'; cases hg'; exact ht rfl
theorem NewE.stepP {w X w1 : World} {Y kU G : Nat} {gs : List Nat} {vP vU v' : Value} (h : NewE w X Y gs kU vP vU) (hG : Row X G 35 192 (prow ev0 0)) (hn : G ∉ gs) (hY : Y < G) (hgrow : X.grownBy w1 vP.ownBlock)
    (hown : w1.ownsRow (Y + 1) 65 1 v' (gs.length + 1) (slE gs ++ [.slice (some ⟨G, 0, none⟩) 32 32])) : NewE w (w1.setCell ⟨Y, 0, none⟩ v') Y (gs ++ [G]) kU v' vU := by
  have h1 := h.top.grown hgrow (own_ne_row h.pr h.top (by decide))
  have hR := h.ur.kept hgrow (own_ne_ownE h.ur h.pr (by decide))
  have hs := grownBy_setCell w1 Y 0 none v'
  have hsl : slE (gs ++ [G]) = slE gs ++ [.slice (some ⟨G, 0, none⟩) 32 32] := by simp [slE]
  rw [← hsl] at hown
  refine ⟨h1.set rfl fun j hj h0 => ?_, by rw [List.length_append]; exact hown.kept hs (.inr (fun e => own_ne hown (Nat.lt_succ_self Y) e.symm)), hR.kept hs (.inr (fun e => own_ne hR (Nat.lt_succ_self Y) e.symm)), fun g hg => ?_, ?_, h.hb, (h.grown.andThen hgrow fun j e => .inl ?_).andThen hs fun j e => .inl ?_⟩
  · match j, h0 with
    | 0, h0 => exact absurd rfl h0
    | j + 1, _ => rfl
  · rw [List.mem_append, List.mem_singleton] at hg
    have keep : ∀ g, Y < g → Row X g 35 192 (prow ev0 0) → Row (w1.setCell ⟨Y, 0, none⟩ v') g 35 192 (prow ev0 0) := fun g hg hr => (hr.grown hgrow (own_ne_row h.pr hr (by decide))).setOther _ (by simp; omega) _
    rcases hg with hg | rfl
    · exact ⟨(h.row g hg).1, keep g (h.row g hg).1 (h.row g hg).2⟩
    · exact ⟨hY, keep _ hY hG⟩
  · rw [List.nodup_append]
    exact ⟨h.inj, by simp, fun a ha b hb e => hn (by rw [List.mem_singleton] at hb; subst hb e; exact ha)⟩
  · have := (h.pr.lt j e).1; have := h.hb; omega
  · cases e; exact h.hb
theorem NewE.stepU {w X w1 : World} {Y kU : Nat} {gs : List Nat} {vP vU v' : Value} (h : NewE w X Y gs kU vP vU) (hgrow : X.grownBy w1 vU.ownBlock)
    (hown : w1.ownsRow (Y + 1) 4 1 v' (kU + 1) (List.replicate kU (.bool false) ++ [.bool false])) : NewE w (w1.setCell ⟨Y, 1, none⟩ v') Y gs (kU + 1) vP v' := by
  have h1 := h.top.grown hgrow (own_ne_row h.ur h.top (by decide))
  have hP := h.pr.kept hgrow (own_ne_ownE h.pr h.ur (by decide))
  have hs := grownBy_setCell w1 Y 1 none v'
  rw [← List.replicate_succ'] at hown
  refine ⟨h1.set rfl fun j hj h0 => ?_, hP.kept hs (.inr (fun e => own_ne hP (Nat.lt_succ_self Y) e.symm)), hown.kept hs (.inr (fun e => own_ne hown (Nat.lt_succ_self Y) e.symm)), fun g hg => ?_, h.inj, h.hb, (h.grown.andThen hgrow fun j e => .inl ?_).andThen hs fun j e => .inl ?_⟩
  · match j, hj, h0 with
    | 0, _, _ => rfl
    | 1, _, h0 => exact absurd rfl h0
  · exact ⟨(h.row g hg).1, ((h.row g hg).2.grown hgrow (own_ne_row h.ur (h.row g hg).2 (by decide))).setOther _ (by have := (h.row g hg).1; simp; omega) _⟩
  · have := (h.ur.lt j e).1; have := h.hb; omega
  · cases e; exact h.hb
theorem NewE.done {w W : World} {Y : Nat} {gs : List Nat} {vP vU : Value} (h : NewE w W Y gs 8 vP vU) (hl : gs.length = 8) : ∃ L, RE W Y ev0 L ∧ ∀ k, L.foot Y k → w.heap.size ≤ k := by
  have hpr := h.pr
  rw [hl] at hpr
  obtain ⟨gP, cP, rfl, hgP, rP⟩ := ownsRow_row hpr
  obtain ⟨gU, cU, rfl, hgU, rU⟩ := ownsRow_row h.ur
  have hb := h.hb
  refine ⟨⟨gP, cP, gU, cU, fun i => gs.getD i 0, fun _ => 32⟩, ⟨h.top.congr fun k hk => ?_, rP.congr fun k hk => ?_, rU.congr fun k hk => ?_, fun d hd => ?_, fun i j hi hj e => ?_⟩, ?_⟩
  · match k, hk with
    | 0, _ => rfl
    | 1, _ => rfl
  · have : k < gs.length := by omega
    simp [ELay.row, slE, List.getD, this]
  · have : k < 8 := by omega
    simp only [ev0, List.getD, List.getElem?_replicate, this, if_true, Option.getD_some]
  · have hm : gs.getD d 0 ∈ gs := by rw [List.getD_eq_getElem?_getD, List.getElem?_eq_getElem (by omega)]; exact List.getElem_mem _
    exact (h.row _ hm).2
  · have hi' : i < gs.length := by omega
    have hj' : j < gs.length := by omega
    simp only [List.getD_eq_getElem?_getD, List.getElem?_eq_getElem hi', List.getElem?_eq_getElem hj', Option.getD_some] at e
    exact (List.getElem_inj h.inj).1 e
  · rintro k (rfl | rfl | rfl | ⟨d, hd, rfl⟩)
    · exact hb
    · omega
    · omega
    · have hm : gs.getD d 0 ∈ gs := by rw [List.getD_eq_getElem?_getD, List.getElem?_eq_getElem (by omega)]; exact List.getElem_mem _
      have := (h.row _ hm).1
      show w.heap.size ≤ gs.getD d 0
      omega
set_option maxRecDepth 100000 in
theorem rNew (w : World) :
    Calls Try.prog 10 #[] w fun e w' => ∃ Y L, e = .returned (.pointer (some ⟨Y, 0, none⟩)) ∧ RE w' Y ev0 L ∧ w.grownBy w' none ∧ ∀ k, L.foot Y k → w.heap.size ≤ k := by
  obtain ⟨i4, hi, hz0, hz1, hz2⟩ := info_parts info_ports
  have Hi := hid hi; have Hz0 := hid hz0; have Hz1 := hid hz1; have Hz2 := hid hz2
  clear hi hz0 hz1 hz2
  obtain ⟨i3, hi, hz0, hz1, hz2⟩ := info_parts info_bool7
  have Ji := hid hi; have Jz0 := hid hz0; have Jz1 := hid hz1; have Jz2 := hid hz2
  clear hi hz0 hz1 hz2
  go_enter Try.func10, Try.ntmps10
  go_wp2
  obtain ⟨W0, hW0⟩ : ∃ W0, w.alloc (.cells #[.slice none 0 0, .slice none 0 0] 64) = W0 := ⟨_, rfl⟩
  have HS0 := hid (show NewE w W0 w.heap.size [] 0 (.slice none 0 0) (.slice none 0 0) from by
    rw [← hW0]
    refine ⟨⟨_, heap_alloc_new w _, by simp, fun k hk => ?_⟩, World.ownsRow_nil _ _ _ _, World.ownsRow_nil _ _ _ _, fun g hg => by simp at hg, by simp, Nat.le_refl _, World.grownBy_alloc w _ none⟩
    match k, hk with
    | 0, _ => rfl
    | 1, _ => rfl)
  rw [hW0]
  clear hW0
  go_loopw [2] (fun i wr => ∃ (gs : List Nat) (vP vU : Value), i = .int .i64 (gs.length : Nat) ∧ gs.length ≤ 8 ∧ NewE w wr w.heap.size gs gs.length vP vU) (fun i _ => 8 - (intOf i).toNat)
  case atStart => exact ⟨[], _, _, rfl, by simp, HS0.out⟩
  case round =>
    obtain ⟨gs, vP, vU, rfl, hk, hst⟩ := hrel
    by_cases hlt : gs.length < 8
    · have hlt' : (gs.length : Int) < 8 := by omega
      have HS := hid hst
      have hmk := make_ports
      have HZ1 := hid (hst.ext (World.grownBy_alloc wr (.cells zports 35) none))
      obtain ⟨X, hX⟩ : ∃ X, (wr.alloc (.cells zports 35)).alloc (.cells #[.slice (some ⟨wr.heap.size, 0, none⟩) 32 32] 65) = X := ⟨_, rfl⟩
      have hXg : (wr.alloc (.cells zports 35)).grownBy X none := hX ▸ World.grownBy_alloc _ _ none
      have HZ2 := hid (HZ1.out.ext hXg)
      have HZr := hid (show Row X wr.heap.size 35 192 (prow ev0 0) from (zports_row wr 0).grown hXg (by simp))
      have HXs := hid (show X.heap.size = wr.heap.size + 2 by rw [← hX]; simp)
      have HXn := hid (show X.heap[wr.heap.size + 1]? = some (.cells #[.slice (some ⟨wr.heap.size, 0, none⟩) 32 32] 65 (0, 0)) from by rw [← hX]; have := heap_alloc_new (wr.alloc (.cells zports 35)) (.cells #[.slice (some ⟨wr.heap.size, 0, none⟩) 32 32] 65); simpa using this)
      have c1 := hst.top.cell (k := 0) (by omega)
      have c1' := HZ1.out.top.cell (k := 0) (by omega)
      have c1'' := HZ2.out.top.cell (k := 0) (by omega)
      simp only [topE] at c1 c1' c1''
      have HbX := hid (show w.heap.size + 1 ≤ X.heap.size from by have := HZ2.out.top.lt; omega)
      have HNin := hid (show wr.heap.size ∉ gs from fun e => Nat.lt_irrefl _ ((hst.row _ e).2.lt))
      have HYlt := hid hst.top.lt
      clear hXg hst
      go_wp2
      go_region_law (refine step_append_lies _ (by rfl) _ _ 62 (by rfl) (w.heap.size + 1) 65 i4 (.slice none 0 0) 1 24 Try.underlying62 Hi.out Hz0.out Hz1.out Hz2.out rfl (by decide) vP gs.length (slE gs) (by rfl) HZ2.out.pr ⟨wr.heap.size + 1, 0, none⟩ 1 1 [.slice (some ⟨wr.heap.size, 0, none⟩) 32 32] (by rfl) rfl (World.news_of_block HXn.out) (by simp [Value.oneCell']) (by omega) (by unfold maxLen; omega) (by omega) HbX.out (wr.heap.size + 2) HXs.out ?_; intro gb cb w2 hown' hgrow hat hlt2; have hgrow2 : X.grownBy w2 vP.ownBlock := (by first | exact hgrow | exact (grownBy_drew X _).trans hgrow); have hc2 := (HZ2.out.top.grown hgrow2 (own_ne_row HZ2.out.pr HZ2.out.top (by decide))).cell (k := 0) (by omega); have hf2 := (HZ2.out.top.grown hgrow2 (own_ne_row HZ2.out.pr HZ2.out.top (by decide))).frozen 0; simp only [topE] at hc2; have HS3 := hid (HZ2.out.stepP HZr.out HNin.out HYlt.out hgrow2 hown'); clear hown' hgrow hat hlt2 hgrow2)
      all_goals
        clear hmk hX c1 c1' c1''
        obtain ⟨W3, hW3⟩ : ∃ W3, w2.setCell ⟨w.heap.size, 0, none⟩ (.slice (some ⟨gb, 0, none⟩) (gs.length + 1) cb) = W3 := ⟨_, rfl⟩
        have HS4 := hid (show NewE w W3 w.heap.size (gs ++ [wr.heap.size]) gs.length (.slice (some ⟨gb, 0, none⟩) (gs.length + 1) cb) vU from hW3 ▸ HS3.out)
        rw [hW3]
        clear hW3
        have c4 := HS4.out.top.cell (k := 1) (by omega)
        have f4 := HS4.out.top.frozen 1
        have HX4 := hid (HS4.out.ext (World.grownBy_alloc W3 (.cells #[.bool false] 4) none))
        have HB4 := hid (show w.heap.size + 1 ≤ (W3.alloc (.cells #[.bool false] 4)).heap.size from by have := HS4.out.top.lt; simp; omega)
        have c5 := HX4.out.top.cell (k := 1) (by omega)
        simp only [topE] at c4 c5
        have hl8 : gs.length < 8 := hlt
        go_wp2_with (at_builtin; refine wpList_append_own _ rfl _ _ 33 rfl (w.heap.size + 1) 4 i3 (.bool false) 1 1 Try.underlying33 Ji.out Jz0.out Jz1.out Jz2.out rfl (by decide) _ _ _ rfl HX4.out.ur ⟨W3.heap.size, 0, none⟩ 1 1 [.bool false] rfl rfl (World.news_of_block (heap_alloc_new W3 _)) (by simp [Value.oneCell']) (by unfold maxLen; omega) (by omega) HB4.out ?_; intro v' w1 hown' hgrow hnil; clear hnil; obtain ⟨gf, cf, rfl⟩ := ownsRow_succ hown'; have HS5 := hid (HX4.out.stepU hgrow hown'); have c6 := (HX4.out.top.grown hgrow (own_ne_row HX4.out.ur HX4.out.top (by decide))).cell (k := 1) (by omega); have f6 := (HX4.out.top.grown hgrow (own_ne_row HX4.out.ur HX4.out.top (by decide))).frozen 1; simp only [topE] at c6; clear hown' hgrow)
        go_roundw
        case rel => exact ⟨gs ++ [wr.heap.size], _, _, by rw [List.length_append]; go_num, by simp; omega, by rw [List.length_append]; exact HS5.out⟩
        case measure => simp [intOf]; omega
    · have hge : (8 : Int) ≤ gs.length := by omega
      have h8 : gs.length = 8 := by omega
      have HS := hid hst
      rw [h8] at hst
      have HD := hid (hst.done h8)
      clear hst
      go_wp2
      go_ret
      obtain ⟨L, h1, h2⟩ := HD.out
      exact ⟨_, L, rfl, h1, HS.out.grown, h2⟩
end Go.Proofs.Ytjgikapoohibnaa
