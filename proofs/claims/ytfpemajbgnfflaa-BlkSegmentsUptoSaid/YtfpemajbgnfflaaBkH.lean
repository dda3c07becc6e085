/-
  Package blk: the program's Segments, of any bytes.
-/
import Derived.Test.YtfpemajbgnfflaaBkG
import Derived.Test.YtfpemajbgnfflaaRound
import Derived.Deep.RegionHeld3
set_option linter.unusedSimpArgs false
set_option linter.unusedVariables false
namespace Go.Proofs.Ytfpemajbgnfflaa.Bk
open Go.RowKit Gen Go.Shelf
attribute [local go_sem] Oper.semAt_some
set_option maxHeartbeats 4000000

theorem wr6 (y : Nat) (h : y < 2 ^ 8) : IntKind.i64.wrap (y : Int) = y := by rw [IntKind.wrap_i64]; omega
theorem wr4 (y : Nat) (h : y < 2 ^ 8) : (IntKind.i64.wrap (y : Int)).tmod 4 = ((y % 4 : Nat) : Int) := by rw [wr6 y h, Int.tmod_eq_emod_of_nonneg (by omega)]; omega
theorem wr5 (y : Nat) (h : y < 2 ^ 8) : IntKind.i64.wrap (y : Int) / 4 = ((y / 4 : Nat) : Int) := by rw [wr6 y h]; omega
theorem lt4 (y : Nat) : y % 4 < 4 := Nat.mod_lt _ (by decide)
theorem lt64 (y : Nat) (h : y < 2 ^ 8) : y / 4 < 64 := by omega
theorem i64_nat (g : Nat) (h : g < 64) : I64 (g : Int) := ⟨by omega, by omega⟩
theorem fits_yes (g : Nat) (h : g ≤ 3) : fitsV (g : Int) 4 = true := by simp [fitsV]; omega
theorem fits_no (g : Nat) (h : ¬ g ≤ 3) : fitsV (g : Int) 4 = false := by simp [fitsV]; omega
theorem gt_no (f g : Nat) (h : f ≤ g) : decide ((f : Int) > g) = false := by simp; omega
theorem gt_yes (f g : Nat) (h : ¬ f ≤ g) : decide ((f : Int) > g) = true := by simp; omega
theorem good_yes (x f g : Nat) (h3 : g ≤ 3) (h : f ≤ g) : segGood ⟨(x : Int), (f : Int), (g : Int)⟩ = true := by simp [segGood]; omega
theorem good_no (x f g : Nat) (h : ¬ (g ≤ 3 ∧ f ≤ g)) : segGood ⟨(x : Int), (f : Int), (g : Int)⟩ = false := by simp [segGood]; omega
theorem maxLen_le {n : Nat} (h : n ≤ 16777216) : n + 1 ≤ maxLen := by unfold maxLen; omega
theorem bytes_le {n : Nat} (h : n ≤ 16777216) : (n + 1) * 24 ≤ 140737488355328 := by omega
theorem base_le {a b : Nat} {w3 : World} {o : Obj} (h : a ≤ b) (h2 : b ≤ w3.heap.size) : a ≤ (w3.alloc o).heap.size := Nat.le_trans (Nat.le_trans h h2) (alloc_le _ _)
theorem bSegs_odd (l : List UInt8) (p : Option Addr) (c : Nat) (w : World) (hl : l.length ≤ 140737488351232) (ho : l.length % 2 = 1) : Calls Try.prog 4 #[.slice p l.length c] w (SegsPost w l) := by
  unfold SegsPost
  rw [segsR_odd ho]
  have e1 : ((l.length : Int).tmod 2) = 1 := by rw [Int.tmod_eq_emod_of_nonneg (by omega)]; omega
  have e2 : (((l.length : Int).tmod 2) != 0) = true := by rw [e1]; rfl
  generalize l.length = n at *
  go_enter Try.func4, Try.ntmps4
  go_wp2
  refine bodyPost_ret (v := .tuple #[.slice none 0 0, .int .i64 1]) (by simp [results, Try.results4, go_sem]) rfl ⟨_, rfl, ownS_nil _ _, ?_⟩
  exact (World.grownBy_alloc w _ none).trans (World.grownBy_alloc _ _ none)
theorem own_other {W W' : World} {base k : Nat} {e : TypeId} {sz n : Nat} {v : Value} {xs : List Value} (h : W.ownsRow base e sz v n xs) (hg : W.grownBy W' (some k)) (hk : k < base) : W'.ownsRow base e sz v n xs := by
  refine ⟨h.1, ?_⟩
  rcases h.2 with h2 | ⟨g, cap, cur, rfl, hb, hgb, r⟩
  · exact .inl h2
  · exact .inr ⟨g, cap, cur, rfl, hb, (hg.block g (Array.getElem?_eq_some_iff.1 hgb).1 (by simp; omega)).trans hgb, r⟩
theorem sg_good {w W w3 W' : World} {l : List UInt8} {m : Nat} {pre : List (Ck m)} {x : Ck m} {s : Seg} {v : Value} (hg : w.grownBy W none) (hsz : w.heap.size + 5 ≤ W.heap.size) (hg3 : W.grownBy w3 none)
    (hv : Boxed W' (w.heap.size + 1 + 1) 23 v) (hr : W'.ownsRow (w.heap.size + 5) 37 3 v (pre.length + 1) (scells (segsOf l pre) ++ [.int .i64 s.ref, .int .i64 s.first, .int .i64 s.last])) (hk : KeepsOthers w3 W') (hs : SameBut (w.heap.size + 5) (w.heap.size + 1 + 1) w3 W')
    (r1 : Boxed W w.heap.size 23 (.slice none 0 0)) (r2 : Boxed W (w.heap.size + 1) 24 (.int .i64 0)) (ha : (segsOf l pre).all segGood = true) (hx : segAt l x.1 = s) (hgd : segGood s = true) :
    KeepsOthers W W' ∧ Kp2 (w.heap.size + 1 + 1 + 1) (w.heap.size + 1 + 1 + 1 + 1) W W' ∧ SgI w l (pre ++ [x]) W' := by
  have h3 := hg3.size
  refine ⟨(ko_grown hg3).trans hk, (kp2_grown hg3 (by omega) (by omega)).trans (hs.kp2 (by omega) (by omega) (by omega) (by omega) (by omega) (by omega)), ⟨⟨v, hv, ?_⟩, ?_, ?_⟩, ?_, ?_, ?_⟩
  · rw [segsOf_snoc, scells_app, hx, List.length_append]
    exact hr
  · exact hs.box (by omega) (by omega) (box_kept r1 hg3 (fun r e => by cases e))
  · exact hs.box (by omega) (by omega) (box_kept r2 hg3 (fun r e => by cases e))
  · rw [segsOf_snoc, List.all_append, ha, hx]
    simp [hgd]
  · exact hs.grown (hg.trans hg3) (by omega) (by omega)
  · exact Nat.le_trans hsz (Nat.le_trans h3 hs.size)
theorem sg_bad {w W w3 : World} {l : List UInt8} {m : Nat} {pre : List (Ck m)} {x : Ck m} {s : Seg} (hg : w.grownBy W none) (hsz : w.heap.size + 5 ≤ W.heap.size) (hg3 : W.grownBy w3 none)
    (r1 : Boxed w3 w.heap.size 23 (.slice none 0 0)) (r2 : Boxed w3 (w.heap.size + 1) 24 (.int .i64 0)) (hx : segAt l x.1 = s) (hgd : segGood s = false) :
    KeepsOthers W ((w3.setCell ⟨w.heap.size, 0, none⟩ (.slice none 0 0)).setCell ⟨w.heap.size + 1, 0, none⟩ (.int .i64 4)) ∧ SgX w l .ret (pre ++ [x]) ((w3.setCell ⟨w.heap.size, 0, none⟩ (.slice none 0 0)).setCell ⟨w.heap.size + 1, 0, none⟩ (.int .i64 4)) := by
  have g4 := grownBy_setCell w3 w.heap.size 0 none (.slice none 0 0)
  have g5 := grownBy_setCell (w3.setCell ⟨w.heap.size, 0, none⟩ (.slice none 0 0)) (w.heap.size + 1) 0 none (.int .i64 4)
  refine ⟨((ko_grown hg3).trans (KeepsOthers.setCell _ _ _)).trans (KeepsOthers.setCell _ _ _), rfl, ⟨x, by simp, by rw [hx]; exact hgd⟩, (r1.set _).kept g5 (by simp), (r2.kept g4 (by simp)).set _, ?_⟩
  exact ((hg.trans hg3).andThen g4 (fun j e => by cases e; exact .inl (by omega))).andThen g5 (fun j e => by cases e; exact .inl (by omega))
set_option maxRecDepth 100000 in
theorem bSegs (l : List UInt8) (p : Option Addr) (b o c : Nat) (w : World) (hl : l.length ≤ 16777216) (ho : l.length % 2 = 0) (hp : 0 < l.length → p = some ⟨b, o, none⟩) (hc : l.length ≤ c) (hc63 : c ≤ 9223372036854775807) (h : BA w p l) : Calls Try.prog 4 #[.slice p l.length c] w (SegsPost w l) := by
  unfold SegsPost
  have e1 : ((l.length : Int).tmod 2) = 0 := by rw [Int.tmod_eq_emod_of_nonneg (by omega)]; omega
  have e2 : (((l.length : Int).tmod 2) != 0) = false := by rw [e1]; rfl
  obtain ⟨i0, hi, hz0, hz1, hz2⟩ := info_parts info_seg
  have Hi := hid hi; have Hz0 := hid hz0; have Hz1 := hid hz1; have Hz2 := hid hz2
  have HO := hid ho
  have H := hid h
  obtain ⟨m, hm⟩ : ∃ m, l.length = m * 2 := ⟨l.length / 2, by omega⟩
  have HM := hid hm
  have HP := hid (show 0 < m → p = some ⟨b, o, none⟩ from fun h0 => hp (by omega))
  clear hi hz0 hz1 hz2 ho h hp
  rw [hm] at e1 e2 hl hc
  rw [hm]
  clear hm
  refine (callsIn_wide (n := 9)).1 ?_
  refine callsIn_of_wp_marks Try.func4 rfl trivial ?_ rfl
  simp only [Try.ntmps4, List.size_toArray, List.length_cons, List.length_nil, Nat.reduceAdd, Nat.reduceSub, Array.replicate_succ, Array.replicate_zero, List.push_toArray, List.append_toArray, List.nil_append, List.cons_append]
  gi_wp2_with (refine ⟨trivial, ?_⟩; gi_at_call 8; refine (callsIn_wide.2 (bChunk _ _ _ 2 (by omega) _)).mono ?_; rintro e w' ⟨rfl, rfl⟩)
  obtain ⟨W0, hW0⟩ : ∃ W0, ((((w.alloc (.cells #[.slice none 0 0] 23)).alloc (.cells #[.int .i64 0] 24)).alloc (.cells #[.slice none 0 0] 23)).alloc (.cells #[.slice p (m * 2) c] 22)).alloc (.cells #[.int .i64 2] 3) = W0 := ⟨_, rfl⟩
  obtain ⟨hs0, b0, b1, b2, b3, b4, hg0⟩ := boxes5 w _ _ _ _ _ hW0
  try simp only [World.size_alloc]
  rw [hW0]
  have hseq := chunk_stops 8 (by omega) (w.heap.size + 1 + 1 + 1) (w.heap.size + 1 + 1 + 1 + 1) p b o 2 m c W0 (by omega) (by omega) (by omega) hc hc63 HP.out b3 b4
  refine wpIn_rangeFunc_ownF rfl (by omega) (gf := 12) (lb := #[.pointer (some ⟨w.heap.size + 1 + 1 + 1, 0, none⟩), .pointer (some ⟨w.heap.size + 1 + 1 + 1 + 1, 0, none⟩)]) rfl trivial (enters_of Try.func12 (by kernel_rfl) rfl)
    hseq Kp2.trans (Kp2.put (by omega) (by omega)) (Below.refl _ _) (fun _ => rfl)
    (SgI w l) (SgX w l) (sgI_own w l _ (by omega)) (fun c => sgX_own w l c _ (by omega))
    ⟨⟨⟨_, b2, World.ownsRow_nil _ _ _ _⟩, b0, b1⟩, rfl, hg0, by omega⟩
    ?a1 ?assign ?body ?done ?stop
  case assign =>
    intro l x W K hK
    gi_wp2
    exact hK
  case body =>
    rintro r pre x W hI hlen
    have hmx : Try.prog.follows .mixedOrders = true := by kernel_rfl
    have hxm := x.2
    obtain rfl := HP.out (by omega)
    have HI := hid hI
    obtain ⟨⟨⟨v, x0, x1⟩, x2, x3⟩, h0, hg, hs⟩ := hI
    have hba := H.out.grown hg
    have c0 : W.cell? ⟨b, o + x.1 * 2, none⟩ = some (.int .u8 (l.getD (2 * x.1) 0).toNat) := by have := hba.at (k := 2 * x.1) (by have := HM.out; omega); rw [Nat.mul_comm 2 x.1] at this ⊢; exact this
    have c1 : W.cell? ⟨b, o + x.1 * 2 + 1, none⟩ = some (.int .u8 (l.getD (2 * x.1 + 1) 0).toNat) := by have := hba.at (k := 2 * x.1 + 1) (by have := HM.out; omega); rw [← Nat.add_assoc, Nat.mul_comm 2 x.1] at this; rw [Nat.mul_comm 2 x.1]; exact this
    have hx := UInt8.toNat_lt (l.getD (2 * x.1) 0)
    have hy := UInt8.toNat_lt (l.getD (2 * x.1 + 1) 0)
    have hsx : segAt l x.1 = ⟨((l.getD (2 * x.1) 0).toNat : Int), ((l.getD (2 * x.1 + 1) 0).toNat % 4 : Nat), ((l.getD (2 * x.1 + 1) 0).toNat / 4 : Nat)⟩ := rfl
    have HS := hid hsx
    clear hsx
    generalize (l.getD (2 * x.1) 0).toNat = X at *
    generalize (l.getD (2 * x.1 + 1) 0).toNat = Y at *
    obtain ⟨q, hq⟩ : ∃ q, o + x.1 * 2 = q := ⟨_, rfl⟩
    rw [hq] at c0 c1
    rw [hq]
    have hle : pre.length ≤ 16777216 := by omega
    have V := hid (⟨x0, x1⟩ : Boxed W (w.heap.size + 1 + 1) 23 v ∧ W.ownsRow (w.heap.size + 5) 37 3 v pre.length (scells (segsOf l pre)))
    have R1 := hid x2; have R2 := hid x3; have HA := hid h0; have HG := hid hg; have HSZ := hid hs
    clear x0 x1 x2 x3 h0 hg hs hba hq
    gi_wp2
    have N0 := World.new_ne W ⟨b, q, none⟩ c0
    have N1 := World.new_ne W ⟨b, q + 1, none⟩ c1
    have r7 := rowS0 W.drew
    have v0 := r7.cell (k := 0) (by omega); have v1 := r7.cell (k := 1) (by omega); have v2 := r7.cell (k := 2) (by omega); have vz := r7.frozen
    clear r7
    have c0a := fun ob => (World.grownBy_alloc W.drew ob none).cell (a := ⟨b, q, none⟩) c0 (by simp)
    have c1a := fun ob => (World.grownBy_alloc W.drew ob none).cell (a := ⟨b, q + 1, none⟩) c1 (by simp)
    -- GEN BEGIN
    refine Round.wpIn_region_held_round (S := (fun w' => w'.cell? ⟨b, q, none⟩ = some (.int .u8 X) ∧ w'.cell? ⟨b, q + 1, none⟩ = some (.int .u8 Y))) (by kernel_rfl) (by kernel_rfl) ⟨c0, c1⟩ (fun hH => ?_)
    refine wpAnyH_take (i := 0) (v := ?v0) (by simp only [List.getElem?_toArray, List.getElem?_cons_zero, List.getElem?_cons_succ]; rfl) (by kernel_rfl) (by kernel_rfl) (by kernel_rfl) (by intro _ _ _ h; exact h) (Or.inl ⟨by rfl, ?y0⟩) (by assumption) ?r0
    case y0 =>
      intro WW hSw
      obtain ⟨hs0, hs1⟩ := hSw
      go_simp
      try with_reducible rfl
    try dsimp only [Act.put]
    try simp only [List.setIfInBounds_toArray, List.set_cons_zero, List.set_cons_succ]
    refine wpAnyH_take (i := 1) (v := ?v1) (by simp only [List.getElem?_toArray, List.getElem?_cons_zero, List.getElem?_cons_succ]; rfl) (by kernel_rfl) (by kernel_rfl) (by kernel_rfl) (by intro _ _ _ h; exact h) (Or.inl ⟨by rfl, ?y1⟩) (by assumption) ?r1
    case y1 =>
      intro WW hSw
      obtain ⟨hs0, hs1⟩ := hSw
      go_simp
      try with_reducible rfl
    try dsimp only [Act.put]
    try simp only [List.setIfInBounds_toArray, List.set_cons_zero, List.set_cons_succ]
    refine wpAnyH_take (i := 2) (v := ?v2) (by simp only [List.getElem?_toArray, List.getElem?_cons_zero, List.getElem?_cons_succ]; rfl) (by kernel_rfl) (by kernel_rfl) (by kernel_rfl) (by intro _ _ _ h; exact h) (Or.inl ⟨by rfl, ?y2⟩) (by assumption) ?r2
    case y2 =>
      intro WW hSw
      obtain ⟨hs0, hs1⟩ := hSw
      go_simp
      try with_reducible rfl
    try dsimp only [Act.put]
    try simp only [List.setIfInBounds_toArray, List.set_cons_zero, List.set_cons_succ]
    refine wpAnyH_take (i := 3) (v := ?v3) (by simp only [List.getElem?_toArray, List.getElem?_cons_zero, List.getElem?_cons_succ]; rfl) (by kernel_rfl) (by kernel_rfl) (by kernel_rfl) (by intro _ _ _ h; exact h) (Or.inl ⟨by rfl, ?y3⟩) (by assumption) ?r3
    case y3 =>
      intro WW hSw
      obtain ⟨hs0, hs1⟩ := hSw
      go_simp
      try with_reducible rfl
    try dsimp only [Act.put]
    try simp only [List.setIfInBounds_toArray, List.set_cons_zero, List.set_cons_succ]
    refine wpAnyH_take (i := 4) (v := ?v4) (by simp only [List.getElem?_toArray, List.getElem?_cons_zero, List.getElem?_cons_succ]; rfl) (by kernel_rfl) (by kernel_rfl) (by kernel_rfl) (by intro _ _ _ h; exact h) (Or.inl ⟨by rfl, ?y4⟩) (by assumption) ?r4
    case y4 =>
      intro WW hSw
      obtain ⟨hs0, hs1⟩ := hSw
      go_simp
      try with_reducible rfl
    try dsimp only [Act.put]
    try simp only [List.setIfInBounds_toArray, List.set_cons_zero, List.set_cons_succ]
    refine wpAnyH_take (i := 5) (v := ?v5) (by simp only [List.getElem?_toArray, List.getElem?_cons_zero, List.getElem?_cons_succ]; rfl) (by kernel_rfl) (by kernel_rfl) (by kernel_rfl) (by intro _ _ _ h; exact h) (Or.inl ⟨by rfl, ?y5⟩) (by assumption) ?r5
    case y5 =>
      intro WW hSw
      obtain ⟨hs0, hs1⟩ := hSw
      go_simp
      try with_reducible rfl
    try dsimp only [Act.put]
    try simp only [List.setIfInBounds_toArray, List.set_cons_zero, List.set_cons_succ]
    refine wpAnyH_take (i := 6) (v := ?v6) (by simp only [List.getElem?_toArray, List.getElem?_cons_zero, List.getElem?_cons_succ]; rfl) (by kernel_rfl) (by kernel_rfl) (by kernel_rfl) (by intro _ _ _ h; exact h) (Or.inl ⟨by rfl, ?y6⟩) (by assumption) ?r6
    case y6 =>
      intro WW hSw
      obtain ⟨hs0, hs1⟩ := hSw
      go_simp
      try with_reducible rfl
    try dsimp only [Act.put]
    try simp only [List.setIfInBounds_toArray, List.set_cons_zero, List.set_cons_succ]
    refine wpAnyH_take (i := 7) (v := ?v7) (by simp only [List.getElem?_toArray, List.getElem?_cons_zero, List.getElem?_cons_succ]; rfl) (by kernel_rfl) (by kernel_rfl) (by kernel_rfl) (by intro _ _ _ h; exact h) (Or.inl ⟨by rfl, ?y7⟩) (by assumption) ?r7
    case y7 =>
      intro WW hSw
      obtain ⟨hs0, hs1⟩ := hSw
      go_simp
      try with_reducible rfl
    try dsimp only [Act.put]
    try simp only [List.setIfInBounds_toArray, List.set_cons_zero, List.set_cons_succ]
    refine wpAnyH_take (i := 8) (v := ?v8) (by simp only [List.getElem?_toArray, List.getElem?_cons_zero, List.getElem?_cons_succ]; rfl) (by kernel_rfl) (by kernel_rfl) (by kernel_rfl) (by intro _ _ _ h; exact h) (Or.inl ⟨by rfl, ?y8⟩) (by assumption) ?r8
    case y8 =>
      intro WW hSw
      obtain ⟨hs0, hs1⟩ := hSw
      go_simp
      try with_reducible rfl
    try dsimp only [Act.put]
    try simp only [List.setIfInBounds_toArray, List.set_cons_zero, List.set_cons_succ]
    refine wpAnyH_take (i := 9) (v := ?v9) (by simp only [List.getElem?_toArray, List.getElem?_cons_zero, List.getElem?_cons_succ]; rfl) (by kernel_rfl) (by kernel_rfl) (by kernel_rfl) (by intro _ _ _ h; exact h) (Or.inl ⟨by rfl, ?y9⟩) (by assumption) ?r9
    case y9 =>
      intro WW hSw
      obtain ⟨hs0, hs1⟩ := hSw
      go_simp
      try with_reducible rfl
    try dsimp only [Act.put]
    try simp only [List.setIfInBounds_toArray, List.set_cons_zero, List.set_cons_succ]
    refine wpAnyH_take (i := 10) (v := ?v10) (by simp only [List.getElem?_toArray, List.getElem?_cons_zero, List.getElem?_cons_succ]; rfl) (by kernel_rfl) (by kernel_rfl) (by kernel_rfl) (by intro _ _ _ h; exact h) (Or.inl ⟨by rfl, ?y10⟩) (by assumption) ?r10
    case y10 =>
      intro WW hSw
      obtain ⟨hs0, hs1⟩ := hSw
      go_simp
      try with_reducible rfl
    try dsimp only [Act.put]
    try simp only [List.setIfInBounds_toArray, List.set_cons_zero, List.set_cons_succ]
    refine wpAnyH_take (i := 11) (v := ?v11) (by simp only [List.getElem?_toArray, List.getElem?_cons_zero, List.getElem?_cons_succ]; rfl) (by kernel_rfl) (by kernel_rfl) (by kernel_rfl) (by intro _ _ _ h; exact h) (Or.inl ⟨by rfl, ?y11⟩) (by assumption) ?r11
    case y11 =>
      intro WW hSw
      obtain ⟨hs0, hs1⟩ := hSw
      go_simp
      try with_reducible rfl
    try dsimp only [Act.put]
    try simp only [List.setIfInBounds_toArray, List.set_cons_zero, List.set_cons_succ]
    refine wpAnyH_take (i := 12) (v := ?v12) (by simp only [List.getElem?_toArray, List.getElem?_cons_zero, List.getElem?_cons_succ]; rfl) (by kernel_rfl) (by kernel_rfl) (by kernel_rfl) (by intro _ _ _ h; exact h) (Or.inl ⟨by rfl, ?y12⟩) (by assumption) ?r12
    case y12 =>
      intro WW hSw
      obtain ⟨hs0, hs1⟩ := hSw
      go_simp
      try with_reducible rfl
    try dsimp only [Act.put]
    try simp only [List.setIfInBounds_toArray, List.set_cons_zero, List.set_cons_succ]
    refine wpAnyH_take (i := 13) (v := ?v13) (by simp only [List.getElem?_toArray, List.getElem?_cons_zero, List.getElem?_cons_succ]; rfl) (by kernel_rfl) (by kernel_rfl) (by kernel_rfl) (by intro _ _ _ h; exact h) (Or.inl ⟨by rfl, ?y13⟩) (by assumption) ?r13
    case y13 =>
      intro WW hSw
      obtain ⟨hs0, hs1⟩ := hSw
      go_simp
      try with_reducible rfl
    try dsimp only [Act.put]
    try simp only [List.setIfInBounds_toArray, List.set_cons_zero, List.set_cons_succ]
    refine wpAnyH_take (i := 14) (v := ?v14) (by simp only [List.getElem?_toArray, List.getElem?_cons_zero, List.getElem?_cons_succ]; rfl) (by kernel_rfl) (by kernel_rfl) (by kernel_rfl) (by intro _ _ _ h; exact h) (Or.inl ⟨by rfl, ?y14⟩) (by assumption) ?r14
    case y14 =>
      intro WW hSw
      obtain ⟨hs0, hs1⟩ := hSw
      go_simp
      try with_reducible rfl
    try dsimp only [Act.put]
    try simp only [List.setIfInBounds_toArray, List.set_cons_zero, List.set_cons_succ]
    refine wpAnyH_ready (rs := [15]) (by kernel_rfl) (by simp) ?_
    refine AllReadyH.cons (by simp only [List.getElem?_toArray, List.getElem?_cons_zero, List.getElem?_cons_succ]; rfl) (fun K0 hK0 => ?_) AllReadyH.nil
    go_simp
    refine hK0.out _ _ (by exact ⟨c0a _, c1a _⟩) (fun hH => ?_)
    clear hK0 K0
    try dsimp only [Act.put]
    try simp only [List.setIfInBounds_toArray, List.set_cons_zero, List.set_cons_succ]
    refine wpAnyH_ready (rs := [16]) (by kernel_rfl) (by simp) ?_
    refine AllReadyH.cons (by simp only [List.getElem?_toArray, List.getElem?_cons_zero, List.getElem?_cons_succ]; rfl) (fun K0 hK0 => ?_) AllReadyH.nil
    go_simp
    refine hK0.out _ _ (by exact ⟨c0a _, c1a _⟩) (fun hH => ?_)
    clear hK0 K0
    try dsimp only [Act.put]
    try simp only [List.setIfInBounds_toArray, List.set_cons_zero, List.set_cons_succ]
    refine wpAnyH_done (by kernel_rfl) ?_ _
    -- GEN END
    unfold Round.OnlyN
    dsimp only
    rw [wr4 Y hy, wr5 Y hy, wr6 X hx]
    obtain ⟨f, hf⟩ : ∃ f, Y % 4 = f := ⟨_, rfl⟩
    obtain ⟨g, hg⟩ : ∃ g, Y / 4 = g := ⟨_, rfl⟩
    have hf4 : f < 4 := hf ▸ lt4 Y
    have hg64 : g < 64 := hg ▸ lt64 Y hy
    rw [hf, hg] at HS
    rw [hf, hg]
    clear v0 v1 v2 vz N0 N1 c0 c1 c0a c1a hf hg e1 e2
    obtain ⟨W2, hW2⟩ : ∃ W2, (W.alloc (.cells #[.int .i64 X, .int .i64 f, .int .i64 g] 37)).drew = W2 := ⟨_, rfl⟩
    have HG2 := hid (show W.grownBy W2 none by rw [← hW2]; exact (World.grownBy_alloc _ _ none).trans (grownBy_drew _ none))
    have f0 : W2.cell? ⟨W.heap.size, 0, none⟩ = some (.int .i64 X) := by rw [← hW2]; simp [go_sem]
    have f1 : W2.cell? ⟨W.heap.size, 1, none⟩ = some (.int .i64 f) := by rw [← hW2]; simp [go_sem]
    have f2 : W2.cell? ⟨W.heap.size, 2, none⟩ = some (.int .i64 g) := by rw [← hW2]; simp [go_sem]
    try rw [hW2]
    clear hW2
    have HF := hid (bFits2 (g : Int) W2 (i64_nat g hg64))
    have HB := hid (bBack ⟨(X : Int), (f : Int), (g : Int)⟩ W2)
    simp only [Seg.val, Seg.back] at HB
    by_cases h3 : g ≤ 3
    · have q1 := fits_yes g h3
      rw [q1] at HF
      by_cases hfg : f ≤ g
      · have q2 := gt_no f g hfg
        rw [q2] at HB
        have HGd := hid (good_yes X f g h3 hfg)
        obtain ⟨pv, cv, hv⟩ := ownsRow_slice V.out.2
        subst hv
        gi_wp2_with (first
          | ((first | gi_at_call 9 | (refine ⟨trivial, ?_⟩; gi_at_call 9)); refine (CallsIn.inRound r (callsIn_wide.2 HF.out)).mono ?_; rintro e w' ⟨rfl, rfl⟩)
          | ((first | gi_at_call 10 | (refine ⟨trivial, ?_⟩; gi_at_call 10)); refine (CallsIn.inRound r (callsIn_wide.2 HB.out)).mono ?_; rintro e w3 ⟨rfl, g3⟩; have HG3 := hid (HG2.out.trans g3); have k0 := g3.cell f0 (by simp); have k1 := g3.cell f1 (by simp); have k2 := g3.cell f2 (by simp); have HV3 := hid (box_kept V.out.1 HG3.out (fun r e => by cases e)); have hc3 := HV3.out.cell; have HR3 := hid (own_grown V.out.2 HG3.out); clear g3)
          | (gi_at_builtin; refine wpListIn_append_own _ rfl _ _ 23 rfl (w.heap.size + 5) 37 i0 (.agg #[.int .i64 0, .int .i64 0, .int .i64 0]) 3 24 Try.underlying23 Hi.out Hz0.out Hz1.out Hz2.out rfl (by decide) _ _ _ rfl (HR3.out.alloc _) ⟨w3.heap.size, 0, none⟩ 1 1 [.int .i64 X, .int .i64 f, .int .i64 g] rfl rfl (World.news_of_block (heap_alloc_new w3 _)) (by simp [Value.oneCell']) (maxLen_le hle) (bytes_le hle) (base_le HSZ.out HG3.out.size) ?_; intro v' w4 hown' hgrow _; obtain ⟨g', cap', rfl⟩ := ownsRow_succ hown'; obtain ⟨hv1, hv2, hr2, hk2, hs2⟩ := appended3 HV3.out (by decide) HR3.out hown' hgrow; have hc4 := hv1.cell; have hf4 := hv1.frozen; have HV2 := hid hv2; have HR2 := hid hr2; have HK2 := hid hk2; have HS2 := hid hs2; clear hv1 hv2 hr2 hk2 hs2 hown' hgrow))
        exact sg_good HG.out HSZ.out HG3.out HV2.out HR2.out HK2.out HS2.out R1.out R2.out HA.out HS.out HGd.out
      · have q2 := gt_yes f g hfg
        rw [q2] at HB
        have HBd := hid (good_no X f g (fun h => hfg h.2))
        gi_wp2_with (first
          | ((first | gi_at_call 9 | (refine ⟨trivial, ?_⟩; gi_at_call 9)); refine (CallsIn.inRound r (callsIn_wide.2 HF.out)).mono ?_; rintro e w' ⟨rfl, rfl⟩)
          | ((first | gi_at_call 10 | (refine ⟨trivial, ?_⟩; gi_at_call 10)); refine (CallsIn.inRound r (callsIn_wide.2 HB.out)).mono ?_; rintro e w3 ⟨rfl, g3⟩; have HG3 := hid (HG2.out.trans g3); have k0 := g3.cell f0 (by simp); have k1 := g3.cell f1 (by simp); have k2 := g3.cell f2 (by simp); have HX1 := hid (box_kept R1.out HG3.out (fun r e => by cases e)); have HX2 := hid (box_kept R2.out HG3.out (fun r e => by cases e)); have m1 := HX1.out.cell; have m2 := HX2.out.cell; have z1 := HX1.out.frozen; have z2 := HX2.out.frozen; clear g3))
        exact sg_bad HG.out HSZ.out HG3.out HX1.out HX2.out HS.out HBd.out
    · have q1 := fits_no g h3
      rw [q1] at HF
      have HBd := hid (good_no X f g (fun h => h3 h.1))
      have HX1 := hid (box_kept R1.out HG2.out (fun r e => by cases e)); have HX2 := hid (box_kept R2.out HG2.out (fun r e => by cases e)); have m1 := HX1.out.cell; have m2 := HX2.out.cell; have z1 := HX1.out.frozen; have z2 := HX2.out.frozen
      gi_wp2_with ((first | gi_at_call 9 | (refine ⟨trivial, ?_⟩; gi_at_call 9)); refine (CallsIn.inRound r (callsIn_wide.2 HF.out)).mono ?_; rintro e w' ⟨rfl, rfl⟩)
      refine ⟨trivial, ?_⟩
      gi_wp2
      exact sg_bad HG.out HSZ.out HG2.out HX1.out HX2.out HS.out HBd.out
  case done =>
    rintro D xs W hD hxs ⟨⟨⟨v, x0, x1⟩, x2, x3⟩, h0, hg, hs⟩ hK
    obtain ⟨pv, cv, hv⟩ := ownsRow_slice x1
    subst hv
    have d0 := x0.cell; have d2 := x2.cell; have d3 := x3.cell; have f2 := x2.frozen; have f3 := x3.frozen
    have X1 := hid x1; have X2 := hid x2; have X3 := hid x3; have HG := hid hg
    have HA := hid (show segsOf l xs = segsV l from segsOf_all (by have := HM.out; omega) hxs)
    have HA0 := hid h0
    clear x0 x1 x2 x3 hg h0
    gi_wp2
    have hl2 : xs.length = (segsV l).length := by rw [← HA.out, segsOf_len]
    have HL2 := hid hl2
    clear hl2
    have hK' := ((KeepsOthers.setCell W ⟨w.heap.size, 0, none⟩ (.slice pv xs.length cv)).trans (KeepsOthers.setCell _ ⟨w.heap.size + 1, 0, none⟩ (.int .i64 0))).same D _ hK rfl
    refine ⟨by simp, .inl ⟨_, _, rfl, run_takeDeferred hK', ?_⟩⟩
    have ga := grownBy_setCell W w.heap.size 0 none (.slice pv xs.length cv)
    have gb := grownBy_setCell (W.setCell ⟨w.heap.size, 0, none⟩ (.slice pv xs.length cv)) (w.heap.size + 1) 0 none (.int .i64 0)
    have g5 := grownBy_putObj' ((W.setCell ⟨w.heap.size, 0, none⟩ (.slice pv xs.length cv)).setCell ⟨w.heap.size + 1, 0, none⟩ (.int .i64 0)) D (.deferred none)
    have r5 : ∀ r, some D = some r → ∃ o : Obj, ((W.setCell ⟨w.heap.size, 0, none⟩ (.slice pv xs.length cv)).setCell ⟨w.heap.size + 1, 0, none⟩ (.int .i64 0)).heap[r]? = some o ∧ o.isCells = false := fun r e => by cases e; exact ⟨_, hK', rfl⟩
    have z2 := box_kept ((X2.out.set (.slice pv xs.length cv)).kept gb (by simp)) g5 r5
    have z3 := box_kept ((X3.out.kept ga (by simp)).set (.int .i64 0)) g5 r5
    have z1 := own_kept (own_other (own_other X1.out ga (by omega)) gb (by omega)) g5 r5
    have c2 := z2.cell; have c3 := z3.cell
    refine ⟨.tuple #[.slice pv xs.length cv, .int .i64 0], ?_, ?_⟩
    · simp [results, Try.f4, go_sem, c2, c3]
    · have hok : segsOk l = true := by unfold segsOk; rw [← HA.out]; exact HA0.out
      rw [segsR_ok HO.out hok]
      refine ⟨_, rfl, ?_, (((HG.out.andThen ga (fun j e => by cases e; exact .inl (Nat.le_refl _))).andThen gb (fun j e => by cases e; exact .inl (by omega))).andThen g5 (fun j e => by cases e; exact .inl (by omega)))⟩
      have z := own_lower z1 (base' := w.heap.size) (by omega)
      rw [HA.out, HL2.out] at z
      unfold OwnS
      rw [HL2.out]
      exact z
  case stop =>
    rintro D c pre W hD hpre ⟨rfl, ⟨x, hxm, hxb⟩, x2, x3, hg⟩ hK
    gi_wp2
    refine ⟨by simp, .inl ⟨_, _, rfl, run_takeDeferred hK, ?_⟩⟩
    have g5 := grownBy_putObj' W D (.deferred none)
    have r5 : ∀ r, some D = some r → ∃ o : Obj, W.heap[r]? = some o ∧ o.isCells = false := fun r e => by cases e; exact ⟨_, hK, rfl⟩
    have c2 := (box_kept x2 g5 r5).cell
    have c3 := (box_kept x3 g5 r5).cell
    refine ⟨.tuple #[.slice none 0 0, .int .i64 4], ?_, ?_⟩
    · simp [results, Try.f4, go_sem, c2, c3]
    · have hxm2 := x.2
      have hbad : segsOk l = false := bad_at (segsV_get l x.1 (by have := HM.out; omega)) hxb
      rw [segsR_bad HO.out hbad]
      exact ⟨_, rfl, ownS_nil _ _, hg.andThen g5 (fun j e => by cases e; exact .inl (by omega))⟩
end Go.Proofs.Ytfpemajbgnfflaa.Bk
