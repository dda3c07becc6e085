/-
  Package blk: the program's Unpack.
-/
import Derived.Test.YtoeohbiofmcdeaaBkK
import Derived.Test.YtoeohbiofmcdeaaBkJ
import Derived.Deep.RegionHeld3
set_option linter.unusedSimpArgs false
set_option linter.unusedVariables false
namespace Go.Proofs.Ytoeohbiofmcdeaa.Bk
open Go.RowKit Gen
set_option maxHeartbeats 4000000
/-- a request's four cells -/
def rqV (a b c d : Value) : Nat → Value
  | 0 => a
  | 1 => b
  | 2 => c
  | _ => d
theorem rowQ {w W : World} {a b c d : Value} (hW : w.alloc (.cells #[a, b, c, d] 24) = W) : Row W w.heap.size 24 4 (rqV a b c d) := by
  subst hW
  exact ⟨_, heap_alloc_new w _, by simp, fun k hk => by match k, hk with | 0, _ => rfl | 1, _ => rfl | 2, _ => rfl | 3, _ => rfl⟩
theorem set4 {w : World} {b : Nat} {X : Nat → Value} (h : Row w b 24 4 X) (a c d e : Value) : Row ((((w.setCell ⟨b, 0, none⟩ a).setCell ⟨b, 1, none⟩ c).setCell ⟨b, 2, none⟩ d).setCell ⟨b, 3, none⟩ e) b 24 4 (rqV a c d e) :=
  ((((h.set (k := 0) (v := a) (X' := fun q => if q = 0 then a else X q) rfl (fun j _ hj => by simp [hj])).set (k := 1) (v := c) (X' := fun q => if q = 1 then c else if q = 0 then a else X q) rfl (fun j _ hj => by simp [hj])).set (k := 2) (v := d) (X' := fun q => if q = 2 then d else if q = 1 then c else if q = 0 then a else X q) rfl (fun j _ hj => by simp [hj])).set (k := 3) (v := e) (X' := fun q => if q = 3 then e else if q = 2 then d else if q = 1 then c else if q = 0 then a else X q) rfl (fun j _ hj => by simp [hj])).congr fun k hk => by match k, hk with | 0, _ => rfl | 1, _ => rfl | 2, _ => rfl | 3, _ => rfl
theorem set4_grown (w : World) (b : Nat) (a c d e : Value) : w.grownBy ((((w.setCell ⟨b, 0, none⟩ a).setCell ⟨b, 1, none⟩ c).setCell ⟨b, 2, none⟩ d).setCell ⟨b, 3, none⟩ e) (some b) :=
  (((grownBy_setCell w b 0 none a).trans (grownBy_setCell _ b 1 none c)).trans (grownBy_setCell _ b 2 none d)).trans (grownBy_setCell _ b 3 none e)
theorem rowQz (w : World) (n : Nat) : Row ((w.drewN n).alloc (.cells #[.int .i64 0, .int .i64 0, .int .i64 0, .slice none 0 0] 24)) w.heap.size 24 4 (rqV (.int .i64 0) (.int .i64 0) (.int .i64 0) (.slice none 0 0)) := rowQ (w := w.drewN n) rfl
theorem bUnp_len (p : Option Addr) (n c : Nat) (w : World) (h : n ≠ 16) (hn : n ≤ 140737488351232) : Calls Try.prog 10 #[.slice p n c] w fun e w' => e = .returned (.tuple #[.agg #[.int .i64 0, .int .i64 0, .int .i64 0, .slice none 0 0], .int .i64 0, .int .i64 0, .int .i64 1]) ∧ w.grownBy w' none := by
  have h1 : ((n : Int) != 16) = true := by simp; omega
  go_enter Try.func10, Try.ntmps10
  go_wp2
  obtain ⟨W, hW⟩ : ∃ W, w.alloc (.cells #[.int .i64 0, .int .i64 0, .int .i64 0, .slice none 0 0] 24) = W := ⟨_, rfl⟩
  have rs := rowQ hW
  have hG2 : w.grownBy W none := hW ▸ World.grownBy_alloc _ _ _
  rw [hW]
  clear hW
  have z0 := rs.cell (k := 0) (by omega); have z1 := rs.cell (k := 1) (by omega); have z2 := rs.cell (k := 2) (by omega); have z3 := rs.cell (k := 3) (by omega)
  simp only [rqV] at z0 z1 z2 z3
  refine bodyPost_ret (v := .tuple #[.agg #[.int .i64 0, .int .i64 0, .int .i64 0, .slice none 0 0], .int .i64 0, .int .i64 0, .int .i64 1]) (by simp [results, Try.results10, go_sem, z0, z1, z2, z3]) rfl ⟨rfl, hG2⟩
def SegsRead2 (w : World) (l : List UInt8) (e : Ending) (w' : World) : Prop := ∃ p c, e = .returned (.tuple #[.slice p (segsR l).1.length c, .int .i64 (segsR l).2]) ∧ SA w' p (segsR l).1 ∧ (∀ a : Addr, p = some a → w.heap.size ≤ a.block) ∧ w.grownBy w' none
theorem SegsPost.read2 {w w' : World} {l : List UInt8} {e : Ending} (h : SegsPost w l e w') : SegsRead2 w l e w' := by
  obtain ⟨v, rfl, ho, hg⟩ := h
  have hh := ho.2
  obtain ⟨p, c, rfl, hs⟩ := OwnS.sa ho
  refine ⟨p, c, rfl, hs, fun a ha => ?_, hg⟩
  subst ha
  rcases hh with ⟨h1, _⟩ | ⟨g, cap, cur, h1, hb, _⟩
  · cases h1
  · cases h1
    exact hb
theorem SA.kept {w w' : World} {p : Option Addr} {l : List Seg} {B k : Nat} (h : SA w p l) (hb : ∀ a : Addr, p = some a → B ≤ a.block) (hg : w.grownBy w' (some k)) (hk : k < B) : SA w' p l := fun i s hi => by
  obtain ⟨b, o, rfl, h0, h1, h2⟩ := h i s hi
  have hbb := hb _ rfl
  simp only at hbb
  exact ⟨b, o, rfl, hg.cell h0 (by simp; omega), hg.cell h1 (by simp; omega), hg.cell h2 (by simp; omega)⟩
theorem sa_end {w5 : World} {p : Option Addr} {l : List Seg} {B k0 k1 : Nat} {v a b c d : Value} (h : SA w5 p l) (hb : ∀ a : Addr, p = some a → B ≤ a.block) (hk : k1 < B) (h01 : k0 ≤ k1) :
    SA (((((w5.setCell ⟨k1, 3, none⟩ v).setCell ⟨k0, 0, none⟩ a).setCell ⟨k0, 1, none⟩ b).setCell ⟨k0, 2, none⟩ c).setCell ⟨k0, 3, none⟩ d) p l :=
  (h.kept hb (grownBy_setCell w5 k1 3 none v) hk).kept hb (set4_grown _ k0 a b c d) (by omega)
theorem bSegsW2 (l : List UInt8) (p : Option Addr) (c : Nat) (w : World) (hl : l.length ≤ 16777216) (h : BA w p l) (hc : l.length ≤ c) (hc63 : c ≤ 9223372036854775807) : Calls Try.prog 11 #[.slice p l.length c] w (SegsRead2 w l) := by
  by_cases ho : l.length % 2 = 1
  · exact (bSegs_odd l p c w (by omega) ho).mono fun e w' h => h.read2
  · obtain ⟨b, o, hp⟩ : ∃ b o, 0 < l.length → p = some ⟨b, o, none⟩ := by
      by_cases h0 : 0 < l.length
      · obtain ⟨b, o, e⟩ := h.ptr h0
        exact ⟨b, o, fun _ => e⟩
      · exact ⟨0, 0, fun h => absurd h h0⟩
    exact (bSegs l p b o c w hl (by omega) hp hc hc63 h).mono fun e w' h => h.read2
theorem may_le {op n : Nat} (h : mayV op n (-1) = true) : n ≤ 4 := by
  unfold mayV at h
  split at h
  · simp at h; omega
  · split at h
    · simp at h; omega
    · cases h
theorem segs_at (b o c : Nat) (l : List UInt8) (w : World) (n : Nat) (hl : l.length = 16) (hc : 16 ≤ c) (hc63 : c ≤ 9223372036854775807) (hn : 2 * n ≤ 8) (h : BA w (some ⟨b, o, none⟩) l) :
    Calls Try.prog 11 #[.slice (some ⟨b, o + 8, none⟩) (2 * n) (c - 8)] w (SegsRead2 w ((l.drop 8).take (2 * n))) := by
  have hs := h.sub 8 (2 * n) (by omega)
  have hlen : ((l.drop 8).take (2 * n)).length = 2 * n := by rw [List.length_take, List.length_drop]; omega
  have := bSegsW2 _ (some ⟨b, o + 8, none⟩) (c - 8) w (by omega) hs (by omega) (by omega)
  rw [hlen] at this
  exact this
set_option maxRecDepth 100000 in
theorem bUnp_a1 (l : List UInt8) (b o c : Nat) (w : World) (hl : l.length = 16) (hc : 16 ≤ c) (hc63 : c ≤ 9223372036854775807) (h : BA w (some ⟨b, o, none⟩) l) (h3 : (l.getD 0 0).toNat ≠ 3) (hmay : mayV (l.getD 0 0).toNat (l.getD 1 0).toNat (-1) = false) :
    Calls Try.prog 10 #[.slice (some ⟨b, o, none⟩) 16 c] w fun e w' => e = .returned (.tuple #[.agg #[.int .i64 0, .int .i64 0, .int .i64 0, .slice none 0 0], .int .i64 0, .int .i64 0, .int .i64 4]) ∧ w.grownBy w' none := by
  obtain ⟨W, hW⟩ : ∃ W, w.alloc (.cells #[.int .i64 0, .int .i64 0, .int .i64 0, .slice none 0 0] 24) = W := ⟨_, rfl⟩
  have HG0 := hid (show w.grownBy W none from hW ▸ World.grownBy_alloc _ _ _)
  have HR0 := hid (rowQ hW)
  have HB := hid (h.grown HG0.out)
  have c0 := HB.out.at (k := 0) (by omega)
  have c1 := HB.out.at (k := 1) (by omega)
  rw [Nat.add_zero] at c0
  have y0 := UInt8.toNat_lt (l.getD 0 0)
  have y1 := UInt8.toNat_lt (l.getD 1 0)
  have HID := hid fun w' (hg : W.grownBy w' none) => bReqID b o c l w' hl hc (HB.out.grown hg)
  have HNM := hid fun w' (hg : W.grownBy w' none) => bNumber b (o + 4) (c - 4) 4 (l.getD 4 0).toNat (l.getD 5 0).toNat (l.getD 6 0).toNat (l.getD 7 0).toNat w' (by omega) ⟨UInt8.toNat_lt _, UInt8.toNat_lt _, UInt8.toNat_lt _, UInt8.toNat_lt _⟩ (fun k hk => by
    have hx := (HB.out.grown hg).at (k := 4 + k) (by omega)
    rw [← Nat.add_assoc] at hx
    match k, hk with
    | 0, _ => exact hx
    | 1, _ => exact hx
    | 2, _ => exact hx
    | 3, _ => exact hx)
  have HM := hid fun w' => hmay ▸ bMay (l.getD 0 0).toNat (l.getD 1 0).toNat (-1) w'
  generalize upN (l.getD 2 0).toNat (l.getD 3 0).toNat 0 0 2 = ID at *
  generalize upN (l.getD 4 0).toNat (l.getD 5 0).toNat (l.getD 6 0).toNat (l.getD 7 0).toNat 4 = SC at *
  generalize (l.getD 0 0).toNat = x0 at *
  generalize (l.getD 1 0).toNat = x1 at *
  have e8 : 8 ≤ c := by omega
  have e8' : (8 : Int) ≤ c := by omega
  have e4 : 4 ≤ c := by omega
  have e4' : (4 : Int) ≤ c := by omega
  have hc4 : ¬ c = 4 := by omega
  have hc8 : ¬ c = 8 := by omega
  have wx0 : IntKind.i64.wrap (x0 : Int) = x0 := by rw [IntKind.wrap_i64]; omega
  have wx1 : IntKind.i64.wrap (x1 : Int) = x1 := by rw [IntKind.wrap_i64]; omega
  have h30 : ((x0 : Int) == 3) = false := by simp; omega
  clear h
  go_enter Try.func10, Try.ntmps10
  go_wp2
  go_quiet (fail)
  go_wp2
  refine wp_region_held_drew (S := fun w' => w'.cell? ⟨b, o, none⟩ = some (.int .u8 x0) ∧ W.grownBy w' none) (by kernel_rfl) ⟨c0, (grownBy_drewN W _ none).trans (grownBy_drew _ none)⟩ (fun hH => ?_)
  refine wpAnyH_take (i := 0) (v := ?v0) (by simp only [List.getElem?_toArray, List.getElem?_cons_zero, List.getElem?_cons_succ]; rfl) (by kernel_rfl) (by kernel_rfl) (by kernel_rfl) (by intro _ _ _ h; exact h) (Or.inl ⟨by rfl, ?y0⟩) (by assumption) ?r0
  case y0 =>
    intro WW hSw
    obtain ⟨hs0, hs1⟩ := hSw
    clear hs1
    go_simp
    try with_reducible rfl
  try dsimp only [Act.put]
  try simp only [List.setIfInBounds_toArray, List.set_cons_zero, List.set_cons_succ]
  refine wpAnyH_take (i := 1) (v := ?v1) (by simp only [List.getElem?_toArray, List.getElem?_cons_zero, List.getElem?_cons_succ]; rfl) (by kernel_rfl) (by kernel_rfl) (by kernel_rfl) (by intro _ _ _ h; exact h) (Or.inl ⟨by rfl, ?y1⟩) (by assumption) ?r1
  case y1 =>
    intro WW hSw
    obtain ⟨hs0, hs1⟩ := hSw
    clear hs1
    go_simp
    try with_reducible rfl
  try dsimp only [Act.put]
  try simp only [List.setIfInBounds_toArray, List.set_cons_zero, List.set_cons_succ]
  refine wpAnyH_take (i := 2) (v := ?v2) (by simp only [List.getElem?_toArray, List.getElem?_cons_zero, List.getElem?_cons_succ]; rfl) (by kernel_rfl) (by kernel_rfl) (by kernel_rfl) (by intro _ _ _ h; exact h) (Or.inl ⟨by rfl, ?y2⟩) (by assumption) ?r2
  case y2 =>
    intro WW hSw
    obtain ⟨hs0, hs1⟩ := hSw
    clear hs1
    go_simp
    try with_reducible rfl
  try dsimp only [Act.put]
  try simp only [List.setIfInBounds_toArray, List.set_cons_zero, List.set_cons_succ]
  refine wpAnyH_take (i := 3) (v := ?v3) (by simp only [List.getElem?_toArray, List.getElem?_cons_zero, List.getElem?_cons_succ]; rfl) (by kernel_rfl) (by kernel_rfl) (by kernel_rfl) (by intro _ _ _ h; exact h) (Or.inl ⟨by rfl, ?y3⟩) (by assumption) ?r3
  case y3 =>
    intro WW hSw
    obtain ⟨hs0, hs1⟩ := hSw
    clear hs1
    go_simp
    try with_reducible rfl
  try dsimp only [Act.put]
  try simp only [List.setIfInBounds_toArray, List.set_cons_zero, List.set_cons_succ]
  refine wpAnyH_take (i := 4) (v := ?v4) (by simp only [List.getElem?_toArray, List.getElem?_cons_zero, List.getElem?_cons_succ]; rfl) (by kernel_rfl) (by kernel_rfl) (by kernel_rfl) (by intro _ _ _ h; exact h) (Or.inl ⟨by rfl, ?y4⟩) (by assumption) ?r4
  case y4 =>
    intro WW hSw
    obtain ⟨hs0, hs1⟩ := hSw
    clear hs1
    go_simp
    try with_reducible rfl
  try dsimp only [Act.put]
  try simp only [List.setIfInBounds_toArray, List.set_cons_zero, List.set_cons_succ]
  refine wpAnyH_take (i := 6) (v := ?v6) (by simp only [List.getElem?_toArray, List.getElem?_cons_zero, List.getElem?_cons_succ]; rfl) (by kernel_rfl) (by kernel_rfl) (by kernel_rfl) (by intro _ _ _ h; exact h) (Or.inl ⟨by rfl, ?y6⟩) (by assumption) ?r6
  case y6 =>
    intro WW hSw
    obtain ⟨hs0, hs1⟩ := hSw
    clear hs1
    go_simp
    try with_reducible rfl
  try dsimp only [Act.put]
  try simp only [List.setIfInBounds_toArray, List.set_cons_zero, List.set_cons_succ]
  refine wpAnyH_take (i := 7) (v := ?v7) (by simp only [List.getElem?_toArray, List.getElem?_cons_zero, List.getElem?_cons_succ]; rfl) (by kernel_rfl) (by kernel_rfl) (by kernel_rfl) (by intro _ _ _ h; exact h) (Or.inl ⟨by rfl, ?y7⟩) (by assumption) ?r7
  case y7 =>
    intro WW hSw
    obtain ⟨hs0, hs1⟩ := hSw
    clear hs1
    go_simp
    try with_reducible rfl
  try dsimp only [Act.put]
  try simp only [List.setIfInBounds_toArray, List.set_cons_zero, List.set_cons_succ]
  refine wpAnyH_ready (rs := [5, 10]) (by kernel_rfl) (by simp) ?_
  refine AllReadyH.cons (by simp only [List.getElem?_toArray, List.getElem?_cons_zero, List.getElem?_cons_succ]; rfl) (fun K0 hK0 => ?_) ?_
  · go_simp
    go_at_call 31
    refine (HID.out _ (by repeat (first | exact grownBy_drewN W _ none | refine World.grownBy.trans ?_ (grownBy_drewN _ _ none) | refine World.grownBy.trans ?_ (World.grownBy_alloc _ _ none) | exact World.grownBy.refl W none))).mono ?_
    rintro e w' ⟨rfl, q1, rfl⟩
    try dsimp only
    refine hK0.out _ _ ⟨World.grownBy.cell (w := W) (by repeat (first | exact grownBy_drewN W _ none | refine World.grownBy.trans ?_ (grownBy_drewN _ _ none) | refine World.grownBy.trans ?_ (World.grownBy_alloc _ _ none) | exact World.grownBy.refl W none)) c0 (by simp), (by repeat (first | exact grownBy_drewN W _ none | refine World.grownBy.trans ?_ (grownBy_drewN _ _ none) | refine World.grownBy.trans ?_ (World.grownBy_alloc _ _ none) | exact World.grownBy.refl W none))⟩ (fun hH => ?_)
    clear hK0 K0
    try dsimp only [Act.put]
    try simp only [List.setIfInBounds_toArray, List.set_cons_zero, List.set_cons_succ]
    refine wpAnyH_ready (rs := [8, 10]) (by kernel_rfl) (by simp) ?_
    refine AllReadyH.cons (by simp only [List.getElem?_toArray, List.getElem?_cons_zero, List.getElem?_cons_succ]; rfl) (fun K0 hK0 => ?_) ?_
    · go_simp
      go_at_call 32
      refine (HNM.out _ (by repeat (first | exact grownBy_drewN W _ none | refine World.grownBy.trans ?_ (grownBy_drewN _ _ none) | refine World.grownBy.trans ?_ (World.grownBy_alloc _ _ none) | exact World.grownBy.refl W none))).mono ?_
      rintro e w' ⟨rfl, q2, rfl⟩
      try dsimp only
      refine hK0.out _ _ ⟨World.grownBy.cell (w := W) (by repeat (first | exact grownBy_drewN W _ none | refine World.grownBy.trans ?_ (grownBy_drewN _ _ none) | refine World.grownBy.trans ?_ (World.grownBy_alloc _ _ none) | exact World.grownBy.refl W none)) c0 (by simp), (by repeat (first | exact grownBy_drewN W _ none | refine World.grownBy.trans ?_ (grownBy_drewN _ _ none) | refine World.grownBy.trans ?_ (World.grownBy_alloc _ _ none) | exact World.grownBy.refl W none))⟩ (fun hH => ?_)
      clear hK0 K0
      try dsimp only [Act.put]
      try simp only [List.setIfInBounds_toArray, List.set_cons_zero, List.set_cons_succ]
      refine wpAnyH_take (i := 9) (v := ?v9a) (by simp only [List.getElem?_toArray, List.getElem?_cons_zero, List.getElem?_cons_succ]; rfl) (by kernel_rfl) (by kernel_rfl) (by kernel_rfl) (by intro _ _ _ h; exact h) (Or.inl ⟨by rfl, ?y9a⟩) (by assumption) ?r9a
      case y9a =>
        intro WW hSw
        obtain ⟨hs0, hs1⟩ := hSw
        clear hs1
        go_simp
        try with_reducible rfl
      try dsimp only [Act.put]
      try simp only [List.setIfInBounds_toArray, List.set_cons_zero, List.set_cons_succ]
      refine wpAnyH_ready (rs := [10]) (by kernel_rfl) (by simp) ?_
      refine AllReadyH.cons (by simp only [List.getElem?_toArray, List.getElem?_cons_zero, List.getElem?_cons_succ]; rfl) (fun K0 hK0 => ?_) AllReadyH.nil
      go_simp
      refine hK0.out _ _ ⟨World.grownBy.cell (w := W) (by repeat (first | exact grownBy_drewN W _ none | refine World.grownBy.trans ?_ (grownBy_drewN _ _ none) | refine World.grownBy.trans ?_ (World.grownBy_alloc _ _ none) | exact World.grownBy.refl W none)) c0 (by simp), (by repeat (first | exact grownBy_drewN W _ none | refine World.grownBy.trans ?_ (grownBy_drewN _ _ none) | refine World.grownBy.trans ?_ (World.grownBy_alloc _ _ none) | exact World.grownBy.refl W none))⟩ (fun hH => ?_)
      clear hK0 K0
      try dsimp only [Act.put]
      try simp only [List.setIfInBounds_toArray, List.set_cons_zero, List.set_cons_succ]
      have RA : Row ((W.drewN (nq + 1 + q1 + q2)).alloc (.cells #[.int .i64 0, .int .i64 0, .int .i64 0, .slice none 0 0] 24)) W.heap.size 24 4 (rqV (.int .i64 0) (.int .i64 0) (.int .i64 0) (.slice none 0 0)) := rowQ (w := W.drewN (nq + 1 + q1 + q2)) rfl
      have GA : W.grownBy ((W.drewN (nq + 1 + q1 + q2)).alloc (.cells #[.int .i64 0, .int .i64 0, .int .i64 0, .slice none 0 0] 24)) none := (by repeat (first | exact grownBy_drewN W _ none | refine World.grownBy.trans ?_ (grownBy_drewN _ _ none) | refine World.grownBy.trans ?_ (World.grownBy_alloc _ _ none) | exact World.grownBy.refl W none))
      generalize hA : (W.drewN (nq + 1 + q1 + q2)).alloc (.cells #[.int .i64 0, .int .i64 0, .int .i64 0, .slice none 0 0] 24) = A at RA GA hH ⊢
      clear hA
      have z0 := RA.cell (k := 0) (by omega); have z1 := RA.cell (k := 1) (by omega); have z2 := RA.cell (k := 2) (by omega); have z3 := RA.cell (k := 3) (by omega); have zz := RA.frozen
      simp only [rqV] at z0 z1 z2 z3
      have RB := set4 RA (.int .i64 x0) (.int .i64 ID) (.int .i64 SC) (.slice none 0 0)
      have GB := GA.andThen (set4_grown A W.heap.size (.int .i64 x0) (.int .i64 ID) (.int .i64 SC) (.slice none 0 0)) (fun j e => .inl (by cases e; exact Nat.le_refl _))
      have hRB := hid RB; have hGB := hid GB
      refine wpAnyH_ready (rs := [11]) (by kernel_rfl) (by simp) ?_
      refine AllReadyH.cons (by simp only [List.getElem?_toArray, List.getElem?_cons_zero, List.getElem?_cons_succ]; rfl) (fun K0 hK0 => ?_) AllReadyH.nil
      clear RB GB
      go_simp
      refine hK0.out _ _ ⟨hGB.out.cell c0 (by simp), hGB.out⟩ (fun hH => ?_)
      clear hK0 K0
      try dsimp only [Act.put]
      try simp only [List.setIfInBounds_toArray, List.set_cons_zero, List.set_cons_succ]
      refine wpAnyH_done (by kernel_rfl) ?_ _
      generalize (((A.setCell ⟨W.heap.size, 0, none⟩ (.int .i64 x0)).setCell ⟨W.heap.size, 1, none⟩ (.int .i64 ID)).setCell ⟨W.heap.size, 2, none⟩ (.int .i64 SC)).setCell ⟨W.heap.size, 3, none⟩ (.slice none 0 0) = A2 at hRB hGB hH ⊢
      clear z0 z1 z2 z3 zz RA GA hH
      have hRR := hid (HR0.out.grown hGB.out (by simp))
      have r0 := hRB.out.cell (k := 0) (by omega); have r1 := hRB.out.cell (k := 1) (by omega); have r2 := hRB.out.cell (k := 2) (by omega); have r3 := hRB.out.cell (k := 3) (by omega); have rz := hRB.out.frozen
      have s0 := hRR.out.cell (k := 0) (by omega); have s1 := hRR.out.cell (k := 1) (by omega); have s2 := hRR.out.cell (k := 2) (by omega); have s3 := hRR.out.cell (k := 3) (by omega); have sz := hRR.out.frozen
      simp only [rqV] at r0 r1 r2 r3 s0 s1 s2 s3
      go_wp2_with (go_at_call 24; refine (HM.out _).mono ?_; rintro e w' ⟨rfl, rfl⟩)
      have RF := set4 (hRR.out) (.int .i64 0) (.int .i64 0) (.int .i64 0) (.slice none 0 0)
      have GF := (HG0.out.trans hGB.out).andThen (set4_grown A2 w.heap.size (.int .i64 0) (.int .i64 0) (.int .i64 0) (.slice none 0 0)) (fun j e => .inl (by cases e; exact Nat.le_refl _))
      skip
      generalize (((A2.setCell ⟨w.heap.size, 0, none⟩ (.int .i64 0)).setCell ⟨w.heap.size, 1, none⟩ (.int .i64 0)).setCell ⟨w.heap.size, 2, none⟩ (.int .i64 0)).setCell ⟨w.heap.size, 3, none⟩ (.slice none 0 0) = A9 at RF GF ⊢
      have f0 := RF.cell (k := 0) (by omega); have f1 := RF.cell (k := 1) (by omega); have f2 := RF.cell (k := 2) (by omega); have f3 := RF.cell (k := 3) (by omega)
      simp only [rqV] at f0 f1 f2 f3
      refine bodyPost_ret (v := .tuple #[.agg #[.int .i64 0, .int .i64 0, .int .i64 0, .slice none 0 0], .int .i64 0, .int .i64 0, .int .i64 4]) (by simp [results, Try.results10, go_sem, f0, f1, f2, f3]) rfl ?_
      exact ⟨rfl, GF⟩
    · refine AllReadyH.cons (by simp only [List.getElem?_toArray, List.getElem?_cons_zero, List.getElem?_cons_succ]; rfl) (fun K0 hK0 => ?_) AllReadyH.nil
      go_simp
      refine hK0.out _ _ ⟨World.grownBy.cell (w := W) (by repeat (first | exact grownBy_drewN W _ none | refine World.grownBy.trans ?_ (grownBy_drewN _ _ none) | refine World.grownBy.trans ?_ (World.grownBy_alloc _ _ none) | exact World.grownBy.refl W none)) c0 (by simp), (by repeat (first | exact grownBy_drewN W _ none | refine World.grownBy.trans ?_ (grownBy_drewN _ _ none) | refine World.grownBy.trans ?_ (World.grownBy_alloc _ _ none) | exact World.grownBy.refl W none))⟩ (fun hH => ?_)
      clear hK0 K0
      try dsimp only [Act.put]
      try simp only [List.setIfInBounds_toArray, List.set_cons_zero, List.set_cons_succ]
      refine wpAnyH_ready (rs := [8]) (by kernel_rfl) (by simp) ?_
      refine AllReadyH.cons (by simp only [List.getElem?_toArray, List.getElem?_cons_zero, List.getElem?_cons_succ]; rfl) (fun K0 hK0 => ?_) AllReadyH.nil
      go_simp
      go_at_call 32
      refine (HNM.out _ (by repeat (first | exact grownBy_drewN W _ none | refine World.grownBy.trans ?_ (grownBy_drewN _ _ none) | refine World.grownBy.trans ?_ (World.grownBy_alloc _ _ none) | exact World.grownBy.refl W none))).mono ?_
      rintro e w' ⟨rfl, q2, rfl⟩
      try dsimp only
      refine hK0.out _ _ ⟨World.grownBy.cell (w := W) (by repeat (first | exact grownBy_drewN W _ none | refine World.grownBy.trans ?_ (grownBy_drewN _ _ none) | refine World.grownBy.trans ?_ (World.grownBy_alloc _ _ none) | exact World.grownBy.refl W none)) c0 (by simp), (by repeat (first | exact grownBy_drewN W _ none | refine World.grownBy.trans ?_ (grownBy_drewN _ _ none) | refine World.grownBy.trans ?_ (World.grownBy_alloc _ _ none) | exact World.grownBy.refl W none))⟩ (fun hH => ?_)
      clear hK0 K0
      try dsimp only [Act.put]
      try simp only [List.setIfInBounds_toArray, List.set_cons_zero, List.set_cons_succ]
      refine wpAnyH_take (i := 9) (v := ?v9b) (by simp only [List.getElem?_toArray, List.getElem?_cons_zero, List.getElem?_cons_succ]; rfl) (by kernel_rfl) (by kernel_rfl) (by kernel_rfl) (by intro _ _ _ h; exact h) (Or.inl ⟨by rfl, ?y9b⟩) (by assumption) ?r9b
      case y9b =>
        intro WW hSw
        obtain ⟨hs0, hs1⟩ := hSw
        clear hs1
        go_simp
        try with_reducible rfl
      try dsimp only [Act.put]
      try simp only [List.setIfInBounds_toArray, List.set_cons_zero, List.set_cons_succ]
      have RA : Row (((W.drewN (nq + 1 + q1)).alloc (.cells #[.int .i64 0, .int .i64 0, .int .i64 0, .slice none 0 0] 24)).drewN q2) W.heap.size 24 4 (rqV (.int .i64 0) (.int .i64 0) (.int .i64 0) (.slice none 0 0)) := Row.grown (rowQ (w := W.drewN (nq + 1 + q1)) rfl) (grownBy_drewN _ q2 none) (by simp)
      have GA : W.grownBy (((W.drewN (nq + 1 + q1)).alloc (.cells #[.int .i64 0, .int .i64 0, .int .i64 0, .slice none 0 0] 24)).drewN q2) none := (by repeat (first | exact grownBy_drewN W _ none | refine World.grownBy.trans ?_ (grownBy_drewN _ _ none) | refine World.grownBy.trans ?_ (World.grownBy_alloc _ _ none) | exact World.grownBy.refl W none))
      generalize hA : ((W.drewN (nq + 1 + q1)).alloc (.cells #[.int .i64 0, .int .i64 0, .int .i64 0, .slice none 0 0] 24)).drewN q2 = A at RA GA hH ⊢
      clear hA
      have z0 := RA.cell (k := 0) (by omega); have z1 := RA.cell (k := 1) (by omega); have z2 := RA.cell (k := 2) (by omega); have z3 := RA.cell (k := 3) (by omega); have zz := RA.frozen
      simp only [rqV] at z0 z1 z2 z3
      have RB := set4 RA (.int .i64 x0) (.int .i64 ID) (.int .i64 SC) (.slice none 0 0)
      have GB := GA.andThen (set4_grown A W.heap.size (.int .i64 x0) (.int .i64 ID) (.int .i64 SC) (.slice none 0 0)) (fun j e => .inl (by cases e; exact Nat.le_refl _))
      have hRB := hid RB; have hGB := hid GB
      refine wpAnyH_ready (rs := [11]) (by kernel_rfl) (by simp) ?_
      refine AllReadyH.cons (by simp only [List.getElem?_toArray, List.getElem?_cons_zero, List.getElem?_cons_succ]; rfl) (fun K0 hK0 => ?_) AllReadyH.nil
      clear RB GB
      go_simp
      refine hK0.out _ _ ⟨hGB.out.cell c0 (by simp), hGB.out⟩ (fun hH => ?_)
      clear hK0 K0
      try dsimp only [Act.put]
      try simp only [List.setIfInBounds_toArray, List.set_cons_zero, List.set_cons_succ]
      refine wpAnyH_done (by kernel_rfl) ?_ _
      generalize (((A.setCell ⟨W.heap.size, 0, none⟩ (.int .i64 x0)).setCell ⟨W.heap.size, 1, none⟩ (.int .i64 ID)).setCell ⟨W.heap.size, 2, none⟩ (.int .i64 SC)).setCell ⟨W.heap.size, 3, none⟩ (.slice none 0 0) = A2 at hRB hGB hH ⊢
      clear z0 z1 z2 z3 zz RA GA hH
      have hRR := hid (HR0.out.grown hGB.out (by simp))
      have r0 := hRB.out.cell (k := 0) (by omega); have r1 := hRB.out.cell (k := 1) (by omega); have r2 := hRB.out.cell (k := 2) (by omega); have r3 := hRB.out.cell (k := 3) (by omega); have rz := hRB.out.frozen
      have s0 := hRR.out.cell (k := 0) (by omega); have s1 := hRR.out.cell (k := 1) (by omega); have s2 := hRR.out.cell (k := 2) (by omega); have s3 := hRR.out.cell (k := 3) (by omega); have sz := hRR.out.frozen
      simp only [rqV] at r0 r1 r2 r3 s0 s1 s2 s3
      go_wp2_with (go_at_call 24; refine (HM.out _).mono ?_; rintro e w' ⟨rfl, rfl⟩)
      have RF := set4 (hRR.out) (.int .i64 0) (.int .i64 0) (.int .i64 0) (.slice none 0 0)
      have GF := (HG0.out.trans hGB.out).andThen (set4_grown A2 w.heap.size (.int .i64 0) (.int .i64 0) (.int .i64 0) (.slice none 0 0)) (fun j e => .inl (by cases e; exact Nat.le_refl _))
      skip
      generalize (((A2.setCell ⟨w.heap.size, 0, none⟩ (.int .i64 0)).setCell ⟨w.heap.size, 1, none⟩ (.int .i64 0)).setCell ⟨w.heap.size, 2, none⟩ (.int .i64 0)).setCell ⟨w.heap.size, 3, none⟩ (.slice none 0 0) = A9 at RF GF ⊢
      have f0 := RF.cell (k := 0) (by omega); have f1 := RF.cell (k := 1) (by omega); have f2 := RF.cell (k := 2) (by omega); have f3 := RF.cell (k := 3) (by omega)
      simp only [rqV] at f0 f1 f2 f3
      refine bodyPost_ret (v := .tuple #[.agg #[.int .i64 0, .int .i64 0, .int .i64 0, .slice none 0 0], .int .i64 0, .int .i64 0, .int .i64 4]) (by simp [results, Try.results10, go_sem, f0, f1, f2, f3]) rfl ?_
      exact ⟨rfl, GF⟩
  · refine AllReadyH.cons (by simp only [List.getElem?_toArray, List.getElem?_cons_zero, List.getElem?_cons_succ]; rfl) (fun K0 hK0 => ?_) AllReadyH.nil
    go_simp
    refine hK0.out _ _ ⟨World.grownBy.cell (w := W) (by repeat (first | exact grownBy_drewN W _ none | refine World.grownBy.trans ?_ (grownBy_drewN _ _ none) | refine World.grownBy.trans ?_ (World.grownBy_alloc _ _ none) | exact World.grownBy.refl W none)) c0 (by simp), (by repeat (first | exact grownBy_drewN W _ none | refine World.grownBy.trans ?_ (grownBy_drewN _ _ none) | refine World.grownBy.trans ?_ (World.grownBy_alloc _ _ none) | exact World.grownBy.refl W none))⟩ (fun hH => ?_)
    clear hK0 K0
    try dsimp only [Act.put]
    try simp only [List.setIfInBounds_toArray, List.set_cons_zero, List.set_cons_succ]
    refine wpAnyH_ready (rs := [5]) (by kernel_rfl) (by simp) ?_
    refine AllReadyH.cons (by simp only [List.getElem?_toArray, List.getElem?_cons_zero, List.getElem?_cons_succ]; rfl) (fun K0 hK0 => ?_) AllReadyH.nil
    go_simp
    go_at_call 31
    refine (HID.out _ (by repeat (first | exact grownBy_drewN W _ none | refine World.grownBy.trans ?_ (grownBy_drewN _ _ none) | refine World.grownBy.trans ?_ (World.grownBy_alloc _ _ none) | exact World.grownBy.refl W none))).mono ?_
    rintro e w' ⟨rfl, q1, rfl⟩
    try dsimp only
    refine hK0.out _ _ ⟨World.grownBy.cell (w := W) (by repeat (first | exact grownBy_drewN W _ none | refine World.grownBy.trans ?_ (grownBy_drewN _ _ none) | refine World.grownBy.trans ?_ (World.grownBy_alloc _ _ none) | exact World.grownBy.refl W none)) c0 (by simp), (by repeat (first | exact grownBy_drewN W _ none | refine World.grownBy.trans ?_ (grownBy_drewN _ _ none) | refine World.grownBy.trans ?_ (World.grownBy_alloc _ _ none) | exact World.grownBy.refl W none))⟩ (fun hH => ?_)
    clear hK0 K0
    try dsimp only [Act.put]
    try simp only [List.setIfInBounds_toArray, List.set_cons_zero, List.set_cons_succ]
    refine wpAnyH_ready (rs := [8]) (by kernel_rfl) (by simp) ?_
    refine AllReadyH.cons (by simp only [List.getElem?_toArray, List.getElem?_cons_zero, List.getElem?_cons_succ]; rfl) (fun K0 hK0 => ?_) AllReadyH.nil
    go_simp
    go_at_call 32
    refine (HNM.out _ (by repeat (first | exact grownBy_drewN W _ none | refine World.grownBy.trans ?_ (grownBy_drewN _ _ none) | refine World.grownBy.trans ?_ (World.grownBy_alloc _ _ none) | exact World.grownBy.refl W none))).mono ?_
    rintro e w' ⟨rfl, q2, rfl⟩
    try dsimp only
    refine hK0.out _ _ ⟨World.grownBy.cell (w := W) (by repeat (first | exact grownBy_drewN W _ none | refine World.grownBy.trans ?_ (grownBy_drewN _ _ none) | refine World.grownBy.trans ?_ (World.grownBy_alloc _ _ none) | exact World.grownBy.refl W none)) c0 (by simp), (by repeat (first | exact grownBy_drewN W _ none | refine World.grownBy.trans ?_ (grownBy_drewN _ _ none) | refine World.grownBy.trans ?_ (World.grownBy_alloc _ _ none) | exact World.grownBy.refl W none))⟩ (fun hH => ?_)
    clear hK0 K0
    try dsimp only [Act.put]
    try simp only [List.setIfInBounds_toArray, List.set_cons_zero, List.set_cons_succ]
    refine wpAnyH_take (i := 9) (v := ?v9c) (by simp only [List.getElem?_toArray, List.getElem?_cons_zero, List.getElem?_cons_succ]; rfl) (by kernel_rfl) (by kernel_rfl) (by kernel_rfl) (by intro _ _ _ h; exact h) (Or.inl ⟨by rfl, ?y9c⟩) (by assumption) ?r9c
    case y9c =>
      intro WW hSw
      obtain ⟨hs0, hs1⟩ := hSw
      clear hs1
      go_simp
      try with_reducible rfl
    try dsimp only [Act.put]
    try simp only [List.setIfInBounds_toArray, List.set_cons_zero, List.set_cons_succ]
    have RA : Row ((((W.drewN (nq + 1)).alloc (.cells #[.int .i64 0, .int .i64 0, .int .i64 0, .slice none 0 0] 24)).drewN q1).drewN q2) W.heap.size 24 4 (rqV (.int .i64 0) (.int .i64 0) (.int .i64 0) (.slice none 0 0)) := Row.grown (Row.grown (rowQ (w := W.drewN (nq + 1)) rfl) (grownBy_drewN _ q1 none) (by simp)) (grownBy_drewN _ q2 none) (by simp)
    have GA : W.grownBy ((((W.drewN (nq + 1)).alloc (.cells #[.int .i64 0, .int .i64 0, .int .i64 0, .slice none 0 0] 24)).drewN q1).drewN q2) none := (by repeat (first | exact grownBy_drewN W _ none | refine World.grownBy.trans ?_ (grownBy_drewN _ _ none) | refine World.grownBy.trans ?_ (World.grownBy_alloc _ _ none) | exact World.grownBy.refl W none))
    generalize hA : (((W.drewN (nq + 1)).alloc (.cells #[.int .i64 0, .int .i64 0, .int .i64 0, .slice none 0 0] 24)).drewN q1).drewN q2 = A at RA GA hH ⊢
    clear hA
    have z0 := RA.cell (k := 0) (by omega); have z1 := RA.cell (k := 1) (by omega); have z2 := RA.cell (k := 2) (by omega); have z3 := RA.cell (k := 3) (by omega); have zz := RA.frozen
    simp only [rqV] at z0 z1 z2 z3
    have RB := set4 RA (.int .i64 x0) (.int .i64 ID) (.int .i64 SC) (.slice none 0 0)
    have GB := GA.andThen (set4_grown A W.heap.size (.int .i64 x0) (.int .i64 ID) (.int .i64 SC) (.slice none 0 0)) (fun j e => .inl (by cases e; exact Nat.le_refl _))
    have hRB := hid RB; have hGB := hid GB
    refine wpAnyH_ready (rs := [11]) (by kernel_rfl) (by simp) ?_
    refine AllReadyH.cons (by simp only [List.getElem?_toArray, List.getElem?_cons_zero, List.getElem?_cons_succ]; rfl) (fun K0 hK0 => ?_) AllReadyH.nil
    clear RB GB
    go_simp
    refine hK0.out _ _ ⟨hGB.out.cell c0 (by simp), hGB.out⟩ (fun hH => ?_)
    clear hK0 K0
    try dsimp only [Act.put]
    try simp only [List.setIfInBounds_toArray, List.set_cons_zero, List.set_cons_succ]
    refine wpAnyH_done (by kernel_rfl) ?_ _
    generalize (((A.setCell ⟨W.heap.size, 0, none⟩ (.int .i64 x0)).setCell ⟨W.heap.size, 1, none⟩ (.int .i64 ID)).setCell ⟨W.heap.size, 2, none⟩ (.int .i64 SC)).setCell ⟨W.heap.size, 3, none⟩ (.slice none 0 0) = A2 at hRB hGB hH ⊢
    clear z0 z1 z2 z3 zz RA GA hH
    have hRR := hid (HR0.out.grown hGB.out (by simp))
    have r0 := hRB.out.cell (k := 0) (by omega); have r1 := hRB.out.cell (k := 1) (by omega); have r2 := hRB.out.cell (k := 2) (by omega); have r3 := hRB.out.cell (k := 3) (by omega); have rz := hRB.out.frozen
    have s0 := hRR.out.cell (k := 0) (by omega); have s1 := hRR.out.cell (k := 1) (by omega); have s2 := hRR.out.cell (k := 2) (by omega); have s3 := hRR.out.cell (k := 3) (by omega); have sz := hRR.out.frozen
    simp only [rqV] at r0 r1 r2 r3 s0 s1 s2 s3
    go_wp2_with (go_at_call 24; refine (HM.out _).mono ?_; rintro e w' ⟨rfl, rfl⟩)
    have RF := set4 (hRR.out) (.int .i64 0) (.int .i64 0) (.int .i64 0) (.slice none 0 0)
    have GF := (HG0.out.trans hGB.out).andThen (set4_grown A2 w.heap.size (.int .i64 0) (.int .i64 0) (.int .i64 0) (.slice none 0 0)) (fun j e => .inl (by cases e; exact Nat.le_refl _))
    skip
    generalize (((A2.setCell ⟨w.heap.size, 0, none⟩ (.int .i64 0)).setCell ⟨w.heap.size, 1, none⟩ (.int .i64 0)).setCell ⟨w.heap.size, 2, none⟩ (.int .i64 0)).setCell ⟨w.heap.size, 3, none⟩ (.slice none 0 0) = A9 at RF GF ⊢
    have f0 := RF.cell (k := 0) (by omega); have f1 := RF.cell (k := 1) (by omega); have f2 := RF.cell (k := 2) (by omega); have f3 := RF.cell (k := 3) (by omega)
    simp only [rqV] at f0 f1 f2 f3
    refine bodyPost_ret (v := .tuple #[.agg #[.int .i64 0, .int .i64 0, .int .i64 0, .slice none 0 0], .int .i64 0, .int .i64 0, .int .i64 4]) (by simp [results, Try.results10, go_sem, f0, f1, f2, f3]) rfl ?_
    exact ⟨rfl, GF⟩

set_option maxRecDepth 100000 in
theorem bUnp_a2 (l : List UInt8) (b o c : Nat) (w : World) (hl : l.length = 16) (hc : 16 ≤ c) (hc63 : c ≤ 9223372036854775807) (h : BA w (some ⟨b, o, none⟩) l) (h3 : (l.getD 0 0).toNat ≠ 3) (hmay : mayV (l.getD 0 0).toNat (l.getD 1 0).toNat (-1) = true) (her : (segsR ((l.drop 8).take (2 * (l.getD 1 0).toNat))).2 = 4) :
    Calls Try.prog 10 #[.slice (some ⟨b, o, none⟩) 16 c] w fun e w' => e = .returned (.tuple #[.agg #[.int .i64 0, .int .i64 0, .int .i64 0, .slice none 0 0], .int .i64 0, .int .i64 0, .int .i64 4]) ∧ w.grownBy w' none := by
  obtain ⟨W, hW⟩ : ∃ W, w.alloc (.cells #[.int .i64 0, .int .i64 0, .int .i64 0, .slice none 0 0] 24) = W := ⟨_, rfl⟩
  have HG0 := hid (show w.grownBy W none from hW ▸ World.grownBy_alloc _ _ _)
  have HR0 := hid (rowQ hW)
  have HB := hid (h.grown HG0.out)
  have c0 := HB.out.at (k := 0) (by omega)
  have c1 := HB.out.at (k := 1) (by omega)
  rw [Nat.add_zero] at c0
  have y0 := UInt8.toNat_lt (l.getD 0 0)
  have y1 := UInt8.toNat_lt (l.getD 1 0)
  have HID := hid fun w' (hg : W.grownBy w' none) => bReqID b o c l w' hl hc (HB.out.grown hg)
  have HNM := hid fun w' (hg : W.grownBy w' none) => bNumber b (o + 4) (c - 4) 4 (l.getD 4 0).toNat (l.getD 5 0).toNat (l.getD 6 0).toNat (l.getD 7 0).toNat w' (by omega) ⟨UInt8.toNat_lt _, UInt8.toNat_lt _, UInt8.toNat_lt _, UInt8.toNat_lt _⟩ (fun k hk => by
    have hx := (HB.out.grown hg).at (k := 4 + k) (by omega)
    rw [← Nat.add_assoc] at hx
    match k, hk with
    | 0, _ => exact hx
    | 1, _ => exact hx
    | 2, _ => exact hx
    | 3, _ => exact hx)
  have HM := hid fun w' => hmay ▸ bMay (l.getD 0 0).toNat (l.getD 1 0).toNat (-1) w'
  have hx4 : (l.getD 1 0).toNat ≤ 4 := may_le hmay
  have hx4' : ((l.getD 1 0).toNat : Int) ≤ 4 := by omega
  have hs2 : IntKind.i64.wrap (2 * ((l.getD 1 0).toNat : Int)) = ((2 * (l.getD 1 0).toNat : Nat) : Int) := by rw [IntKind.wrap_i64]; omega
  have hs3 : wrap64 (2 * ((l.getD 1 0).toNat : Int)) = ((2 * (l.getD 1 0).toNat : Nat) : Int) := by unfold wrap64; omega
  have hs8 : 2 * (l.getD 1 0).toNat ≤ 8 := by omega
  have hs8' : ((2 * (l.getD 1 0).toNat : Nat) : Int) ≤ 8 := by omega
  have hsc : 2 * (l.getD 1 0).toNat ≤ c - 8 := by omega
  have hsc' : ((2 * (l.getD 1 0).toNat : Nat) : Int) ≤ ((c - 8 : Nat) : Int) := by omega
  have HS := hid fun w' (hg : W.grownBy w' none) => segs_at b o c l w' (l.getD 1 0).toNat hl hc hc63 hs8 (HB.out.grown hg)
  unfold SegsRead2 at HS
  obtain ⟨⟨L, er⟩, hL⟩ : ∃ q, segsR ((l.drop 8).take (2 * (l.getD 1 0).toNat)) = q := ⟨_, rfl⟩
  rw [hL] at HS her
  simp only at HS her
  obtain ⟨m, hm⟩ : ∃ m, L.length = m := ⟨_, rfl⟩
  rw [hm] at HS
  clear hL hm
  subst her
  generalize upN (l.getD 2 0).toNat (l.getD 3 0).toNat 0 0 2 = ID at *
  generalize upN (l.getD 4 0).toNat (l.getD 5 0).toNat (l.getD 6 0).toNat (l.getD 7 0).toNat 4 = SC at *
  generalize (l.getD 0 0).toNat = x0 at *
  generalize (l.getD 1 0).toNat = x1 at *
  have e8 : 8 ≤ c := by omega
  have e8' : (8 : Int) ≤ c := by omega
  have e4 : 4 ≤ c := by omega
  have e4' : (4 : Int) ≤ c := by omega
  have hc4 : ¬ c = 4 := by omega
  have hc8 : ¬ c = 8 := by omega
  have wx0 : IntKind.i64.wrap (x0 : Int) = x0 := by rw [IntKind.wrap_i64]; omega
  have wx1 : IntKind.i64.wrap (x1 : Int) = x1 := by rw [IntKind.wrap_i64]; omega
  have h30 : ((x0 : Int) == 3) = false := by simp; omega
  clear h
  go_enter Try.func10, Try.ntmps10
  go_wp2
  go_quiet (fail)
  go_wp2
  refine wp_region_held_drew (S := fun w' => w'.cell? ⟨b, o, none⟩ = some (.int .u8 x0) ∧ W.grownBy w' none) (by kernel_rfl) ⟨c0, (grownBy_drewN W _ none).trans (grownBy_drew _ none)⟩ (fun hH => ?_)
  refine wpAnyH_take (i := 0) (v := ?v0) (by simp only [List.getElem?_toArray, List.getElem?_cons_zero, List.getElem?_cons_succ]; rfl) (by kernel_rfl) (by kernel_rfl) (by kernel_rfl) (by intro _ _ _ h; exact h) (Or.inl ⟨by rfl, ?y0⟩) (by assumption) ?r0
  case y0 =>
    intro WW hSw
    obtain ⟨hs0, hs1⟩ := hSw
    clear hs1
    go_simp
    try with_reducible rfl
  try dsimp only [Act.put]
  try simp only [List.setIfInBounds_toArray, List.set_cons_zero, List.set_cons_succ]
  refine wpAnyH_take (i := 1) (v := ?v1) (by simp only [List.getElem?_toArray, List.getElem?_cons_zero, List.getElem?_cons_succ]; rfl) (by kernel_rfl) (by kernel_rfl) (by kernel_rfl) (by intro _ _ _ h; exact h) (Or.inl ⟨by rfl, ?y1⟩) (by assumption) ?r1
  case y1 =>
    intro WW hSw
    obtain ⟨hs0, hs1⟩ := hSw
    clear hs1
    go_simp
    try with_reducible rfl
  try dsimp only [Act.put]
  try simp only [List.setIfInBounds_toArray, List.set_cons_zero, List.set_cons_succ]
  refine wpAnyH_take (i := 2) (v := ?v2) (by simp only [List.getElem?_toArray, List.getElem?_cons_zero, List.getElem?_cons_succ]; rfl) (by kernel_rfl) (by kernel_rfl) (by kernel_rfl) (by intro _ _ _ h; exact h) (Or.inl ⟨by rfl, ?y2⟩) (by assumption) ?r2
  case y2 =>
    intro WW hSw
    obtain ⟨hs0, hs1⟩ := hSw
    clear hs1
    go_simp
    try with_reducible rfl
  try dsimp only [Act.put]
  try simp only [List.setIfInBounds_toArray, List.set_cons_zero, List.set_cons_succ]
  refine wpAnyH_take (i := 3) (v := ?v3) (by simp only [List.getElem?_toArray, List.getElem?_cons_zero, List.getElem?_cons_succ]; rfl) (by kernel_rfl) (by kernel_rfl) (by kernel_rfl) (by intro _ _ _ h; exact h) (Or.inl ⟨by rfl, ?y3⟩) (by assumption) ?r3
  case y3 =>
    intro WW hSw
    obtain ⟨hs0, hs1⟩ := hSw
    clear hs1
    go_simp
    try with_reducible rfl
  try dsimp only [Act.put]
  try simp only [List.setIfInBounds_toArray, List.set_cons_zero, List.set_cons_succ]
  refine wpAnyH_take (i := 4) (v := ?v4) (by simp only [List.getElem?_toArray, List.getElem?_cons_zero, List.getElem?_cons_succ]; rfl) (by kernel_rfl) (by kernel_rfl) (by kernel_rfl) (by intro _ _ _ h; exact h) (Or.inl ⟨by rfl, ?y4⟩) (by assumption) ?r4
  case y4 =>
    intro WW hSw
    obtain ⟨hs0, hs1⟩ := hSw
    clear hs1
    go_simp
    try with_reducible rfl
  try dsimp only [Act.put]
  try simp only [List.setIfInBounds_toArray, List.set_cons_zero, List.set_cons_succ]
  refine wpAnyH_take (i := 6) (v := ?v6) (by simp only [List.getElem?_toArray, List.getElem?_cons_zero, List.getElem?_cons_succ]; rfl) (by kernel_rfl) (by kernel_rfl) (by kernel_rfl) (by intro _ _ _ h; exact h) (Or.inl ⟨by rfl, ?y6⟩) (by assumption) ?r6
  case y6 =>
    intro WW hSw
    obtain ⟨hs0, hs1⟩ := hSw
    clear hs1
    go_simp
    try with_reducible rfl
  try dsimp only [Act.put]
  try simp only [List.setIfInBounds_toArray, List.set_cons_zero, List.set_cons_succ]
  refine wpAnyH_take (i := 7) (v := ?v7) (by simp only [List.getElem?_toArray, List.getElem?_cons_zero, List.getElem?_cons_succ]; rfl) (by kernel_rfl) (by kernel_rfl) (by kernel_rfl) (by intro _ _ _ h; exact h) (Or.inl ⟨by rfl, ?y7⟩) (by assumption) ?r7
  case y7 =>
    intro WW hSw
    obtain ⟨hs0, hs1⟩ := hSw
    clear hs1
    go_simp
    try with_reducible rfl
  try dsimp only [Act.put]
  try simp only [List.setIfInBounds_toArray, List.set_cons_zero, List.set_cons_succ]
  refine wpAnyH_ready (rs := [5, 10]) (by kernel_rfl) (by simp) ?_
  refine AllReadyH.cons (by simp only [List.getElem?_toArray, List.getElem?_cons_zero, List.getElem?_cons_succ]; rfl) (fun K0 hK0 => ?_) ?_
  · go_simp
    go_at_call 31
    refine (HID.out _ (by repeat (first | exact grownBy_drewN W _ none | refine World.grownBy.trans ?_ (grownBy_drewN _ _ none) | refine World.grownBy.trans ?_ (World.grownBy_alloc _ _ none) | exact World.grownBy.refl W none))).mono ?_
    rintro e w' ⟨rfl, q1, rfl⟩
    try dsimp only
    refine hK0.out _ _ ⟨World.grownBy.cell (w := W) (by repeat (first | exact grownBy_drewN W _ none | refine World.grownBy.trans ?_ (grownBy_drewN _ _ none) | refine World.grownBy.trans ?_ (World.grownBy_alloc _ _ none) | exact World.grownBy.refl W none)) c0 (by simp), (by repeat (first | exact grownBy_drewN W _ none | refine World.grownBy.trans ?_ (grownBy_drewN _ _ none) | refine World.grownBy.trans ?_ (World.grownBy_alloc _ _ none) | exact World.grownBy.refl W none))⟩ (fun hH => ?_)
    clear hK0 K0
    try dsimp only [Act.put]
    try simp only [List.setIfInBounds_toArray, List.set_cons_zero, List.set_cons_succ]
    refine wpAnyH_ready (rs := [8, 10]) (by kernel_rfl) (by simp) ?_
    refine AllReadyH.cons (by simp only [List.getElem?_toArray, List.getElem?_cons_zero, List.getElem?_cons_succ]; rfl) (fun K0 hK0 => ?_) ?_
    · go_simp
      go_at_call 32
      refine (HNM.out _ (by repeat (first | exact grownBy_drewN W _ none | refine World.grownBy.trans ?_ (grownBy_drewN _ _ none) | refine World.grownBy.trans ?_ (World.grownBy_alloc _ _ none) | exact World.grownBy.refl W none))).mono ?_
      rintro e w' ⟨rfl, q2, rfl⟩
      try dsimp only
      refine hK0.out _ _ ⟨World.grownBy.cell (w := W) (by repeat (first | exact grownBy_drewN W _ none | refine World.grownBy.trans ?_ (grownBy_drewN _ _ none) | refine World.grownBy.trans ?_ (World.grownBy_alloc _ _ none) | exact World.grownBy.refl W none)) c0 (by simp), (by repeat (first | exact grownBy_drewN W _ none | refine World.grownBy.trans ?_ (grownBy_drewN _ _ none) | refine World.grownBy.trans ?_ (World.grownBy_alloc _ _ none) | exact World.grownBy.refl W none))⟩ (fun hH => ?_)
      clear hK0 K0
      try dsimp only [Act.put]
      try simp only [List.setIfInBounds_toArray, List.set_cons_zero, List.set_cons_succ]
      refine wpAnyH_take (i := 9) (v := ?v9a) (by simp only [List.getElem?_toArray, List.getElem?_cons_zero, List.getElem?_cons_succ]; rfl) (by kernel_rfl) (by kernel_rfl) (by kernel_rfl) (by intro _ _ _ h; exact h) (Or.inl ⟨by rfl, ?y9a⟩) (by assumption) ?r9a
      case y9a =>
        intro WW hSw
        obtain ⟨hs0, hs1⟩ := hSw
        clear hs1
        go_simp
        try with_reducible rfl
      try dsimp only [Act.put]
      try simp only [List.setIfInBounds_toArray, List.set_cons_zero, List.set_cons_succ]
      refine wpAnyH_ready (rs := [10]) (by kernel_rfl) (by simp) ?_
      refine AllReadyH.cons (by simp only [List.getElem?_toArray, List.getElem?_cons_zero, List.getElem?_cons_succ]; rfl) (fun K0 hK0 => ?_) AllReadyH.nil
      go_simp
      refine hK0.out _ _ ⟨World.grownBy.cell (w := W) (by repeat (first | exact grownBy_drewN W _ none | refine World.grownBy.trans ?_ (grownBy_drewN _ _ none) | refine World.grownBy.trans ?_ (World.grownBy_alloc _ _ none) | exact World.grownBy.refl W none)) c0 (by simp), (by repeat (first | exact grownBy_drewN W _ none | refine World.grownBy.trans ?_ (grownBy_drewN _ _ none) | refine World.grownBy.trans ?_ (World.grownBy_alloc _ _ none) | exact World.grownBy.refl W none))⟩ (fun hH => ?_)
      clear hK0 K0
      try dsimp only [Act.put]
      try simp only [List.setIfInBounds_toArray, List.set_cons_zero, List.set_cons_succ]
      have RA : Row ((W.drewN (nq + 1 + q1 + q2)).alloc (.cells #[.int .i64 0, .int .i64 0, .int .i64 0, .slice none 0 0] 24)) W.heap.size 24 4 (rqV (.int .i64 0) (.int .i64 0) (.int .i64 0) (.slice none 0 0)) := rowQ (w := W.drewN (nq + 1 + q1 + q2)) rfl
      have GA : W.grownBy ((W.drewN (nq + 1 + q1 + q2)).alloc (.cells #[.int .i64 0, .int .i64 0, .int .i64 0, .slice none 0 0] 24)) none := (by repeat (first | exact grownBy_drewN W _ none | refine World.grownBy.trans ?_ (grownBy_drewN _ _ none) | refine World.grownBy.trans ?_ (World.grownBy_alloc _ _ none) | exact World.grownBy.refl W none))
      generalize hA : (W.drewN (nq + 1 + q1 + q2)).alloc (.cells #[.int .i64 0, .int .i64 0, .int .i64 0, .slice none 0 0] 24) = A at RA GA hH ⊢
      clear hA
      have z0 := RA.cell (k := 0) (by omega); have z1 := RA.cell (k := 1) (by omega); have z2 := RA.cell (k := 2) (by omega); have z3 := RA.cell (k := 3) (by omega); have zz := RA.frozen
      simp only [rqV] at z0 z1 z2 z3
      have RB := set4 RA (.int .i64 x0) (.int .i64 ID) (.int .i64 SC) (.slice none 0 0)
      have GB := GA.andThen (set4_grown A W.heap.size (.int .i64 x0) (.int .i64 ID) (.int .i64 SC) (.slice none 0 0)) (fun j e => .inl (by cases e; exact Nat.le_refl _))
      have hRB := hid RB; have hGB := hid GB
      refine wpAnyH_ready (rs := [11]) (by kernel_rfl) (by simp) ?_
      refine AllReadyH.cons (by simp only [List.getElem?_toArray, List.getElem?_cons_zero, List.getElem?_cons_succ]; rfl) (fun K0 hK0 => ?_) AllReadyH.nil
      clear RB GB
      go_simp
      refine hK0.out _ _ ⟨hGB.out.cell c0 (by simp), hGB.out⟩ (fun hH => ?_)
      clear hK0 K0
      try dsimp only [Act.put]
      try simp only [List.setIfInBounds_toArray, List.set_cons_zero, List.set_cons_succ]
      refine wpAnyH_done (by kernel_rfl) ?_ _
      generalize (((A.setCell ⟨W.heap.size, 0, none⟩ (.int .i64 x0)).setCell ⟨W.heap.size, 1, none⟩ (.int .i64 ID)).setCell ⟨W.heap.size, 2, none⟩ (.int .i64 SC)).setCell ⟨W.heap.size, 3, none⟩ (.slice none 0 0) = A2 at hRB hGB hH ⊢
      clear z0 z1 z2 z3 zz RA GA hH
      have hRR := hid (HR0.out.grown hGB.out (by simp))
      have r0 := hRB.out.cell (k := 0) (by omega); have r1 := hRB.out.cell (k := 1) (by omega); have r2 := hRB.out.cell (k := 2) (by omega); have r3 := hRB.out.cell (k := 3) (by omega); have rz := hRB.out.frozen
      have s0 := hRR.out.cell (k := 0) (by omega); have s1 := hRR.out.cell (k := 1) (by omega); have s2 := hRR.out.cell (k := 2) (by omega); have s3 := hRR.out.cell (k := 3) (by omega); have sz := hRR.out.frozen
      simp only [rqV] at r0 r1 r2 r3 s0 s1 s2 s3
      go_wp2_with (first
              | (go_at_call 24; refine (HM.out _).mono ?_; rintro e w' ⟨rfl, rfl⟩)
              | (go_at_call 11; refine (HS.out _ (by first | exact hGB.out | exact World.grownBy.trans hGB.out (grownBy_drewN _ _ none) | exact World.grownBy.trans hGB.out (grownBy_drew _ none))).mono ?_; rintro e w5 ⟨ps, cs, rfl, hsa, hba, g5⟩; have HSA := hid hsa; have HBA := hid (show ∀ a : Addr, ps = some a → A2.heap.size ≤ a.block from hba); have HG5 := hid (hGB.out.trans g5); have hRR5 := hid (hRR.out.grown g5 (by simp)); have hRB5 := hid (hRB.out.grown g5 (by simp)); have r0 := hRB5.out.cell (k := 0) (by omega); have r1 := hRB5.out.cell (k := 1) (by omega); have r2 := hRB5.out.cell (k := 2) (by omega); have r3 := hRB5.out.cell (k := 3) (by omega); have rz := hRB5.out.frozen; have s0 := hRR5.out.cell (k := 0) (by omega); have s1 := hRR5.out.cell (k := 1) (by omega); have s2 := hRR5.out.cell (k := 2) (by omega); have s3 := hRR5.out.cell (k := 3) (by omega); have sz := hRR5.out.frozen; simp only [rqV] at r0 r1 r2 r3 s0 s1 s2 s3; clear hsa hba g5))
      have RF := set4 (hRR5.out) (.int .i64 0) (.int .i64 0) (.int .i64 0) (.slice none 0 0)
      have GF := (HG0.out.trans HG5.out).andThen (set4_grown w5 w.heap.size (.int .i64 0) (.int .i64 0) (.int .i64 0) (.slice none 0 0)) (fun j e => .inl (by cases e; exact Nat.le_refl _))
      skip
      generalize (((w5.setCell ⟨w.heap.size, 0, none⟩ (.int .i64 0)).setCell ⟨w.heap.size, 1, none⟩ (.int .i64 0)).setCell ⟨w.heap.size, 2, none⟩ (.int .i64 0)).setCell ⟨w.heap.size, 3, none⟩ (.slice none 0 0) = A9 at RF GF ⊢
      have f0 := RF.cell (k := 0) (by omega); have f1 := RF.cell (k := 1) (by omega); have f2 := RF.cell (k := 2) (by omega); have f3 := RF.cell (k := 3) (by omega)
      simp only [rqV] at f0 f1 f2 f3
      refine bodyPost_ret (v := .tuple #[.agg #[.int .i64 0, .int .i64 0, .int .i64 0, .slice none 0 0], .int .i64 0, .int .i64 0, .int .i64 4]) (by simp [results, Try.results10, go_sem, f0, f1, f2, f3]) rfl ?_
      exact ⟨rfl, GF⟩
    · refine AllReadyH.cons (by simp only [List.getElem?_toArray, List.getElem?_cons_zero, List.getElem?_cons_succ]; rfl) (fun K0 hK0 => ?_) AllReadyH.nil
      go_simp
      refine hK0.out _ _ ⟨World.grownBy.cell (w := W) (by repeat (first | exact grownBy_drewN W _ none | refine World.grownBy.trans ?_ (grownBy_drewN _ _ none) | refine World.grownBy.trans ?_ (World.grownBy_alloc _ _ none) | exact World.grownBy.refl W none)) c0 (by simp), (by repeat (first | exact grownBy_drewN W _ none | refine World.grownBy.trans ?_ (grownBy_drewN _ _ none) | refine World.grownBy.trans ?_ (World.grownBy_alloc _ _ none) | exact World.grownBy.refl W none))⟩ (fun hH => ?_)
      clear hK0 K0
      try dsimp only [Act.put]
      try simp only [List.setIfInBounds_toArray, List.set_cons_zero, List.set_cons_succ]
      refine wpAnyH_ready (rs := [8]) (by kernel_rfl) (by simp) ?_
      refine AllReadyH.cons (by simp only [List.getElem?_toArray, List.getElem?_cons_zero, List.getElem?_cons_succ]; rfl) (fun K0 hK0 => ?_) AllReadyH.nil
      go_simp
      go_at_call 32
      refine (HNM.out _ (by repeat (first | exact grownBy_drewN W _ none | refine World.grownBy.trans ?_ (grownBy_drewN _ _ none) | refine World.grownBy.trans ?_ (World.grownBy_alloc _ _ none) | exact World.grownBy.refl W none))).mono ?_
      rintro e w' ⟨rfl, q2, rfl⟩
      try dsimp only
      refine hK0.out _ _ ⟨World.grownBy.cell (w := W) (by repeat (first | exact grownBy_drewN W _ none | refine World.grownBy.trans ?_ (grownBy_drewN _ _ none) | refine World.grownBy.trans ?_ (World.grownBy_alloc _ _ none) | exact World.grownBy.refl W none)) c0 (by simp), (by repeat (first | exact grownBy_drewN W _ none | refine World.grownBy.trans ?_ (grownBy_drewN _ _ none) | refine World.grownBy.trans ?_ (World.grownBy_alloc _ _ none) | exact World.grownBy.refl W none))⟩ (fun hH => ?_)
      clear hK0 K0
      try dsimp only [Act.put]
      try simp only [List.setIfInBounds_toArray, List.set_cons_zero, List.set_cons_succ]
      refine wpAnyH_take (i := 9) (v := ?v9b) (by simp only [List.getElem?_toArray, List.getElem?_cons_zero, List.getElem?_cons_succ]; rfl) (by kernel_rfl) (by kernel_rfl) (by kernel_rfl) (by intro _ _ _ h; exact h) (Or.inl ⟨by rfl, ?y9b⟩) (by assumption) ?r9b
      case y9b =>
        intro WW hSw
        obtain ⟨hs0, hs1⟩ := hSw
        clear hs1
        go_simp
        try with_reducible rfl
      try dsimp only [Act.put]
      try simp only [List.setIfInBounds_toArray, List.set_cons_zero, List.set_cons_succ]
      have RA : Row (((W.drewN (nq + 1 + q1)).alloc (.cells #[.int .i64 0, .int .i64 0, .int .i64 0, .slice none 0 0] 24)).drewN q2) W.heap.size 24 4 (rqV (.int .i64 0) (.int .i64 0) (.int .i64 0) (.slice none 0 0)) := Row.grown (rowQ (w := W.drewN (nq + 1 + q1)) rfl) (grownBy_drewN _ q2 none) (by simp)
      have GA : W.grownBy (((W.drewN (nq + 1 + q1)).alloc (.cells #[.int .i64 0, .int .i64 0, .int .i64 0, .slice none 0 0] 24)).drewN q2) none := (by repeat (first | exact grownBy_drewN W _ none | refine World.grownBy.trans ?_ (grownBy_drewN _ _ none) | refine World.grownBy.trans ?_ (World.grownBy_alloc _ _ none) | exact World.grownBy.refl W none))
      generalize hA : ((W.drewN (nq + 1 + q1)).alloc (.cells #[.int .i64 0, .int .i64 0, .int .i64 0, .slice none 0 0] 24)).drewN q2 = A at RA GA hH ⊢
      clear hA
      have z0 := RA.cell (k := 0) (by omega); have z1 := RA.cell (k := 1) (by omega); have z2 := RA.cell (k := 2) (by omega); have z3 := RA.cell (k := 3) (by omega); have zz := RA.frozen
      simp only [rqV] at z0 z1 z2 z3
      have RB := set4 RA (.int .i64 x0) (.int .i64 ID) (.int .i64 SC) (.slice none 0 0)
      have GB := GA.andThen (set4_grown A W.heap.size (.int .i64 x0) (.int .i64 ID) (.int .i64 SC) (.slice none 0 0)) (fun j e => .inl (by cases e; exact Nat.le_refl _))
      have hRB := hid RB; have hGB := hid GB
      refine wpAnyH_ready (rs := [11]) (by kernel_rfl) (by simp) ?_
      refine AllReadyH.cons (by simp only [List.getElem?_toArray, List.getElem?_cons_zero, List.getElem?_cons_succ]; rfl) (fun K0 hK0 => ?_) AllReadyH.nil
      clear RB GB
      go_simp
      refine hK0.out _ _ ⟨hGB.out.cell c0 (by simp), hGB.out⟩ (fun hH => ?_)
      clear hK0 K0
      try dsimp only [Act.put]
      try simp only [List.setIfInBounds_toArray, List.set_cons_zero, List.set_cons_succ]
      refine wpAnyH_done (by kernel_rfl) ?_ _
      generalize (((A.setCell ⟨W.heap.size, 0, none⟩ (.int .i64 x0)).setCell ⟨W.heap.size, 1, none⟩ (.int .i64 ID)).setCell ⟨W.heap.size, 2, none⟩ (.int .i64 SC)).setCell ⟨W.heap.size, 3, none⟩ (.slice none 0 0) = A2 at hRB hGB hH ⊢
      clear z0 z1 z2 z3 zz RA GA hH
      have hRR := hid (HR0.out.grown hGB.out (by simp))
      have r0 := hRB.out.cell (k := 0) (by omega); have r1 := hRB.out.cell (k := 1) (by omega); have r2 := hRB.out.cell (k := 2) (by omega); have r3 := hRB.out.cell (k := 3) (by omega); have rz := hRB.out.frozen
      have s0 := hRR.out.cell (k := 0) (by omega); have s1 := hRR.out.cell (k := 1) (by omega); have s2 := hRR.out.cell (k := 2) (by omega); have s3 := hRR.out.cell (k := 3) (by omega); have sz := hRR.out.frozen
      simp only [rqV] at r0 r1 r2 r3 s0 s1 s2 s3
      go_wp2_with (first
              | (go_at_call 24; refine (HM.out _).mono ?_; rintro e w' ⟨rfl, rfl⟩)
              | (go_at_call 11; refine (HS.out _ (by first | exact hGB.out | exact World.grownBy.trans hGB.out (grownBy_drewN _ _ none) | exact World.grownBy.trans hGB.out (grownBy_drew _ none))).mono ?_; rintro e w5 ⟨ps, cs, rfl, hsa, hba, g5⟩; have HSA := hid hsa; have HBA := hid (show ∀ a : Addr, ps = some a → A2.heap.size ≤ a.block from hba); have HG5 := hid (hGB.out.trans g5); have hRR5 := hid (hRR.out.grown g5 (by simp)); have hRB5 := hid (hRB.out.grown g5 (by simp)); have r0 := hRB5.out.cell (k := 0) (by omega); have r1 := hRB5.out.cell (k := 1) (by omega); have r2 := hRB5.out.cell (k := 2) (by omega); have r3 := hRB5.out.cell (k := 3) (by omega); have rz := hRB5.out.frozen; have s0 := hRR5.out.cell (k := 0) (by omega); have s1 := hRR5.out.cell (k := 1) (by omega); have s2 := hRR5.out.cell (k := 2) (by omega); have s3 := hRR5.out.cell (k := 3) (by omega); have sz := hRR5.out.frozen; simp only [rqV] at r0 r1 r2 r3 s0 s1 s2 s3; clear hsa hba g5))
      have RF := set4 (hRR5.out) (.int .i64 0) (.int .i64 0) (.int .i64 0) (.slice none 0 0)
      have GF := (HG0.out.trans HG5.out).andThen (set4_grown w5 w.heap.size (.int .i64 0) (.int .i64 0) (.int .i64 0) (.slice none 0 0)) (fun j e => .inl (by cases e; exact Nat.le_refl _))
      skip
      generalize (((w5.setCell ⟨w.heap.size, 0, none⟩ (.int .i64 0)).setCell ⟨w.heap.size, 1, none⟩ (.int .i64 0)).setCell ⟨w.heap.size, 2, none⟩ (.int .i64 0)).setCell ⟨w.heap.size, 3, none⟩ (.slice none 0 0) = A9 at RF GF ⊢
      have f0 := RF.cell (k := 0) (by omega); have f1 := RF.cell (k := 1) (by omega); have f2 := RF.cell (k := 2) (by omega); have f3 := RF.cell (k := 3) (by omega)
      simp only [rqV] at f0 f1 f2 f3
      refine bodyPost_ret (v := .tuple #[.agg #[.int .i64 0, .int .i64 0, .int .i64 0, .slice none 0 0], .int .i64 0, .int .i64 0, .int .i64 4]) (by simp [results, Try.results10, go_sem, f0, f1, f2, f3]) rfl ?_
      exact ⟨rfl, GF⟩
  · refine AllReadyH.cons (by simp only [List.getElem?_toArray, List.getElem?_cons_zero, List.getElem?_cons_succ]; rfl) (fun K0 hK0 => ?_) AllReadyH.nil
    go_simp
    refine hK0.out _ _ ⟨World.grownBy.cell (w := W) (by repeat (first | exact grownBy_drewN W _ none | refine World.grownBy.trans ?_ (grownBy_drewN _ _ none) | refine World.grownBy.trans ?_ (World.grownBy_alloc _ _ none) | exact World.grownBy.refl W none)) c0 (by simp), (by repeat (first | exact grownBy_drewN W _ none | refine World.grownBy.trans ?_ (grownBy_drewN _ _ none) | refine World.grownBy.trans ?_ (World.grownBy_alloc _ _ none) | exact World.grownBy.refl W none))⟩ (fun hH => ?_)
    clear hK0 K0
    try dsimp only [Act.put]
    try simp only [List.setIfInBounds_toArray, List.set_cons_zero, List.set_cons_succ]
    refine wpAnyH_ready (rs := [5]) (by kernel_rfl) (by simp) ?_
    refine AllReadyH.cons (by simp only [List.getElem?_toArray, List.getElem?_cons_zero, List.getElem?_cons_succ]; rfl) (fun K0 hK0 => ?_) AllReadyH.nil
    go_simp
    go_at_call 31
    refine (HID.out _ (by repeat (first | exact grownBy_drewN W _ none | refine World.grownBy.trans ?_ (grownBy_drewN _ _ none) | refine World.grownBy.trans ?_ (World.grownBy_alloc _ _ none) | exact World.grownBy.refl W none))).mono ?_
    rintro e w' ⟨rfl, q1, rfl⟩
    try dsimp only
    refine hK0.out _ _ ⟨World.grownBy.cell (w := W) (by repeat (first | exact grownBy_drewN W _ none | refine World.grownBy.trans ?_ (grownBy_drewN _ _ none) | refine World.grownBy.trans ?_ (World.grownBy_alloc _ _ none) | exact World.grownBy.refl W none)) c0 (by simp), (by repeat (first | exact grownBy_drewN W _ none | refine World.grownBy.trans ?_ (grownBy_drewN _ _ none) | refine World.grownBy.trans ?_ (World.grownBy_alloc _ _ none) | exact World.grownBy.refl W none))⟩ (fun hH => ?_)
    clear hK0 K0
    try dsimp only [Act.put]
    try simp only [List.setIfInBounds_toArray, List.set_cons_zero, List.set_cons_succ]
    refine wpAnyH_ready (rs := [8]) (by kernel_rfl) (by simp) ?_
    refine AllReadyH.cons (by simp only [List.getElem?_toArray, List.getElem?_cons_zero, List.getElem?_cons_succ]; rfl) (fun K0 hK0 => ?_) AllReadyH.nil
    go_simp
    go_at_call 32
    refine (HNM.out _ (by repeat (first | exact grownBy_drewN W _ none | refine World.grownBy.trans ?_ (grownBy_drewN _ _ none) | refine World.grownBy.trans ?_ (World.grownBy_alloc _ _ none) | exact World.grownBy.refl W none))).mono ?_
    rintro e w' ⟨rfl, q2, rfl⟩
    try dsimp only
    refine hK0.out _ _ ⟨World.grownBy.cell (w := W) (by repeat (first | exact grownBy_drewN W _ none | refine World.grownBy.trans ?_ (grownBy_drewN _ _ none) | refine World.grownBy.trans ?_ (World.grownBy_alloc _ _ none) | exact World.grownBy.refl W none)) c0 (by simp), (by repeat (first | exact grownBy_drewN W _ none | refine World.grownBy.trans ?_ (grownBy_drewN _ _ none) | refine World.grownBy.trans ?_ (World.grownBy_alloc _ _ none) | exact World.grownBy.refl W none))⟩ (fun hH => ?_)
    clear hK0 K0
    try dsimp only [Act.put]
    try simp only [List.setIfInBounds_toArray, List.set_cons_zero, List.set_cons_succ]
    refine wpAnyH_take (i := 9) (v := ?v9c) (by simp only [List.getElem?_toArray, List.getElem?_cons_zero, List.getElem?_cons_succ]; rfl) (by kernel_rfl) (by kernel_rfl) (by kernel_rfl) (by intro _ _ _ h; exact h) (Or.inl ⟨by rfl, ?y9c⟩) (by assumption) ?r9c
    case y9c =>
      intro WW hSw
      obtain ⟨hs0, hs1⟩ := hSw
      clear hs1
      go_simp
      try with_reducible rfl
    try dsimp only [Act.put]
    try simp only [List.setIfInBounds_toArray, List.set_cons_zero, List.set_cons_succ]
    have RA : Row ((((W.drewN (nq + 1)).alloc (.cells #[.int .i64 0, .int .i64 0, .int .i64 0, .slice none 0 0] 24)).drewN q1).drewN q2) W.heap.size 24 4 (rqV (.int .i64 0) (.int .i64 0) (.int .i64 0) (.slice none 0 0)) := Row.grown (Row.grown (rowQ (w := W.drewN (nq + 1)) rfl) (grownBy_drewN _ q1 none) (by simp)) (grownBy_drewN _ q2 none) (by simp)
    have GA : W.grownBy ((((W.drewN (nq + 1)).alloc (.cells #[.int .i64 0, .int .i64 0, .int .i64 0, .slice none 0 0] 24)).drewN q1).drewN q2) none := (by repeat (first | exact grownBy_drewN W _ none | refine World.grownBy.trans ?_ (grownBy_drewN _ _ none) | refine World.grownBy.trans ?_ (World.grownBy_alloc _ _ none) | exact World.grownBy.refl W none))
    generalize hA : (((W.drewN (nq + 1)).alloc (.cells #[.int .i64 0, .int .i64 0, .int .i64 0, .slice none 0 0] 24)).drewN q1).drewN q2 = A at RA GA hH ⊢
    clear hA
    have z0 := RA.cell (k := 0) (by omega); have z1 := RA.cell (k := 1) (by omega); have z2 := RA.cell (k := 2) (by omega); have z3 := RA.cell (k := 3) (by omega); have zz := RA.frozen
    simp only [rqV] at z0 z1 z2 z3
    have RB := set4 RA (.int .i64 x0) (.int .i64 ID) (.int .i64 SC) (.slice none 0 0)
    have GB := GA.andThen (set4_grown A W.heap.size (.int .i64 x0) (.int .i64 ID) (.int .i64 SC) (.slice none 0 0)) (fun j e => .inl (by cases e; exact Nat.le_refl _))
    have hRB := hid RB; have hGB := hid GB
    refine wpAnyH_ready (rs := [11]) (by kernel_rfl) (by simp) ?_
    refine AllReadyH.cons (by simp only [List.getElem?_toArray, List.getElem?_cons_zero, List.getElem?_cons_succ]; rfl) (fun K0 hK0 => ?_) AllReadyH.nil
    clear RB GB
    go_simp
    refine hK0.out _ _ ⟨hGB.out.cell c0 (by simp), hGB.out⟩ (fun hH => ?_)
    clear hK0 K0
    try dsimp only [Act.put]
    try simp only [List.setIfInBounds_toArray, List.set_cons_zero, List.set_cons_succ]
    refine wpAnyH_done (by kernel_rfl) ?_ _
    generalize (((A.setCell ⟨W.heap.size, 0, none⟩ (.int .i64 x0)).setCell ⟨W.heap.size, 1, none⟩ (.int .i64 ID)).setCell ⟨W.heap.size, 2, none⟩ (.int .i64 SC)).setCell ⟨W.heap.size, 3, none⟩ (.slice none 0 0) = A2 at hRB hGB hH ⊢
    clear z0 z1 z2 z3 zz RA GA hH
    have hRR := hid (HR0.out.grown hGB.out (by simp))
    have r0 := hRB.out.cell (k := 0) (by omega); have r1 := hRB.out.cell (k := 1) (by omega); have r2 := hRB.out.cell (k := 2) (by omega); have r3 := hRB.out.cell (k := 3) (by omega); have rz := hRB.out.frozen
    have s0 := hRR.out.cell (k := 0) (by omega); have s1 := hRR.out.cell (k := 1) (by omega); have s2 := hRR.out.cell (k := 2) (by omega); have s3 := hRR.out.cell (k := 3) (by omega); have sz := hRR.out.frozen
    simp only [rqV] at r0 r1 r2 r3 s0 s1 s2 s3
    go_wp2_with (first
              | (go_at_call 24; refine (HM.out _).mono ?_; rintro e w' ⟨rfl, rfl⟩)
              | (go_at_call 11; refine (HS.out _ (by first | exact hGB.out | exact World.grownBy.trans hGB.out (grownBy_drewN _ _ none) | exact World.grownBy.trans hGB.out (grownBy_drew _ none))).mono ?_; rintro e w5 ⟨ps, cs, rfl, hsa, hba, g5⟩; have HSA := hid hsa; have HBA := hid (show ∀ a : Addr, ps = some a → A2.heap.size ≤ a.block from hba); have HG5 := hid (hGB.out.trans g5); have hRR5 := hid (hRR.out.grown g5 (by simp)); have hRB5 := hid (hRB.out.grown g5 (by simp)); have r0 := hRB5.out.cell (k := 0) (by omega); have r1 := hRB5.out.cell (k := 1) (by omega); have r2 := hRB5.out.cell (k := 2) (by omega); have r3 := hRB5.out.cell (k := 3) (by omega); have rz := hRB5.out.frozen; have s0 := hRR5.out.cell (k := 0) (by omega); have s1 := hRR5.out.cell (k := 1) (by omega); have s2 := hRR5.out.cell (k := 2) (by omega); have s3 := hRR5.out.cell (k := 3) (by omega); have sz := hRR5.out.frozen; simp only [rqV] at r0 r1 r2 r3 s0 s1 s2 s3; clear hsa hba g5))
    have RF := set4 (hRR5.out) (.int .i64 0) (.int .i64 0) (.int .i64 0) (.slice none 0 0)
    have GF := (HG0.out.trans HG5.out).andThen (set4_grown w5 w.heap.size (.int .i64 0) (.int .i64 0) (.int .i64 0) (.slice none 0 0)) (fun j e => .inl (by cases e; exact Nat.le_refl _))
    skip
    generalize (((w5.setCell ⟨w.heap.size, 0, none⟩ (.int .i64 0)).setCell ⟨w.heap.size, 1, none⟩ (.int .i64 0)).setCell ⟨w.heap.size, 2, none⟩ (.int .i64 0)).setCell ⟨w.heap.size, 3, none⟩ (.slice none 0 0) = A9 at RF GF ⊢
    have f0 := RF.cell (k := 0) (by omega); have f1 := RF.cell (k := 1) (by omega); have f2 := RF.cell (k := 2) (by omega); have f3 := RF.cell (k := 3) (by omega)
    simp only [rqV] at f0 f1 f2 f3
    refine bodyPost_ret (v := .tuple #[.agg #[.int .i64 0, .int .i64 0, .int .i64 0, .slice none 0 0], .int .i64 0, .int .i64 0, .int .i64 4]) (by simp [results, Try.results10, go_sem, f0, f1, f2, f3]) rfl ?_
    exact ⟨rfl, GF⟩

set_option maxRecDepth 100000 in
theorem bUnp_a3 (l : List UInt8) (b o c : Nat) (w : World) (hl : l.length = 16) (hc : 16 ≤ c) (hc63 : c ≤ 9223372036854775807) (h : BA w (some ⟨b, o, none⟩) l) (h3 : (l.getD 0 0).toNat ≠ 3) (hmay : mayV (l.getD 0 0).toNat (l.getD 1 0).toNat (-1) = true) (her : (segsR ((l.drop 8).take (2 * (l.getD 1 0).toNat))).2 = 0) :
    Calls Try.prog 10 #[.slice (some ⟨b, o, none⟩) 16 c] w fun e w' => ∃ p cc, e = .returned (.tuple #[.agg #[.int .i64 (l.getD 0 0).toNat, .int .i64 (upN (l.getD 2 0).toNat (l.getD 3 0).toNat 0 0 2 : Nat), .int .i64 (upN (l.getD 4 0).toNat (l.getD 5 0).toNat (l.getD 6 0).toNat (l.getD 7 0).toNat 4 : Nat), .slice p (segsR ((l.drop 8).take (2 * (l.getD 1 0).toNat))).1.length cc], .int .i64 (-1), .int .i64 (l.getD 1 0).toNat, .int .i64 0]) ∧ SA w' p (segsR ((l.drop 8).take (2 * (l.getD 1 0).toNat))).1 ∧ w.grownBy w' none := by
  obtain ⟨W, hW⟩ : ∃ W, w.alloc (.cells #[.int .i64 0, .int .i64 0, .int .i64 0, .slice none 0 0] 24) = W := ⟨_, rfl⟩
  have HG0 := hid (show w.grownBy W none from hW ▸ World.grownBy_alloc _ _ _)
  have HR0 := hid (rowQ hW)
  have HB := hid (h.grown HG0.out)
  have c0 := HB.out.at (k := 0) (by omega)
  have c1 := HB.out.at (k := 1) (by omega)
  rw [Nat.add_zero] at c0
  have y0 := UInt8.toNat_lt (l.getD 0 0)
  have y1 := UInt8.toNat_lt (l.getD 1 0)
  have HID := hid fun w' (hg : W.grownBy w' none) => bReqID b o c l w' hl hc (HB.out.grown hg)
  have HNM := hid fun w' (hg : W.grownBy w' none) => bNumber b (o + 4) (c - 4) 4 (l.getD 4 0).toNat (l.getD 5 0).toNat (l.getD 6 0).toNat (l.getD 7 0).toNat w' (by omega) ⟨UInt8.toNat_lt _, UInt8.toNat_lt _, UInt8.toNat_lt _, UInt8.toNat_lt _⟩ (fun k hk => by
    have hx := (HB.out.grown hg).at (k := 4 + k) (by omega)
    rw [← Nat.add_assoc] at hx
    match k, hk with
    | 0, _ => exact hx
    | 1, _ => exact hx
    | 2, _ => exact hx
    | 3, _ => exact hx)
  have HM := hid fun w' => hmay ▸ bMay (l.getD 0 0).toNat (l.getD 1 0).toNat (-1) w'
  have hx4 : (l.getD 1 0).toNat ≤ 4 := may_le hmay
  have hx4' : ((l.getD 1 0).toNat : Int) ≤ 4 := by omega
  have hs2 : IntKind.i64.wrap (2 * ((l.getD 1 0).toNat : Int)) = ((2 * (l.getD 1 0).toNat : Nat) : Int) := by rw [IntKind.wrap_i64]; omega
  have hs3 : wrap64 (2 * ((l.getD 1 0).toNat : Int)) = ((2 * (l.getD 1 0).toNat : Nat) : Int) := by unfold wrap64; omega
  have hs8 : 2 * (l.getD 1 0).toNat ≤ 8 := by omega
  have hs8' : ((2 * (l.getD 1 0).toNat : Nat) : Int) ≤ 8 := by omega
  have hsc : 2 * (l.getD 1 0).toNat ≤ c - 8 := by omega
  have hsc' : ((2 * (l.getD 1 0).toNat : Nat) : Int) ≤ ((c - 8 : Nat) : Int) := by omega
  have HS := hid fun w' (hg : W.grownBy w' none) => segs_at b o c l w' (l.getD 1 0).toNat hl hc hc63 hs8 (HB.out.grown hg)
  unfold SegsRead2 at HS
  have HNE := hid (show ¬ (W.heap.size = w.heap.size) by rw [← hW]; simp)
  obtain ⟨⟨L, er⟩, hL⟩ : ∃ q, segsR ((l.drop 8).take (2 * (l.getD 1 0).toNat)) = q := ⟨_, rfl⟩
  rw [hL] at HS her ⊢
  simp only at HS her ⊢
  obtain ⟨m, hm⟩ : ∃ m, L.length = m := ⟨_, rfl⟩
  rw [hm] at HS ⊢
  clear hL hm
  subst her
  generalize upN (l.getD 2 0).toNat (l.getD 3 0).toNat 0 0 2 = ID at *
  generalize upN (l.getD 4 0).toNat (l.getD 5 0).toNat (l.getD 6 0).toNat (l.getD 7 0).toNat 4 = SC at *
  generalize (l.getD 0 0).toNat = x0 at *
  generalize (l.getD 1 0).toNat = x1 at *
  have e8 : 8 ≤ c := by omega
  have e8' : (8 : Int) ≤ c := by omega
  have e4 : 4 ≤ c := by omega
  have e4' : (4 : Int) ≤ c := by omega
  have hc4 : ¬ c = 4 := by omega
  have hc8 : ¬ c = 8 := by omega
  have wx0 : IntKind.i64.wrap (x0 : Int) = x0 := by rw [IntKind.wrap_i64]; omega
  have wx1 : IntKind.i64.wrap (x1 : Int) = x1 := by rw [IntKind.wrap_i64]; omega
  have h30 : ((x0 : Int) == 3) = false := by simp; omega
  clear h
  go_enter Try.func10, Try.ntmps10
  go_wp2
  go_quiet (fail)
  go_wp2
  refine wp_region_held_drew (S := fun w' => w'.cell? ⟨b, o, none⟩ = some (.int .u8 x0) ∧ W.grownBy w' none) (by kernel_rfl) ⟨c0, (grownBy_drewN W _ none).trans (grownBy_drew _ none)⟩ (fun hH => ?_)
  refine wpAnyH_take (i := 0) (v := ?v0) (by simp only [List.getElem?_toArray, List.getElem?_cons_zero, List.getElem?_cons_succ]; rfl) (by kernel_rfl) (by kernel_rfl) (by kernel_rfl) (by intro _ _ _ h; exact h) (Or.inl ⟨by rfl, ?y0⟩) (by assumption) ?r0
  case y0 =>
    intro WW hSw
    obtain ⟨hs0, hs1⟩ := hSw
    clear hs1
    go_simp
    try with_reducible rfl
  try dsimp only [Act.put]
  try simp only [List.setIfInBounds_toArray, List.set_cons_zero, List.set_cons_succ]
  refine wpAnyH_take (i := 1) (v := ?v1) (by simp only [List.getElem?_toArray, List.getElem?_cons_zero, List.getElem?_cons_succ]; rfl) (by kernel_rfl) (by kernel_rfl) (by kernel_rfl) (by intro _ _ _ h; exact h) (Or.inl ⟨by rfl, ?y1⟩) (by assumption) ?r1
  case y1 =>
    intro WW hSw
    obtain ⟨hs0, hs1⟩ := hSw
    clear hs1
    go_simp
    try with_reducible rfl
  try dsimp only [Act.put]
  try simp only [List.setIfInBounds_toArray, List.set_cons_zero, List.set_cons_succ]
  refine wpAnyH_take (i := 2) (v := ?v2) (by simp only [List.getElem?_toArray, List.getElem?_cons_zero, List.getElem?_cons_succ]; rfl) (by kernel_rfl) (by kernel_rfl) (by kernel_rfl) (by intro _ _ _ h; exact h) (Or.inl ⟨by rfl, ?y2⟩) (by assumption) ?r2
  case y2 =>
    intro WW hSw
    obtain ⟨hs0, hs1⟩ := hSw
    clear hs1
    go_simp
    try with_reducible rfl
  try dsimp only [Act.put]
  try simp only [List.setIfInBounds_toArray, List.set_cons_zero, List.set_cons_succ]
  refine wpAnyH_take (i := 3) (v := ?v3) (by simp only [List.getElem?_toArray, List.getElem?_cons_zero, List.getElem?_cons_succ]; rfl) (by kernel_rfl) (by kernel_rfl) (by kernel_rfl) (by intro _ _ _ h; exact h) (Or.inl ⟨by rfl, ?y3⟩) (by assumption) ?r3
  case y3 =>
    intro WW hSw
    obtain ⟨hs0, hs1⟩ := hSw
    clear hs1
    go_simp
    try with_reducible rfl
  try dsimp only [Act.put]
  try simp only [List.setIfInBounds_toArray, List.set_cons_zero, List.set_cons_succ]
  refine wpAnyH_take (i := 4) (v := ?v4) (by simp only [List.getElem?_toArray, List.getElem?_cons_zero, List.getElem?_cons_succ]; rfl) (by kernel_rfl) (by kernel_rfl) (by kernel_rfl) (by intro _ _ _ h; exact h) (Or.inl ⟨by rfl, ?y4⟩) (by assumption) ?r4
  case y4 =>
    intro WW hSw
    obtain ⟨hs0, hs1⟩ := hSw
    clear hs1
    go_simp
    try with_reducible rfl
  try dsimp only [Act.put]
  try simp only [List.setIfInBounds_toArray, List.set_cons_zero, List.set_cons_succ]
  refine wpAnyH_take (i := 6) (v := ?v6) (by simp only [List.getElem?_toArray, List.getElem?_cons_zero, List.getElem?_cons_succ]; rfl) (by kernel_rfl) (by kernel_rfl) (by kernel_rfl) (by intro _ _ _ h; exact h) (Or.inl ⟨by rfl, ?y6⟩) (by assumption) ?r6
  case y6 =>
    intro WW hSw
    obtain ⟨hs0, hs1⟩ := hSw
    clear hs1
    go_simp
    try with_reducible rfl
  try dsimp only [Act.put]
  try simp only [List.setIfInBounds_toArray, List.set_cons_zero, List.set_cons_succ]
  refine wpAnyH_take (i := 7) (v := ?v7) (by simp only [List.getElem?_toArray, List.getElem?_cons_zero, List.getElem?_cons_succ]; rfl) (by kernel_rfl) (by kernel_rfl) (by kernel_rfl) (by intro _ _ _ h; exact h) (Or.inl ⟨by rfl, ?y7⟩) (by assumption) ?r7
  case y7 =>
    intro WW hSw
    obtain ⟨hs0, hs1⟩ := hSw
    clear hs1
    go_simp
    try with_reducible rfl
  try dsimp only [Act.put]
  try simp only [List.setIfInBounds_toArray, List.set_cons_zero, List.set_cons_succ]
  refine wpAnyH_ready (rs := [5, 10]) (by kernel_rfl) (by simp) ?_
  refine AllReadyH.cons (by simp only [List.getElem?_toArray, List.getElem?_cons_zero, List.getElem?_cons_succ]; rfl) (fun K0 hK0 => ?_) ?_
  · go_simp
    go_at_call 31
    refine (HID.out _ (by repeat (first | exact grownBy_drewN W _ none | refine World.grownBy.trans ?_ (grownBy_drewN _ _ none) | refine World.grownBy.trans ?_ (World.grownBy_alloc _ _ none) | exact World.grownBy.refl W none))).mono ?_
    rintro e w' ⟨rfl, q1, rfl⟩
    try dsimp only
    refine hK0.out _ _ ⟨World.grownBy.cell (w := W) (by repeat (first | exact grownBy_drewN W _ none | refine World.grownBy.trans ?_ (grownBy_drewN _ _ none) | refine World.grownBy.trans ?_ (World.grownBy_alloc _ _ none) | exact World.grownBy.refl W none)) c0 (by simp), (by repeat (first | exact grownBy_drewN W _ none | refine World.grownBy.trans ?_ (grownBy_drewN _ _ none) | refine World.grownBy.trans ?_ (World.grownBy_alloc _ _ none) | exact World.grownBy.refl W none))⟩ (fun hH => ?_)
    clear hK0 K0
    try dsimp only [Act.put]
    try simp only [List.setIfInBounds_toArray, List.set_cons_zero, List.set_cons_succ]
    refine wpAnyH_ready (rs := [8, 10]) (by kernel_rfl) (by simp) ?_
    refine AllReadyH.cons (by simp only [List.getElem?_toArray, List.getElem?_cons_zero, List.getElem?_cons_succ]; rfl) (fun K0 hK0 => ?_) ?_
    · go_simp
      go_at_call 32
      refine (HNM.out _ (by repeat (first | exact grownBy_drewN W _ none | refine World.grownBy.trans ?_ (grownBy_drewN _ _ none) | refine World.grownBy.trans ?_ (World.grownBy_alloc _ _ none) | exact World.grownBy.refl W none))).mono ?_
      rintro e w' ⟨rfl, q2, rfl⟩
      try dsimp only
      refine hK0.out _ _ ⟨World.grownBy.cell (w := W) (by repeat (first | exact grownBy_drewN W _ none | refine World.grownBy.trans ?_ (grownBy_drewN _ _ none) | refine World.grownBy.trans ?_ (World.grownBy_alloc _ _ none) | exact World.grownBy.refl W none)) c0 (by simp), (by repeat (first | exact grownBy_drewN W _ none | refine World.grownBy.trans ?_ (grownBy_drewN _ _ none) | refine World.grownBy.trans ?_ (World.grownBy_alloc _ _ none) | exact World.grownBy.refl W none))⟩ (fun hH => ?_)
      clear hK0 K0
      try dsimp only [Act.put]
      try simp only [List.setIfInBounds_toArray, List.set_cons_zero, List.set_cons_succ]
      refine wpAnyH_take (i := 9) (v := ?v9a) (by simp only [List.getElem?_toArray, List.getElem?_cons_zero, List.getElem?_cons_succ]; rfl) (by kernel_rfl) (by kernel_rfl) (by kernel_rfl) (by intro _ _ _ h; exact h) (Or.inl ⟨by rfl, ?y9a⟩) (by assumption) ?r9a
      case y9a =>
        intro WW hSw
        obtain ⟨hs0, hs1⟩ := hSw
        clear hs1
        go_simp
        try with_reducible rfl
      try dsimp only [Act.put]
      try simp only [List.setIfInBounds_toArray, List.set_cons_zero, List.set_cons_succ]
      refine wpAnyH_ready (rs := [10]) (by kernel_rfl) (by simp) ?_
      refine AllReadyH.cons (by simp only [List.getElem?_toArray, List.getElem?_cons_zero, List.getElem?_cons_succ]; rfl) (fun K0 hK0 => ?_) AllReadyH.nil
      go_simp
      refine hK0.out _ _ ⟨World.grownBy.cell (w := W) (by repeat (first | exact grownBy_drewN W _ none | refine World.grownBy.trans ?_ (grownBy_drewN _ _ none) | refine World.grownBy.trans ?_ (World.grownBy_alloc _ _ none) | exact World.grownBy.refl W none)) c0 (by simp), (by repeat (first | exact grownBy_drewN W _ none | refine World.grownBy.trans ?_ (grownBy_drewN _ _ none) | refine World.grownBy.trans ?_ (World.grownBy_alloc _ _ none) | exact World.grownBy.refl W none))⟩ (fun hH => ?_)
      clear hK0 K0
      try dsimp only [Act.put]
      try simp only [List.setIfInBounds_toArray, List.set_cons_zero, List.set_cons_succ]
      have RA : Row ((W.drewN (nq + 1 + q1 + q2)).alloc (.cells #[.int .i64 0, .int .i64 0, .int .i64 0, .slice none 0 0] 24)) W.heap.size 24 4 (rqV (.int .i64 0) (.int .i64 0) (.int .i64 0) (.slice none 0 0)) := rowQ (w := W.drewN (nq + 1 + q1 + q2)) rfl
      have GA : W.grownBy ((W.drewN (nq + 1 + q1 + q2)).alloc (.cells #[.int .i64 0, .int .i64 0, .int .i64 0, .slice none 0 0] 24)) none := (by repeat (first | exact grownBy_drewN W _ none | refine World.grownBy.trans ?_ (grownBy_drewN _ _ none) | refine World.grownBy.trans ?_ (World.grownBy_alloc _ _ none) | exact World.grownBy.refl W none))
      generalize hA : (W.drewN (nq + 1 + q1 + q2)).alloc (.cells #[.int .i64 0, .int .i64 0, .int .i64 0, .slice none 0 0] 24) = A at RA GA hH ⊢
      clear hA
      have z0 := RA.cell (k := 0) (by omega); have z1 := RA.cell (k := 1) (by omega); have z2 := RA.cell (k := 2) (by omega); have z3 := RA.cell (k := 3) (by omega); have zz := RA.frozen
      simp only [rqV] at z0 z1 z2 z3
      have RB := set4 RA (.int .i64 x0) (.int .i64 ID) (.int .i64 SC) (.slice none 0 0)
      have GB := GA.andThen (set4_grown A W.heap.size (.int .i64 x0) (.int .i64 ID) (.int .i64 SC) (.slice none 0 0)) (fun j e => .inl (by cases e; exact Nat.le_refl _))
      have hRB := hid RB; have hGB := hid GB
      refine wpAnyH_ready (rs := [11]) (by kernel_rfl) (by simp) ?_
      refine AllReadyH.cons (by simp only [List.getElem?_toArray, List.getElem?_cons_zero, List.getElem?_cons_succ]; rfl) (fun K0 hK0 => ?_) AllReadyH.nil
      clear RB GB
      go_simp
      refine hK0.out _ _ ⟨hGB.out.cell c0 (by simp), hGB.out⟩ (fun hH => ?_)
      clear hK0 K0
      try dsimp only [Act.put]
      try simp only [List.setIfInBounds_toArray, List.set_cons_zero, List.set_cons_succ]
      refine wpAnyH_done (by kernel_rfl) ?_ _
      generalize (((A.setCell ⟨W.heap.size, 0, none⟩ (.int .i64 x0)).setCell ⟨W.heap.size, 1, none⟩ (.int .i64 ID)).setCell ⟨W.heap.size, 2, none⟩ (.int .i64 SC)).setCell ⟨W.heap.size, 3, none⟩ (.slice none 0 0) = A2 at hRB hGB hH ⊢
      clear z0 z1 z2 z3 zz RA GA hH
      have hRR := hid (HR0.out.grown hGB.out (by simp))
      have r0 := hRB.out.cell (k := 0) (by omega); have r1 := hRB.out.cell (k := 1) (by omega); have r2 := hRB.out.cell (k := 2) (by omega); have r3 := hRB.out.cell (k := 3) (by omega); have rz := hRB.out.frozen
      have s0 := hRR.out.cell (k := 0) (by omega); have s1 := hRR.out.cell (k := 1) (by omega); have s2 := hRR.out.cell (k := 2) (by omega); have s3 := hRR.out.cell (k := 3) (by omega); have sz := hRR.out.frozen
      simp only [rqV] at r0 r1 r2 r3 s0 s1 s2 s3
      have hne1 : ¬ (W.heap.size = w.heap.size) := HNE.out
      have hne2 : ¬ (w.heap.size = W.heap.size) := fun e => HNE.out e.symm
      go_wp2_with (first
              | (go_at_call 24; refine (HM.out _).mono ?_; rintro e w' ⟨rfl, rfl⟩)
              | (go_at_call 11; refine (HS.out _ (by first | exact hGB.out | exact World.grownBy.trans hGB.out (grownBy_drewN _ _ none) | exact World.grownBy.trans hGB.out (grownBy_drew _ none))).mono ?_; rintro e w5 ⟨ps, cs, rfl, hsa, hba, g5⟩; have HSA := hid hsa; have HBA := hid (show ∀ a : Addr, ps = some a → A2.heap.size ≤ a.block from hba); have HG5 := hid (hGB.out.trans g5); have hRR5 := hid (hRR.out.grown g5 (by simp)); have hRB5 := hid (hRB.out.grown g5 (by simp)); have r0 := hRB5.out.cell (k := 0) (by omega); have r1 := hRB5.out.cell (k := 1) (by omega); have r2 := hRB5.out.cell (k := 2) (by omega); have r3 := hRB5.out.cell (k := 3) (by omega); have rz := hRB5.out.frozen; have s0 := hRR5.out.cell (k := 0) (by omega); have s1 := hRR5.out.cell (k := 1) (by omega); have s2 := hRR5.out.cell (k := 2) (by omega); have s3 := hRR5.out.cell (k := 3) (by omega); have sz := hRR5.out.frozen; simp only [rqV] at r0 r1 r2 r3 s0 s1 s2 s3; clear hsa hba g5))
      have HLT := hid (Array.getElem?_eq_some_iff.1 hRB.out.choose_spec.1).1
      have RF := set4 (hRR5.out.setOther ⟨W.heap.size, 3, none⟩ hne2 (.slice ps m cs)) (.int .i64 x0) (.int .i64 ID) (.int .i64 SC) (.slice ps m cs)
      have GF := ((HG0.out.trans HG5.out).andThen (grownBy_setCell w5 W.heap.size 3 none (.slice ps m cs)) (fun j e => .inl (by cases e; exact HG0.out.size))).andThen (set4_grown (w5.setCell ⟨W.heap.size, 3, none⟩ (.slice ps m cs)) w.heap.size (.int .i64 x0) (.int .i64 ID) (.int .i64 SC) (.slice ps m cs)) (fun j e => .inl (by cases e; exact Nat.le_refl _))
      have GS := sa_end (v := .slice ps m cs) (a := .int .i64 x0) (b := .int .i64 ID) (c := .int .i64 SC) (d := .slice ps m cs) HSA.out HBA.out HLT.out HG0.out.size
      generalize ((((w5.setCell ⟨W.heap.size, 3, none⟩ (.slice ps m cs)).setCell ⟨w.heap.size, 0, none⟩ (.int .i64 x0)).setCell ⟨w.heap.size, 1, none⟩ (.int .i64 ID)).setCell ⟨w.heap.size, 2, none⟩ (.int .i64 SC)).setCell ⟨w.heap.size, 3, none⟩ (.slice ps m cs) = A9 at RF GF GS ⊢
      have f0 := RF.cell (k := 0) (by omega); have f1 := RF.cell (k := 1) (by omega); have f2 := RF.cell (k := 2) (by omega); have f3 := RF.cell (k := 3) (by omega)
      simp only [rqV] at f0 f1 f2 f3
      refine bodyPost_ret (v := .tuple #[.agg #[.int .i64 x0, .int .i64 ID, .int .i64 SC, .slice ps m cs], .int .i64 (-1), .int .i64 x1, .int .i64 0]) (by simp [results, Try.results10, go_sem, f0, f1, f2, f3]) rfl ?_
      exact ⟨ps, cs, rfl, GS, GF⟩
    · refine AllReadyH.cons (by simp only [List.getElem?_toArray, List.getElem?_cons_zero, List.getElem?_cons_succ]; rfl) (fun K0 hK0 => ?_) AllReadyH.nil
      go_simp
      refine hK0.out _ _ ⟨World.grownBy.cell (w := W) (by repeat (first | exact grownBy_drewN W _ none | refine World.grownBy.trans ?_ (grownBy_drewN _ _ none) | refine World.grownBy.trans ?_ (World.grownBy_alloc _ _ none) | exact World.grownBy.refl W none)) c0 (by simp), (by repeat (first | exact grownBy_drewN W _ none | refine World.grownBy.trans ?_ (grownBy_drewN _ _ none) | refine World.grownBy.trans ?_ (World.grownBy_alloc _ _ none) | exact World.grownBy.refl W none))⟩ (fun hH => ?_)
      clear hK0 K0
      try dsimp only [Act.put]
      try simp only [List.setIfInBounds_toArray, List.set_cons_zero, List.set_cons_succ]
      refine wpAnyH_ready (rs := [8]) (by kernel_rfl) (by simp) ?_
      refine AllReadyH.cons (by simp only [List.getElem?_toArray, List.getElem?_cons_zero, List.getElem?_cons_succ]; rfl) (fun K0 hK0 => ?_) AllReadyH.nil
      go_simp
      go_at_call 32
      refine (HNM.out _ (by repeat (first | exact grownBy_drewN W _ none | refine World.grownBy.trans ?_ (grownBy_drewN _ _ none) | refine World.grownBy.trans ?_ (World.grownBy_alloc _ _ none) | exact World.grownBy.refl W none))).mono ?_
      rintro e w' ⟨rfl, q2, rfl⟩
      try dsimp only
      refine hK0.out _ _ ⟨World.grownBy.cell (w := W) (by repeat (first | exact grownBy_drewN W _ none | refine World.grownBy.trans ?_ (grownBy_drewN _ _ none) | refine World.grownBy.trans ?_ (World.grownBy_alloc _ _ none) | exact World.grownBy.refl W none)) c0 (by simp), (by repeat (first | exact grownBy_drewN W _ none | refine World.grownBy.trans ?_ (grownBy_drewN _ _ none) | refine World.grownBy.trans ?_ (World.grownBy_alloc _ _ none) | exact World.grownBy.refl W none))⟩ (fun hH => ?_)
      clear hK0 K0
      try dsimp only [Act.put]
      try simp only [List.setIfInBounds_toArray, List.set_cons_zero, List.set_cons_succ]
      refine wpAnyH_take (i := 9) (v := ?v9b) (by simp only [List.getElem?_toArray, List.getElem?_cons_zero, List.getElem?_cons_succ]; rfl) (by kernel_rfl) (by kernel_rfl) (by kernel_rfl) (by intro _ _ _ h; exact h) (Or.inl ⟨by rfl, ?y9b⟩) (by assumption) ?r9b
      case y9b =>
        intro WW hSw
        obtain ⟨hs0, hs1⟩ := hSw
        clear hs1
        go_simp
        try with_reducible rfl
      try dsimp only [Act.put]
      try simp only [List.setIfInBounds_toArray, List.set_cons_zero, List.set_cons_succ]
      have RA : Row (((W.drewN (nq + 1 + q1)).alloc (.cells #[.int .i64 0, .int .i64 0, .int .i64 0, .slice none 0 0] 24)).drewN q2) W.heap.size 24 4 (rqV (.int .i64 0) (.int .i64 0) (.int .i64 0) (.slice none 0 0)) := Row.grown (rowQ (w := W.drewN (nq + 1 + q1)) rfl) (grownBy_drewN _ q2 none) (by simp)
      have GA : W.grownBy (((W.drewN (nq + 1 + q1)).alloc (.cells #[.int .i64 0, .int .i64 0, .int .i64 0, .slice none 0 0] 24)).drewN q2) none := (by repeat (first | exact grownBy_drewN W _ none | refine World.grownBy.trans ?_ (grownBy_drewN _ _ none) | refine World.grownBy.trans ?_ (World.grownBy_alloc _ _ none) | exact World.grownBy.refl W none))
      generalize hA : ((W.drewN (nq + 1 + q1)).alloc (.cells #[.int .i64 0, .int .i64 0, .int .i64 0, .slice none 0 0] 24)).drewN q2 = A at RA GA hH ⊢
      clear hA
      have z0 := RA.cell (k := 0) (by omega); have z1 := RA.cell (k := 1) (by omega); have z2 := RA.cell (k := 2) (by omega); have z3 := RA.cell (k := 3) (by omega); have zz := RA.frozen
      simp only [rqV] at z0 z1 z2 z3
      have RB := set4 RA (.int .i64 x0) (.int .i64 ID) (.int .i64 SC) (.slice none 0 0)
      have GB := GA.andThen (set4_grown A W.heap.size (.int .i64 x0) (.int .i64 ID) (.int .i64 SC) (.slice none 0 0)) (fun j e => .inl (by cases e; exact Nat.le_refl _))
      have hRB := hid RB; have hGB := hid GB
      refine wpAnyH_ready (rs := [11]) (by kernel_rfl) (by simp) ?_
      refine AllReadyH.cons (by simp only [List.getElem?_toArray, List.getElem?_cons_zero, List.getElem?_cons_succ]; rfl) (fun K0 hK0 => ?_) AllReadyH.nil
      clear RB GB
      go_simp
      refine hK0.out _ _ ⟨hGB.out.cell c0 (by simp), hGB.out⟩ (fun hH => ?_)
      clear hK0 K0
      try dsimp only [Act.put]
      try simp only [List.setIfInBounds_toArray, List.set_cons_zero, List.set_cons_succ]
      refine wpAnyH_done (by kernel_rfl) ?_ _
      generalize (((A.setCell ⟨W.heap.size, 0, none⟩ (.int .i64 x0)).setCell ⟨W.heap.size, 1, none⟩ (.int .i64 ID)).setCell ⟨W.heap.size, 2, none⟩ (.int .i64 SC)).setCell ⟨W.heap.size, 3, none⟩ (.slice none 0 0) = A2 at hRB hGB hH ⊢
      clear z0 z1 z2 z3 zz RA GA hH
      have hRR := hid (HR0.out.grown hGB.out (by simp))
      have r0 := hRB.out.cell (k := 0) (by omega); have r1 := hRB.out.cell (k := 1) (by omega); have r2 := hRB.out.cell (k := 2) (by omega); have r3 := hRB.out.cell (k := 3) (by omega); have rz := hRB.out.frozen
      have s0 := hRR.out.cell (k := 0) (by omega); have s1 := hRR.out.cell (k := 1) (by omega); have s2 := hRR.out.cell (k := 2) (by omega); have s3 := hRR.out.cell (k := 3) (by omega); have sz := hRR.out.frozen
      simp only [rqV] at r0 r1 r2 r3 s0 s1 s2 s3
      have hne1 : ¬ (W.heap.size = w.heap.size) := HNE.out
      have hne2 : ¬ (w.heap.size = W.heap.size) := fun e => HNE.out e.symm
      go_wp2_with (first
              | (go_at_call 24; refine (HM.out _).mono ?_; rintro e w' ⟨rfl, rfl⟩)
              | (go_at_call 11; refine (HS.out _ (by first | exact hGB.out | exact World.grownBy.trans hGB.out (grownBy_drewN _ _ none) | exact World.grownBy.trans hGB.out (grownBy_drew _ none))).mono ?_; rintro e w5 ⟨ps, cs, rfl, hsa, hba, g5⟩; have HSA := hid hsa; have HBA := hid (show ∀ a : Addr, ps = some a → A2.heap.size ≤ a.block from hba); have HG5 := hid (hGB.out.trans g5); have hRR5 := hid (hRR.out.grown g5 (by simp)); have hRB5 := hid (hRB.out.grown g5 (by simp)); have r0 := hRB5.out.cell (k := 0) (by omega); have r1 := hRB5.out.cell (k := 1) (by omega); have r2 := hRB5.out.cell (k := 2) (by omega); have r3 := hRB5.out.cell (k := 3) (by omega); have rz := hRB5.out.frozen; have s0 := hRR5.out.cell (k := 0) (by omega); have s1 := hRR5.out.cell (k := 1) (by omega); have s2 := hRR5.out.cell (k := 2) (by omega); have s3 := hRR5.out.cell (k := 3) (by omega); have sz := hRR5.out.frozen; simp only [rqV] at r0 r1 r2 r3 s0 s1 s2 s3; clear hsa hba g5))
      have HLT := hid (Array.getElem?_eq_some_iff.1 hRB.out.choose_spec.1).1
      have RF := set4 (hRR5.out.setOther ⟨W.heap.size, 3, none⟩ hne2 (.slice ps m cs)) (.int .i64 x0) (.int .i64 ID) (.int .i64 SC) (.slice ps m cs)
      have GF := ((HG0.out.trans HG5.out).andThen (grownBy_setCell w5 W.heap.size 3 none (.slice ps m cs)) (fun j e => .inl (by cases e; exact HG0.out.size))).andThen (set4_grown (w5.setCell ⟨W.heap.size, 3, none⟩ (.slice ps m cs)) w.heap.size (.int .i64 x0) (.int .i64 ID) (.int .i64 SC) (.slice ps m cs)) (fun j e => .inl (by cases e; exact Nat.le_refl _))
      have GS := sa_end (v := .slice ps m cs) (a := .int .i64 x0) (b := .int .i64 ID) (c := .int .i64 SC) (d := .slice ps m cs) HSA.out HBA.out HLT.out HG0.out.size
      generalize ((((w5.setCell ⟨W.heap.size, 3, none⟩ (.slice ps m cs)).setCell ⟨w.heap.size, 0, none⟩ (.int .i64 x0)).setCell ⟨w.heap.size, 1, none⟩ (.int .i64 ID)).setCell ⟨w.heap.size, 2, none⟩ (.int .i64 SC)).setCell ⟨w.heap.size, 3, none⟩ (.slice ps m cs) = A9 at RF GF GS ⊢
      have f0 := RF.cell (k := 0) (by omega); have f1 := RF.cell (k := 1) (by omega); have f2 := RF.cell (k := 2) (by omega); have f3 := RF.cell (k := 3) (by omega)
      simp only [rqV] at f0 f1 f2 f3
      refine bodyPost_ret (v := .tuple #[.agg #[.int .i64 x0, .int .i64 ID, .int .i64 SC, .slice ps m cs], .int .i64 (-1), .int .i64 x1, .int .i64 0]) (by simp [results, Try.results10, go_sem, f0, f1, f2, f3]) rfl ?_
      exact ⟨ps, cs, rfl, GS, GF⟩
  · refine AllReadyH.cons (by simp only [List.getElem?_toArray, List.getElem?_cons_zero, List.getElem?_cons_succ]; rfl) (fun K0 hK0 => ?_) AllReadyH.nil
    go_simp
    refine hK0.out _ _ ⟨World.grownBy.cell (w := W) (by repeat (first | exact grownBy_drewN W _ none | refine World.grownBy.trans ?_ (grownBy_drewN _ _ none) | refine World.grownBy.trans ?_ (World.grownBy_alloc _ _ none) | exact World.grownBy.refl W none)) c0 (by simp), (by repeat (first | exact grownBy_drewN W _ none | refine World.grownBy.trans ?_ (grownBy_drewN _ _ none) | refine World.grownBy.trans ?_ (World.grownBy_alloc _ _ none) | exact World.grownBy.refl W none))⟩ (fun hH => ?_)
    clear hK0 K0
    try dsimp only [Act.put]
    try simp only [List.setIfInBounds_toArray, List.set_cons_zero, List.set_cons_succ]
    refine wpAnyH_ready (rs := [5]) (by kernel_rfl) (by simp) ?_
    refine AllReadyH.cons (by simp only [List.getElem?_toArray, List.getElem?_cons_zero, List.getElem?_cons_succ]; rfl) (fun K0 hK0 => ?_) AllReadyH.nil
    go_simp
    go_at_call 31
    refine (HID.out _ (by repeat (first | exact grownBy_drewN W _ none | refine World.grownBy.trans ?_ (grownBy_drewN _ _ none) | refine World.grownBy.trans ?_ (World.grownBy_alloc _ _ none) | exact World.grownBy.refl W none))).mono ?_
    rintro e w' ⟨rfl, q1, rfl⟩
    try dsimp only
    refine hK0.out _ _ ⟨World.grownBy.cell (w := W) (by repeat (first | exact grownBy_drewN W _ none | refine World.grownBy.trans ?_ (grownBy_drewN _ _ none) | refine World.grownBy.trans ?_ (World.grownBy_alloc _ _ none) | exact World.grownBy.refl W none)) c0 (by simp), (by repeat (first | exact grownBy_drewN W _ none | refine World.grownBy.trans ?_ (grownBy_drewN _ _ none) | refine World.grownBy.trans ?_ (World.grownBy_alloc _ _ none) | exact World.grownBy.refl W none))⟩ (fun hH => ?_)
    clear hK0 K0
    try dsimp only [Act.put]
    try simp only [List.setIfInBounds_toArray, List.set_cons_zero, List.set_cons_succ]
    refine wpAnyH_ready (rs := [8]) (by kernel_rfl) (by simp) ?_
    refine AllReadyH.cons (by simp only [List.getElem?_toArray, List.getElem?_cons_zero, List.getElem?_cons_succ]; rfl) (fun K0 hK0 => ?_) AllReadyH.nil
    go_simp
    go_at_call 32
    refine (HNM.out _ (by repeat (first | exact grownBy_drewN W _ none | refine World.grownBy.trans ?_ (grownBy_drewN _ _ none) | refine World.grownBy.trans ?_ (World.grownBy_alloc _ _ none) | exact World.grownBy.refl W none))).mono ?_
    rintro e w' ⟨rfl, q2, rfl⟩
    try dsimp only
    refine hK0.out _ _ ⟨World.grownBy.cell (w := W) (by repeat (first | exact grownBy_drewN W _ none | refine World.grownBy.trans ?_ (grownBy_drewN _ _ none) | refine World.grownBy.trans ?_ (World.grownBy_alloc _ _ none) | exact World.grownBy.refl W none)) c0 (by simp), (by repeat (first | exact grownBy_drewN W _ none | refine World.grownBy.trans ?_ (grownBy_drewN _ _ none) | refine World.grownBy.trans ?_ (World.grownBy_alloc _ _ none) | exact World.grownBy.refl W none))⟩ (fun hH => ?_)
    clear hK0 K0
    try dsimp only [Act.put]
    try simp only [List.setIfInBounds_toArray, List.set_cons_zero, List.set_cons_succ]
    refine wpAnyH_take (i := 9) (v := ?v9c) (by simp only [List.getElem?_toArray, List.getElem?_cons_zero, List.getElem?_cons_succ]; rfl) (by kernel_rfl) (by kernel_rfl) (by kernel_rfl) (by intro _ _ _ h; exact h) (Or.inl ⟨by rfl, ?y9c⟩) (by assumption) ?r9c
    case y9c =>
      intro WW hSw
      obtain ⟨hs0, hs1⟩ := hSw
      clear hs1
      go_simp
      try with_reducible rfl
    try dsimp only [Act.put]
    try simp only [List.setIfInBounds_toArray, List.set_cons_zero, List.set_cons_succ]
    have RA : Row ((((W.drewN (nq + 1)).alloc (.cells #[.int .i64 0, .int .i64 0, .int .i64 0, .slice none 0 0] 24)).drewN q1).drewN q2) W.heap.size 24 4 (rqV (.int .i64 0) (.int .i64 0) (.int .i64 0) (.slice none 0 0)) := Row.grown (Row.grown (rowQ (w := W.drewN (nq + 1)) rfl) (grownBy_drewN _ q1 none) (by simp)) (grownBy_drewN _ q2 none) (by simp)
    have GA : W.grownBy ((((W.drewN (nq + 1)).alloc (.cells #[.int .i64 0, .int .i64 0, .int .i64 0, .slice none 0 0] 24)).drewN q1).drewN q2) none := (by repeat (first | exact grownBy_drewN W _ none | refine World.grownBy.trans ?_ (grownBy_drewN _ _ none) | refine World.grownBy.trans ?_ (World.grownBy_alloc _ _ none) | exact World.grownBy.refl W none))
    generalize hA : (((W.drewN (nq + 1)).alloc (.cells #[.int .i64 0, .int .i64 0, .int .i64 0, .slice none 0 0] 24)).drewN q1).drewN q2 = A at RA GA hH ⊢
    clear hA
    have z0 := RA.cell (k := 0) (by omega); have z1 := RA.cell (k := 1) (by omega); have z2 := RA.cell (k := 2) (by omega); have z3 := RA.cell (k := 3) (by omega); have zz := RA.frozen
    simp only [rqV] at z0 z1 z2 z3
    have RB := set4 RA (.int .i64 x0) (.int .i64 ID) (.int .i64 SC) (.slice none 0 0)
    have GB := GA.andThen (set4_grown A W.heap.size (.int .i64 x0) (.int .i64 ID) (.int .i64 SC) (.slice none 0 0)) (fun j e => .inl (by cases e; exact Nat.le_refl _))
    have hRB := hid RB; have hGB := hid GB
    refine wpAnyH_ready (rs := [11]) (by kernel_rfl) (by simp) ?_
    refine AllReadyH.cons (by simp only [List.getElem?_toArray, List.getElem?_cons_zero, List.getElem?_cons_succ]; rfl) (fun K0 hK0 => ?_) AllReadyH.nil
    clear RB GB
    go_simp
    refine hK0.out _ _ ⟨hGB.out.cell c0 (by simp), hGB.out⟩ (fun hH => ?_)
    clear hK0 K0
    try dsimp only [Act.put]
    try simp only [List.setIfInBounds_toArray, List.set_cons_zero, List.set_cons_succ]
    refine wpAnyH_done (by kernel_rfl) ?_ _
    generalize (((A.setCell ⟨W.heap.size, 0, none⟩ (.int .i64 x0)).setCell ⟨W.heap.size, 1, none⟩ (.int .i64 ID)).setCell ⟨W.heap.size, 2, none⟩ (.int .i64 SC)).setCell ⟨W.heap.size, 3, none⟩ (.slice none 0 0) = A2 at hRB hGB hH ⊢
    clear z0 z1 z2 z3 zz RA GA hH
    have hRR := hid (HR0.out.grown hGB.out (by simp))
    have r0 := hRB.out.cell (k := 0) (by omega); have r1 := hRB.out.cell (k := 1) (by omega); have r2 := hRB.out.cell (k := 2) (by omega); have r3 := hRB.out.cell (k := 3) (by omega); have rz := hRB.out.frozen
    have s0 := hRR.out.cell (k := 0) (by omega); have s1 := hRR.out.cell (k := 1) (by omega); have s2 := hRR.out.cell (k := 2) (by omega); have s3 := hRR.out.cell (k := 3) (by omega); have sz := hRR.out.frozen
    simp only [rqV] at r0 r1 r2 r3 s0 s1 s2 s3
    have hne1 : ¬ (W.heap.size = w.heap.size) := HNE.out
    have hne2 : ¬ (w.heap.size = W.heap.size) := fun e => HNE.out e.symm
    go_wp2_with (first
              | (go_at_call 24; refine (HM.out _).mono ?_; rintro e w' ⟨rfl, rfl⟩)
              | (go_at_call 11; refine (HS.out _ (by first | exact hGB.out | exact World.grownBy.trans hGB.out (grownBy_drewN _ _ none) | exact World.grownBy.trans hGB.out (grownBy_drew _ none))).mono ?_; rintro e w5 ⟨ps, cs, rfl, hsa, hba, g5⟩; have HSA := hid hsa; have HBA := hid (show ∀ a : Addr, ps = some a → A2.heap.size ≤ a.block from hba); have HG5 := hid (hGB.out.trans g5); have hRR5 := hid (hRR.out.grown g5 (by simp)); have hRB5 := hid (hRB.out.grown g5 (by simp)); have r0 := hRB5.out.cell (k := 0) (by omega); have r1 := hRB5.out.cell (k := 1) (by omega); have r2 := hRB5.out.cell (k := 2) (by omega); have r3 := hRB5.out.cell (k := 3) (by omega); have rz := hRB5.out.frozen; have s0 := hRR5.out.cell (k := 0) (by omega); have s1 := hRR5.out.cell (k := 1) (by omega); have s2 := hRR5.out.cell (k := 2) (by omega); have s3 := hRR5.out.cell (k := 3) (by omega); have sz := hRR5.out.frozen; simp only [rqV] at r0 r1 r2 r3 s0 s1 s2 s3; clear hsa hba g5))
    have HLT := hid (Array.getElem?_eq_some_iff.1 hRB.out.choose_spec.1).1
    have RF := set4 (hRR5.out.setOther ⟨W.heap.size, 3, none⟩ hne2 (.slice ps m cs)) (.int .i64 x0) (.int .i64 ID) (.int .i64 SC) (.slice ps m cs)
    have GF := ((HG0.out.trans HG5.out).andThen (grownBy_setCell w5 W.heap.size 3 none (.slice ps m cs)) (fun j e => .inl (by cases e; exact HG0.out.size))).andThen (set4_grown (w5.setCell ⟨W.heap.size, 3, none⟩ (.slice ps m cs)) w.heap.size (.int .i64 x0) (.int .i64 ID) (.int .i64 SC) (.slice ps m cs)) (fun j e => .inl (by cases e; exact Nat.le_refl _))
    have GS := sa_end (v := .slice ps m cs) (a := .int .i64 x0) (b := .int .i64 ID) (c := .int .i64 SC) (d := .slice ps m cs) HSA.out HBA.out HLT.out HG0.out.size
    generalize ((((w5.setCell ⟨W.heap.size, 3, none⟩ (.slice ps m cs)).setCell ⟨w.heap.size, 0, none⟩ (.int .i64 x0)).setCell ⟨w.heap.size, 1, none⟩ (.int .i64 ID)).setCell ⟨w.heap.size, 2, none⟩ (.int .i64 SC)).setCell ⟨w.heap.size, 3, none⟩ (.slice ps m cs) = A9 at RF GF GS ⊢
    have f0 := RF.cell (k := 0) (by omega); have f1 := RF.cell (k := 1) (by omega); have f2 := RF.cell (k := 2) (by omega); have f3 := RF.cell (k := 3) (by omega)
    simp only [rqV] at f0 f1 f2 f3
    refine bodyPost_ret (v := .tuple #[.agg #[.int .i64 x0, .int .i64 ID, .int .i64 SC, .slice ps m cs], .int .i64 (-1), .int .i64 x1, .int .i64 0]) (by simp [results, Try.results10, go_sem, f0, f1, f2, f3]) rfl ?_
    exact ⟨ps, cs, rfl, GS, GF⟩

end Go.Proofs.Ytoeohbiofmcdeaa.Bk
