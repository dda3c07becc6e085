/-
  Package blk: the program's Unpack, of a request whose segments stand in a page.
-/
import Derived.Test.YtoeohbiofmcdeaaBkM
set_option linter.unusedSimpArgs false
set_option linter.unusedVariables false
namespace Go.Proofs.Ytoeohbiofmcdeaa.Bk
open Go.RowKit Gen
set_option maxHeartbeats 4000000
set_option maxRecDepth 100000 in
theorem bUnp_b1 (l : List UInt8) (b o c : Nat) (w : World) (hl : l.length = 16) (hc : 16 ≤ c) (hc63 : c ≤ 9223372036854775807) (h : BA w (some ⟨b, o, none⟩) l) (h3 : (l.getD 0 0).toNat = 3) (hmay : mayV (l.getD 9 0).toNat (l.getD 1 0).toNat ((l.getD 8 0).toNat : Int) = false) :
    Calls Try.prog 10 #[.slice (some ⟨b, o, none⟩) 16 c] w fun e w' => e = .returned (.tuple #[.agg #[.int .i64 0, .int .i64 0, .int .i64 0, .slice none 0 0], .int .i64 0, .int .i64 0, .int .i64 4]) ∧ w.grownBy w' none := by
  obtain ⟨W, hW⟩ : ∃ W, w.alloc (.cells #[.int .i64 0, .int .i64 0, .int .i64 0, .slice none 0 0] 24) = W := ⟨_, rfl⟩
  have HG0 := hid (show w.grownBy W none from hW ▸ World.grownBy_alloc _ _ _)
  have HR0 := hid (rowQ hW)
  have HB := hid (h.grown HG0.out)
  have c0 := HB.out.at (k := 0) (by omega)
  have c1 := HB.out.at (k := 1) (by omega)
  rw [Nat.add_zero] at c0
  have y0 := UInt8.toNat_lt (l.getD 0 0)
  have y1 := UInt8.toNat_lt (l.getD 1 0)
  have HID := hid fun w' (hg : W.grownBy w' none) => bReqID b o c l w' hl hc (HB.out.grown hg)
  have HNM := hid fun w' (hg : W.grownBy w' none) => bNumber b (o + 4) (c - 4) 4 (l.getD 4 0).toNat (l.getD 5 0).toNat (l.getD 6 0).toNat (l.getD 7 0).toNat w' (by omega) ⟨UInt8.toNat_lt _, UInt8.toNat_lt _, UInt8.toNat_lt _, UInt8.toNat_lt _⟩ (fun k hk => by
    have hx := (HB.out.grown hg).at (k := 4 + k) (by omega)
    rw [← Nat.add_assoc] at hx
    match k, hk with
    | 0, _ => exact hx
    | 1, _ => exact hx
    | 2, _ => exact hx
    | 3, _ => exact hx)
  have c8 := HB.out.at (k := 8) (by omega)
  have c9 := HB.out.at (k := 9) (by omega)
  have HC8 := hid c8
  have HC9 := hid c9
  clear c8 c9
  have y8 := UInt8.toNat_lt (l.getD 8 0)
  have y9 := UInt8.toNat_lt (l.getD 9 0)
  have HM := hid fun w' => hmay ▸ bMay (l.getD 9 0).toNat (l.getD 1 0).toNat ((l.getD 8 0).toNat : Int) w'
  generalize upN (l.getD 2 0).toNat (l.getD 3 0).toNat 0 0 2 = ID at *
  generalize upN (l.getD 4 0).toNat (l.getD 5 0).toNat (l.getD 6 0).toNat (l.getD 7 0).toNat 4 = SC at *
  generalize (l.getD 8 0).toNat = x8 at *
  generalize (l.getD 9 0).toNat = x9 at *
  generalize (l.getD 0 0).toNat = x0 at *
  generalize (l.getD 1 0).toNat = x1 at *
  have e8 : 8 ≤ c := by omega
  have e8' : (8 : Int) ≤ c := by omega
  have e4 : 4 ≤ c := by omega
  have e4' : (4 : Int) ≤ c := by omega
  have hc4 : ¬ c = 4 := by omega
  have hc8 : ¬ c = 8 := by omega
  have wx0 : IntKind.i64.wrap (x0 : Int) = x0 := by rw [IntKind.wrap_i64]; omega
  have wx1 : IntKind.i64.wrap (x1 : Int) = x1 := by rw [IntKind.wrap_i64]; omega
  have h30 : ((x0 : Int) == 3) = true := by rw [h3]; rfl
  clear h3
  have wx8 : IntKind.i64.wrap (x8 : Int) = x8 := by rw [IntKind.wrap_i64]; omega
  have wx9 : IntKind.i64.wrap (x9 : Int) = x9 := by rw [IntKind.wrap_i64]; omega
  have h8m : ((x8 : Int) == -1) = false := beq_eq_false_iff_ne.2 (by omega)
  clear h
  go_enter Try.func10, Try.ntmps10
  go_wp2
  go_quiet (fail)
  go_wp2
  refine wp_region_held_drew (S := fun w' => w'.cell? ⟨b, o, none⟩ = some (.int .u8 x0) ∧ W.grownBy w' none) (by kernel_rfl) ⟨c0, (grownBy_drewN W _ none).trans (grownBy_drew _ none)⟩ (fun hH => ?_)
  refine wpAnyH_take (i := 0) (v := ?v0) (by simp only [List.getElem?_toArray, List.getElem?_cons_zero, List.getElem?_cons_succ]; rfl) (by kernel_rfl) (by kernel_rfl) (by kernel_rfl) (by intro _ _ _ h; exact h) (Or.inl ⟨by rfl, ?y0⟩) (by assumption) ?r0
  case y0 =>
    intro WW hSw
    obtain ⟨hs0, hs1⟩ := hSw
    clear hs1
    go_simp
    try with_reducible rfl
  try dsimp only [Act.put]
  try simp only [List.setIfInBounds_toArray, List.set_cons_zero, List.set_cons_succ]
  refine wpAnyH_take (i := 1) (v := ?v1) (by simp only [List.getElem?_toArray, List.getElem?_cons_zero, List.getElem?_cons_succ]; rfl) (by kernel_rfl) (by kernel_rfl) (by kernel_rfl) (by intro _ _ _ h; exact h) (Or.inl ⟨by rfl, ?y1⟩) (by assumption) ?r1
  case y1 =>
    intro WW hSw
    obtain ⟨hs0, hs1⟩ := hSw
    clear hs1
    go_simp
    try with_reducible rfl
  try dsimp only [Act.put]
  try simp only [List.setIfInBounds_toArray, List.set_cons_zero, List.set_cons_succ]
  refine wpAnyH_take (i := 2) (v := ?v2) (by simp only [List.getElem?_toArray, List.getElem?_cons_zero, List.getElem?_cons_succ]; rfl) (by kernel_rfl) (by kernel_rfl) (by kernel_rfl) (by intro _ _ _ h; exact h) (Or.inl ⟨by rfl, ?y2⟩) (by assumption) ?r2
  case y2 =>
    intro WW hSw
    obtain ⟨hs0, hs1⟩ := hSw
    clear hs1
    go_simp
    try with_reducible rfl
  try dsimp only [Act.put]
  try simp only [List.setIfInBounds_toArray, List.set_cons_zero, List.set_cons_succ]
  refine wpAnyH_take (i := 3) (v := ?v3) (by simp only [List.getElem?_toArray, List.getElem?_cons_zero, List.getElem?_cons_succ]; rfl) (by kernel_rfl) (by kernel_rfl) (by kernel_rfl) (by intro _ _ _ h; exact h) (Or.inl ⟨by rfl, ?y3⟩) (by assumption) ?r3
  case y3 =>
    intro WW hSw
    obtain ⟨hs0, hs1⟩ := hSw
    clear hs1
    go_simp
    try with_reducible rfl
  try dsimp only [Act.put]
  try simp only [List.setIfInBounds_toArray, List.set_cons_zero, List.set_cons_succ]
  refine wpAnyH_take (i := 4) (v := ?v4) (by simp only [List.getElem?_toArray, List.getElem?_cons_zero, List.getElem?_cons_succ]; rfl) (by kernel_rfl) (by kernel_rfl) (by kernel_rfl) (by intro _ _ _ h; exact h) (Or.inl ⟨by rfl, ?y4⟩) (by assumption) ?r4
  case y4 =>
    intro WW hSw
    obtain ⟨hs0, hs1⟩ := hSw
    clear hs1
    go_simp
    try with_reducible rfl
  try dsimp only [Act.put]
  try simp only [List.setIfInBounds_toArray, List.set_cons_zero, List.set_cons_succ]
  refine wpAnyH_take (i := 6) (v := ?v6) (by simp only [List.getElem?_toArray, List.getElem?_cons_zero, List.getElem?_cons_succ]; rfl) (by kernel_rfl) (by kernel_rfl) (by kernel_rfl) (by intro _ _ _ h; exact h) (Or.inl ⟨by rfl, ?y6⟩) (by assumption) ?r6
  case y6 =>
    intro WW hSw
    obtain ⟨hs0, hs1⟩ := hSw
    clear hs1
    go_simp
    try with_reducible rfl
  try dsimp only [Act.put]
  try simp only [List.setIfInBounds_toArray, List.set_cons_zero, List.set_cons_succ]
  refine wpAnyH_take (i := 7) (v := ?v7) (by simp only [List.getElem?_toArray, List.getElem?_cons_zero, List.getElem?_cons_succ]; rfl) (by kernel_rfl) (by kernel_rfl) (by kernel_rfl) (by intro _ _ _ h; exact h) (Or.inl ⟨by rfl, ?y7⟩) (by assumption) ?r7
  case y7 =>
    intro WW hSw
    obtain ⟨hs0, hs1⟩ := hSw
    clear hs1
    go_simp
    try with_reducible rfl
  try dsimp only [Act.put]
  try simp only [List.setIfInBounds_toArray, List.set_cons_zero, List.set_cons_succ]
  refine wpAnyH_ready (rs := [5, 10]) (by kernel_rfl) (by simp) ?_
  refine AllReadyH.cons (by simp only [List.getElem?_toArray, List.getElem?_cons_zero, List.getElem?_cons_succ]; rfl) (fun K0 hK0 => ?_) ?_
  · go_simp
    go_at_call 31
    refine (HID.out _ (by repeat (first | exact grownBy_drewN W _ none | refine World.grownBy.trans ?_ (grownBy_drewN _ _ none) | refine World.grownBy.trans ?_ (World.grownBy_alloc _ _ none) | exact World.grownBy.refl W none))).mono ?_
    rintro e w' ⟨rfl, q1, rfl⟩
    try dsimp only
    refine hK0.out _ _ ⟨World.grownBy.cell (w := W) (by repeat (first | exact grownBy_drewN W _ none | refine World.grownBy.trans ?_ (grownBy_drewN _ _ none) | refine World.grownBy.trans ?_ (World.grownBy_alloc _ _ none) | exact World.grownBy.refl W none)) c0 (by simp), (by repeat (first | exact grownBy_drewN W _ none | refine World.grownBy.trans ?_ (grownBy_drewN _ _ none) | refine World.grownBy.trans ?_ (World.grownBy_alloc _ _ none) | exact World.grownBy.refl W none))⟩ (fun hH => ?_)
    clear hK0 K0
    try dsimp only [Act.put]
    try simp only [List.setIfInBounds_toArray, List.set_cons_zero, List.set_cons_succ]
    refine wpAnyH_ready (rs := [8, 10]) (by kernel_rfl) (by simp) ?_
    refine AllReadyH.cons (by simp only [List.getElem?_toArray, List.getElem?_cons_zero, List.getElem?_cons_succ]; rfl) (fun K0 hK0 => ?_) ?_
    · go_simp
      go_at_call 32
      refine (HNM.out _ (by repeat (first | exact grownBy_drewN W _ none | refine World.grownBy.trans ?_ (grownBy_drewN _ _ none) | refine World.grownBy.trans ?_ (World.grownBy_alloc _ _ none) | exact World.grownBy.refl W none))).mono ?_
      rintro e w' ⟨rfl, q2, rfl⟩
      try dsimp only
      refine hK0.out _ _ ⟨World.grownBy.cell (w := W) (by repeat (first | exact grownBy_drewN W _ none | refine World.grownBy.trans ?_ (grownBy_drewN _ _ none) | refine World.grownBy.trans ?_ (World.grownBy_alloc _ _ none) | exact World.grownBy.refl W none)) c0 (by simp), (by repeat (first | exact grownBy_drewN W _ none | refine World.grownBy.trans ?_ (grownBy_drewN _ _ none) | refine World.grownBy.trans ?_ (World.grownBy_alloc _ _ none) | exact World.grownBy.refl W none))⟩ (fun hH => ?_)
      clear hK0 K0
      try dsimp only [Act.put]
      try simp only [List.setIfInBounds_toArray, List.set_cons_zero, List.set_cons_succ]
      refine wpAnyH_take (i := 9) (v := ?v9a) (by simp only [List.getElem?_toArray, List.getElem?_cons_zero, List.getElem?_cons_succ]; rfl) (by kernel_rfl) (by kernel_rfl) (by kernel_rfl) (by intro _ _ _ h; exact h) (Or.inl ⟨by rfl, ?y9a⟩) (by assumption) ?r9a
      case y9a =>
        intro WW hSw
        obtain ⟨hs0, hs1⟩ := hSw
        clear hs1
        go_simp
        try with_reducible rfl
      try dsimp only [Act.put]
      try simp only [List.setIfInBounds_toArray, List.set_cons_zero, List.set_cons_succ]
      refine wpAnyH_ready (rs := [10]) (by kernel_rfl) (by simp) ?_
      refine AllReadyH.cons (by simp only [List.getElem?_toArray, List.getElem?_cons_zero, List.getElem?_cons_succ]; rfl) (fun K0 hK0 => ?_) AllReadyH.nil
      go_simp
      refine hK0.out _ _ ⟨World.grownBy.cell (w := W) (by repeat (first | exact grownBy_drewN W _ none | refine World.grownBy.trans ?_ (grownBy_drewN _ _ none) | refine World.grownBy.trans ?_ (World.grownBy_alloc _ _ none) | exact World.grownBy.refl W none)) c0 (by simp), (by repeat (first | exact grownBy_drewN W _ none | refine World.grownBy.trans ?_ (grownBy_drewN _ _ none) | refine World.grownBy.trans ?_ (World.grownBy_alloc _ _ none) | exact World.grownBy.refl W none))⟩ (fun hH => ?_)
      clear hK0 K0
      try dsimp only [Act.put]
      try simp only [List.setIfInBounds_toArray, List.set_cons_zero, List.set_cons_succ]
      have RA : Row ((W.drewN (nq + 1 + q1 + q2)).alloc (.cells #[.int .i64 0, .int .i64 0, .int .i64 0, .slice none 0 0] 24)) W.heap.size 24 4 (rqV (.int .i64 0) (.int .i64 0) (.int .i64 0) (.slice none 0 0)) := rowQ (w := W.drewN (nq + 1 + q1 + q2)) rfl
      have GA : W.grownBy ((W.drewN (nq + 1 + q1 + q2)).alloc (.cells #[.int .i64 0, .int .i64 0, .int .i64 0, .slice none 0 0] 24)) none := (by repeat (first | exact grownBy_drewN W _ none | refine World.grownBy.trans ?_ (grownBy_drewN _ _ none) | refine World.grownBy.trans ?_ (World.grownBy_alloc _ _ none) | exact World.grownBy.refl W none))
      generalize hA : (W.drewN (nq + 1 + q1 + q2)).alloc (.cells #[.int .i64 0, .int .i64 0, .int .i64 0, .slice none 0 0] 24) = A at RA GA hH ⊢
      clear hA
      have z0 := RA.cell (k := 0) (by omega); have z1 := RA.cell (k := 1) (by omega); have z2 := RA.cell (k := 2) (by omega); have z3 := RA.cell (k := 3) (by omega); have zz := RA.frozen
      simp only [rqV] at z0 z1 z2 z3
      have RB := set4 RA (.int .i64 x0) (.int .i64 ID) (.int .i64 SC) (.slice none 0 0)
      have GB := GA.andThen (set4_grown A W.heap.size (.int .i64 x0) (.int .i64 ID) (.int .i64 SC) (.slice none 0 0)) (fun j e => .inl (by cases e; exact Nat.le_refl _))
      have hRB := hid RB; have hGB := hid GB
      refine wpAnyH_ready (rs := [11]) (by kernel_rfl) (by simp) ?_
      refine AllReadyH.cons (by simp only [List.getElem?_toArray, List.getElem?_cons_zero, List.getElem?_cons_succ]; rfl) (fun K0 hK0 => ?_) AllReadyH.nil
      clear RB GB
      go_simp
      refine hK0.out _ _ ⟨hGB.out.cell c0 (by simp), hGB.out⟩ (fun hH => ?_)
      clear hK0 K0
      try dsimp only [Act.put]
      try simp only [List.setIfInBounds_toArray, List.set_cons_zero, List.set_cons_succ]
      refine wpAnyH_done (by kernel_rfl) ?_ _
      generalize (((A.setCell ⟨W.heap.size, 0, none⟩ (.int .i64 x0)).setCell ⟨W.heap.size, 1, none⟩ (.int .i64 ID)).setCell ⟨W.heap.size, 2, none⟩ (.int .i64 SC)).setCell ⟨W.heap.size, 3, none⟩ (.slice none 0 0) = A2 at hRB hGB hH ⊢
      clear z0 z1 z2 z3 zz RA GA hH
      have hRR := hid (HR0.out.grown hGB.out (by simp))
      have r0 := hRB.out.cell (k := 0) (by omega); have r1 := hRB.out.cell (k := 1) (by omega); have r2 := hRB.out.cell (k := 2) (by omega); have r3 := hRB.out.cell (k := 3) (by omega); have rz := hRB.out.frozen
      have s0 := hRR.out.cell (k := 0) (by omega); have s1 := hRR.out.cell (k := 1) (by omega); have s2 := hRR.out.cell (k := 2) (by omega); have s3 := hRR.out.cell (k := 3) (by omega); have sz := hRR.out.frozen
      simp only [rqV] at r0 r1 r2 r3 s0 s1 s2 s3
      have d8 := hGB.out.cell HC8.out (by simp)
      have d9 := hGB.out.cell HC9.out (by simp)
      go_wp2
      refine wp_region_held_drew (S := fun w' => w'.cell? ⟨b, o + 8, none⟩ = some (.int .u8 x8) ∧ w'.cell? ⟨b, o + 9, none⟩ = some (.int .u8 x9) ∧ W.grownBy w' none) (by kernel_rfl) ⟨d8, d9, hGB.out.trans (grownBy_drew _ none)⟩ (fun hH => ?_)
      refine wpAnyH_take (i := 0) (v := ?v0z1) (by simp only [List.getElem?_toArray, List.getElem?_cons_zero, List.getElem?_cons_succ]; rfl) (by kernel_rfl) (by kernel_rfl) (by kernel_rfl) (by intro _ _ _ h; exact h) (Or.inl ⟨by rfl, ?y0z1⟩) (by assumption) ?r0z1
      case y0z1 =>
        intro WW hSw
        obtain ⟨hs0, hs1, hs2⟩ := hSw
        clear hs2
        go_simp
        try with_reducible rfl
      try dsimp only [Act.put]
      try simp only [List.setIfInBounds_toArray, List.set_cons_zero, List.set_cons_succ]
      refine wpAnyH_take (i := 1) (v := ?v1z1) (by simp only [List.getElem?_toArray, List.getElem?_cons_zero, List.getElem?_cons_succ]; rfl) (by kernel_rfl) (by kernel_rfl) (by kernel_rfl) (by intro _ _ _ h; exact h) (Or.inl ⟨by rfl, ?y1z1⟩) (by assumption) ?r1z1
      case y1z1 =>
        intro WW hSw
        obtain ⟨hs0, hs1, hs2⟩ := hSw
        clear hs2
        go_simp
        try with_reducible rfl
      try dsimp only [Act.put]
      try simp only [List.setIfInBounds_toArray, List.set_cons_zero, List.set_cons_succ]
      refine wpAnyH_take (i := 2) (v := ?v2z1) (by simp only [List.getElem?_toArray, List.getElem?_cons_zero, List.getElem?_cons_succ]; rfl) (by kernel_rfl) (by kernel_rfl) (by kernel_rfl) (by intro _ _ _ h; exact h) (Or.inl ⟨by rfl, ?y2z1⟩) (by assumption) ?r2z1
      case y2z1 =>
        intro WW hSw
        obtain ⟨hs0, hs1, hs2⟩ := hSw
        clear hs2
        go_simp
        try with_reducible rfl
      try dsimp only [Act.put]
      try simp only [List.setIfInBounds_toArray, List.set_cons_zero, List.set_cons_succ]
      refine wpAnyH_take (i := 3) (v := ?v3z1) (by simp only [List.getElem?_toArray, List.getElem?_cons_zero, List.getElem?_cons_succ]; rfl) (by kernel_rfl) (by kernel_rfl) (by kernel_rfl) (by intro _ _ _ h; exact h) (Or.inl ⟨by rfl, ?y3z1⟩) (by assumption) ?r3z1
      case y3z1 =>
        intro WW hSw
        obtain ⟨hs0, hs1, hs2⟩ := hSw
        clear hs2
        go_simp
        try with_reducible rfl
      try dsimp only [Act.put]
      try simp only [List.setIfInBounds_toArray, List.set_cons_zero, List.set_cons_succ]
      refine wpAnyH_take (i := 4) (v := ?v4z1) (by simp only [List.getElem?_toArray, List.getElem?_cons_zero, List.getElem?_cons_succ]; rfl) (by kernel_rfl) (by kernel_rfl) (by kernel_rfl) (by intro _ _ _ h; exact h) (Or.inl ⟨by rfl, ?y4z1⟩) (by assumption) ?r4z1
      case y4z1 =>
        intro WW hSw
        obtain ⟨hs0, hs1, hs2⟩ := hSw
        clear hs2
        go_simp
        try with_reducible rfl
      try dsimp only [Act.put]
      try simp only [List.setIfInBounds_toArray, List.set_cons_zero, List.set_cons_succ]
      refine wpAnyH_take (i := 5) (v := ?v5z1) (by simp only [List.getElem?_toArray, List.getElem?_cons_zero, List.getElem?_cons_succ]; rfl) (by kernel_rfl) (by kernel_rfl) (by kernel_rfl) (by intro _ _ _ h; exact h) (Or.inl ⟨by rfl, ?y5z1⟩) (by assumption) ?r5z1
      case y5z1 =>
        intro WW hSw
        obtain ⟨hs0, hs1, hs2⟩ := hSw
        clear hs2
        go_simp
        try with_reducible rfl
      try dsimp only [Act.put]
      try simp only [List.setIfInBounds_toArray, List.set_cons_zero, List.set_cons_succ]
      refine wpAnyH_take (i := 6) (v := ?v6z1) (by simp only [List.getElem?_toArray, List.getElem?_cons_zero, List.getElem?_cons_succ]; rfl) (by kernel_rfl) (by kernel_rfl) (by kernel_rfl) (by intro _ _ _ h; exact h) (Or.inl ⟨by rfl, ?y6z1⟩) (by assumption) ?r6z1
      case y6z1 =>
        intro WW hSw
        obtain ⟨hs0, hs1, hs2⟩ := hSw
        clear hs2
        go_simp
        try with_reducible rfl
      try dsimp only [Act.put]
      try simp only [List.setIfInBounds_toArray, List.set_cons_zero, List.set_cons_succ]
      refine wpAnyH_take (i := 7) (v := ?v7z1) (by simp only [List.getElem?_toArray, List.getElem?_cons_zero, List.getElem?_cons_succ]; rfl) (by kernel_rfl) (by kernel_rfl) (by kernel_rfl) (by intro _ _ _ h; exact h) (Or.inl ⟨by rfl, ?y7z1⟩) (by assumption) ?r7z1
      case y7z1 =>
        intro WW hSw
        obtain ⟨hs0, hs1, hs2⟩ := hSw
        clear hs2
        go_simp
        try with_reducible rfl
      try dsimp only [Act.put]
      try simp only [List.setIfInBounds_toArray, List.set_cons_zero, List.set_cons_succ]
      refine wpAnyH_take (i := 8) (v := ?v8z1) (by simp only [List.getElem?_toArray, List.getElem?_cons_zero, List.getElem?_cons_succ]; rfl) (by kernel_rfl) (by kernel_rfl) (by kernel_rfl) (by intro _ _ _ h; exact h) (Or.inl ⟨by rfl, ?y8z1⟩) (by assumption) ?r8z1
      case y8z1 =>
        intro WW hSw
        obtain ⟨hs0, hs1, hs2⟩ := hSw
        clear hs2
        go_simp
        try with_reducible rfl
      try dsimp only [Act.put]
      try simp only [List.setIfInBounds_toArray, List.set_cons_zero, List.set_cons_succ]
      refine wpAnyH_take (i := 9) (v := ?v9z1) (by simp only [List.getElem?_toArray, List.getElem?_cons_zero, List.getElem?_cons_succ]; rfl) (by kernel_rfl) (by kernel_rfl) (by kernel_rfl) (by intro _ _ _ h; exact h) (Or.inl ⟨by rfl, ?y9z1⟩) (by assumption) ?r9z1
      case y9z1 =>
        intro WW hSw
        obtain ⟨hs0, hs1, hs2⟩ := hSw
        clear hs2
        go_simp
        try with_reducible rfl
      try dsimp only [Act.put]
      try simp only [List.setIfInBounds_toArray, List.set_cons_zero, List.set_cons_succ]
      refine wpAnyH_ready (rs := [10]) (by kernel_rfl) (by simp) ?_
      refine AllReadyH.cons (by simp only [List.getElem?_toArray, List.getElem?_cons_zero, List.getElem?_cons_succ]; rfl) (fun K0 hK0 => ?_) AllReadyH.nil
      go_simp
      have GT := hid (show W.grownBy (A2.setCell ⟨W.heap.size, 0, none⟩ (.int .i64 x9)).drew none from (hGB.out.andThen (grownBy_setCell _ W.heap.size 0 none _) (fun j e => .inl (by cases e; exact Nat.le_refl _))).trans (grownBy_drew _ none))
      have RT : Hid (Row (A2.setCell ⟨W.heap.size, 0, none⟩ (.int .i64 x9)).drew W.heap.size 24 4 (rqV (.int .i64 x9) (.int .i64 ID) (.int .i64 SC) (.slice none 0 0))) := hid (Row.grown (hRB.out.set (k := 0) (v := .int .i64 x9) (X' := rqV (.int .i64 x9) (.int .i64 ID) (.int .i64 SC) (.slice none 0 0)) rfl (fun j _ hj => by match j, hj with | 0, hj => exact absurd rfl hj | 1, _ => rfl | 2, _ => rfl | (_ + 3), _ => rfl)) (grownBy_drew _ none) (by simp))
      refine hK0.out _ _ ⟨GT.out.cell HC8.out (by simp), GT.out.cell HC9.out (by simp), GT.out⟩ (fun hH => ?_)
      clear hK0 K0
      try dsimp only [Act.put]
      try simp only [List.setIfInBounds_toArray, List.set_cons_zero, List.set_cons_succ]
      refine wpAnyH_done (by kernel_rfl) ?_ _
      generalize (A2.setCell ⟨W.heap.size, 0, none⟩ (.int .i64 x9)).drew = A3 at RT GT hH ⊢
      clear hH r0 r1 r2 r3 s0 s1 s2 s3 rz sz d8 d9
      have hRR3 := hid (HR0.out.grown GT.out (by simp))
      have r0 := RT.out.cell (k := 0) (by omega); have r1 := RT.out.cell (k := 1) (by omega); have r2 := RT.out.cell (k := 2) (by omega); have r3 := RT.out.cell (k := 3) (by omega); have rz := RT.out.frozen
      have s0 := hRR3.out.cell (k := 0) (by omega); have s1 := hRR3.out.cell (k := 1) (by omega); have s2 := hRR3.out.cell (k := 2) (by omega); have s3 := hRR3.out.cell (k := 3) (by omega); have sz := hRR3.out.frozen
      simp only [rqV] at r0 r1 r2 r3 s0 s1 s2 s3
      go_wp2_with (go_at_call 24; refine (HM.out _).mono ?_; rintro e w' ⟨rfl, rfl⟩)
      have RF := set4 (hRR3.out) (.int .i64 0) (.int .i64 0) (.int .i64 0) (.slice none 0 0)
      have GF := (HG0.out.trans GT.out).andThen (set4_grown A3 w.heap.size (.int .i64 0) (.int .i64 0) (.int .i64 0) (.slice none 0 0)) (fun j e => .inl (by cases e; exact Nat.le_refl _))
      skip
      generalize (((A3.setCell ⟨w.heap.size, 0, none⟩ (.int .i64 0)).setCell ⟨w.heap.size, 1, none⟩ (.int .i64 0)).setCell ⟨w.heap.size, 2, none⟩ (.int .i64 0)).setCell ⟨w.heap.size, 3, none⟩ (.slice none 0 0) = A9 at RF GF ⊢
      have f0 := RF.cell (k := 0) (by omega); have f1 := RF.cell (k := 1) (by omega); have f2 := RF.cell (k := 2) (by omega); have f3 := RF.cell (k := 3) (by omega)
      simp only [rqV] at f0 f1 f2 f3
      refine bodyPost_ret (v := .tuple #[.agg #[.int .i64 0, .int .i64 0, .int .i64 0, .slice none 0 0], .int .i64 0, .int .i64 0, .int .i64 4]) (by simp [results, Try.results10, go_sem, f0, f1, f2, f3]) rfl ?_
      exact ⟨rfl, GF⟩
    · refine AllReadyH.cons (by simp only [List.getElem?_toArray, List.getElem?_cons_zero, List.getElem?_cons_succ]; rfl) (fun K0 hK0 => ?_) AllReadyH.nil
      go_simp
      refine hK0.out _ _ ⟨World.grownBy.cell (w := W) (by repeat (first | exact grownBy_drewN W _ none | refine World.grownBy.trans ?_ (grownBy_drewN _ _ none) | refine World.grownBy.trans ?_ (World.grownBy_alloc _ _ none) | exact World.grownBy.refl W none)) c0 (by simp), (by repeat (first | exact grownBy_drewN W _ none | refine World.grownBy.trans ?_ (grownBy_drewN _ _ none) | refine World.grownBy.trans ?_ (World.grownBy_alloc _ _ none) | exact World.grownBy.refl W none))⟩ (fun hH => ?_)
      clear hK0 K0
      try dsimp only [Act.put]
      try simp only [List.setIfInBounds_toArray, List.set_cons_zero, List.set_cons_succ]
      refine wpAnyH_ready (rs := [8]) (by kernel_rfl) (by simp) ?_
      refine AllReadyH.cons (by simp only [List.getElem?_toArray, List.getElem?_cons_zero, List.getElem?_cons_succ]; rfl) (fun K0 hK0 => ?_) AllReadyH.nil
      go_simp
      go_at_call 32
      refine (HNM.out _ (by repeat (first | exact grownBy_drewN W _ none | refine World.grownBy.trans ?_ (grownBy_drewN _ _ none) | refine World.grownBy.trans ?_ (World.grownBy_alloc _ _ none) | exact World.grownBy.refl W none))).mono ?_
      rintro e w' ⟨rfl, q2, rfl⟩
      try dsimp only
      refine hK0.out _ _ ⟨World.grownBy.cell (w := W) (by repeat (first | exact grownBy_drewN W _ none | refine World.grownBy.trans ?_ (grownBy_drewN _ _ none) | refine World.grownBy.trans ?_ (World.grownBy_alloc _ _ none) | exact World.grownBy.refl W none)) c0 (by simp), (by repeat (first | exact grownBy_drewN W _ none | refine World.grownBy.trans ?_ (grownBy_drewN _ _ none) | refine World.grownBy.trans ?_ (World.grownBy_alloc _ _ none) | exact World.grownBy.refl W none))⟩ (fun hH => ?_)
      clear hK0 K0
      try dsimp only [Act.put]
      try simp only [List.setIfInBounds_toArray, List.set_cons_zero, List.set_cons_succ]
      refine wpAnyH_take (i := 9) (v := ?v9b) (by simp only [List.getElem?_toArray, List.getElem?_cons_zero, List.getElem?_cons_succ]; rfl) (by kernel_rfl) (by kernel_rfl) (by kernel_rfl) (by intro _ _ _ h; exact h) (Or.inl ⟨by rfl, ?y9b⟩) (by assumption) ?r9b
      case y9b =>
        intro WW hSw
        obtain ⟨hs0, hs1⟩ := hSw
        clear hs1
        go_simp
        try with_reducible rfl
      try dsimp only [Act.put]
      try simp only [List.setIfInBounds_toArray, List.set_cons_zero, List.set_cons_succ]
      have RA : Row (((W.drewN (nq + 1 + q1)).alloc (.cells #[.int .i64 0, .int .i64 0, .int .i64 0, .slice none 0 0] 24)).drewN q2) W.heap.size 24 4 (rqV (.int .i64 0) (.int .i64 0) (.int .i64 0) (.slice none 0 0)) := Row.grown (rowQ (w := W.drewN (nq + 1 + q1)) rfl) (grownBy_drewN _ q2 none) (by simp)
      have GA : W.grownBy (((W.drewN (nq + 1 + q1)).alloc (.cells #[.int .i64 0, .int .i64 0, .int .i64 0, .slice none 0 0] 24)).drewN q2) none := (by repeat (first | exact grownBy_drewN W _ none | refine World.grownBy.trans ?_ (grownBy_drewN _ _ none) | refine World.grownBy.trans ?_ (World.grownBy_alloc _ _ none) | exact World.grownBy.refl W none))
      generalize hA : ((W.drewN (nq + 1 + q1)).alloc (.cells #[.int .i64 0, .int .i64 0, .int .i64 0, .slice none 0 0] 24)).drewN q2 = A at RA GA hH ⊢
      clear hA
      have z0 := RA.cell (k := 0) (by omega); have z1 := RA.cell (k := 1) (by omega); have z2 := RA.cell (k := 2) (by omega); have z3 := RA.cell (k := 3) (by omega); have zz := RA.frozen
      simp only [rqV] at z0 z1 z2 z3
      have RB := set4 RA (.int .i64 x0) (.int .i64 ID) (.int .i64 SC) (.slice none 0 0)
      have GB := GA.andThen (set4_grown A W.heap.size (.int .i64 x0) (.int .i64 ID) (.int .i64 SC) (.slice none 0 0)) (fun j e => .inl (by cases e; exact Nat.le_refl _))
      have hRB := hid RB; have hGB := hid GB
      refine wpAnyH_ready (rs := [11]) (by kernel_rfl) (by simp) ?_
      refine AllReadyH.cons (by simp only [List.getElem?_toArray, List.getElem?_cons_zero, List.getElem?_cons_succ]; rfl) (fun K0 hK0 => ?_) AllReadyH.nil
      clear RB GB
      go_simp
      refine hK0.out _ _ ⟨hGB.out.cell c0 (by simp), hGB.out⟩ (fun hH => ?_)
      clear hK0 K0
      try dsimp only [Act.put]
      try simp only [List.setIfInBounds_toArray, List.set_cons_zero, List.set_cons_succ]
      refine wpAnyH_done (by kernel_rfl) ?_ _
      generalize (((A.setCell ⟨W.heap.size, 0, none⟩ (.int .i64 x0)).setCell ⟨W.heap.size, 1, none⟩ (.int .i64 ID)).setCell ⟨W.heap.size, 2, none⟩ (.int .i64 SC)).setCell ⟨W.heap.size, 3, none⟩ (.slice none 0 0) = A2 at hRB hGB hH ⊢
      clear z0 z1 z2 z3 zz RA GA hH
      have hRR := hid (HR0.out.grown hGB.out (by simp))
      have r0 := hRB.out.cell (k := 0) (by omega); have r1 := hRB.out.cell (k := 1) (by omega); have r2 := hRB.out.cell (k := 2) (by omega); have r3 := hRB.out.cell (k := 3) (by omega); have rz := hRB.out.frozen
      have s0 := hRR.out.cell (k := 0) (by omega); have s1 := hRR.out.cell (k := 1) (by omega); have s2 := hRR.out.cell (k := 2) (by omega); have s3 := hRR.out.cell (k := 3) (by omega); have sz := hRR.out.frozen
      simp only [rqV] at r0 r1 r2 r3 s0 s1 s2 s3
      have d8 := hGB.out.cell HC8.out (by simp)
      have d9 := hGB.out.cell HC9.out (by simp)
      go_wp2
      refine wp_region_held_drew (S := fun w' => w'.cell? ⟨b, o + 8, none⟩ = some (.int .u8 x8) ∧ w'.cell? ⟨b, o + 9, none⟩ = some (.int .u8 x9) ∧ W.grownBy w' none) (by kernel_rfl) ⟨d8, d9, hGB.out.trans (grownBy_drew _ none)⟩ (fun hH => ?_)
      refine wpAnyH_take (i := 0) (v := ?v0z2) (by simp only [List.getElem?_toArray, List.getElem?_cons_zero, List.getElem?_cons_succ]; rfl) (by kernel_rfl) (by kernel_rfl) (by kernel_rfl) (by intro _ _ _ h; exact h) (Or.inl ⟨by rfl, ?y0z2⟩) (by assumption) ?r0z2
      case y0z2 =>
        intro WW hSw
        obtain ⟨hs0, hs1, hs2⟩ := hSw
        clear hs2
        go_simp
        try with_reducible rfl
      try dsimp only [Act.put]
      try simp only [List.setIfInBounds_toArray, List.set_cons_zero, List.set_cons_succ]
      refine wpAnyH_take (i := 1) (v := ?v1z2) (by simp only [List.getElem?_toArray, List.getElem?_cons_zero, List.getElem?_cons_succ]; rfl) (by kernel_rfl) (by kernel_rfl) (by kernel_rfl) (by intro _ _ _ h; exact h) (Or.inl ⟨by rfl, ?y1z2⟩) (by assumption) ?r1z2
      case y1z2 =>
        intro WW hSw
        obtain ⟨hs0, hs1, hs2⟩ := hSw
        clear hs2
        go_simp
        try with_reducible rfl
      try dsimp only [Act.put]
      try simp only [List.setIfInBounds_toArray, List.set_cons_zero, List.set_cons_succ]
      refine wpAnyH_take (i := 2) (v := ?v2z2) (by simp only [List.getElem?_toArray, List.getElem?_cons_zero, List.getElem?_cons_succ]; rfl) (by kernel_rfl) (by kernel_rfl) (by kernel_rfl) (by intro _ _ _ h; exact h) (Or.inl ⟨by rfl, ?y2z2⟩) (by assumption) ?r2z2
      case y2z2 =>
        intro WW hSw
        obtain ⟨hs0, hs1, hs2⟩ := hSw
        clear hs2
        go_simp
        try with_reducible rfl
      try dsimp only [Act.put]
      try simp only [List.setIfInBounds_toArray, List.set_cons_zero, List.set_cons_succ]
      refine wpAnyH_take (i := 3) (v := ?v3z2) (by simp only [List.getElem?_toArray, List.getElem?_cons_zero, List.getElem?_cons_succ]; rfl) (by kernel_rfl) (by kernel_rfl) (by kernel_rfl) (by intro _ _ _ h; exact h) (Or.inl ⟨by rfl, ?y3z2⟩) (by assumption) ?r3z2
      case y3z2 =>
        intro WW hSw
        obtain ⟨hs0, hs1, hs2⟩ := hSw
        clear hs2
        go_simp
        try with_reducible rfl
      try dsimp only [Act.put]
      try simp only [List.setIfInBounds_toArray, List.set_cons_zero, List.set_cons_succ]
      refine wpAnyH_take (i := 4) (v := ?v4z2) (by simp only [List.getElem?_toArray, List.getElem?_cons_zero, List.getElem?_cons_succ]; rfl) (by kernel_rfl) (by kernel_rfl) (by kernel_rfl) (by intro _ _ _ h; exact h) (Or.inl ⟨by rfl, ?y4z2⟩) (by assumption) ?r4z2
      case y4z2 =>
        intro WW hSw
        obtain ⟨hs0, hs1, hs2⟩ := hSw
        clear hs2
        go_simp
        try with_reducible rfl
      try dsimp only [Act.put]
      try simp only [List.setIfInBounds_toArray, List.set_cons_zero, List.set_cons_succ]
      refine wpAnyH_take (i := 5) (v := ?v5z2) (by simp only [List.getElem?_toArray, List.getElem?_cons_zero, List.getElem?_cons_succ]; rfl) (by kernel_rfl) (by kernel_rfl) (by kernel_rfl) (by intro _ _ _ h; exact h) (Or.inl ⟨by rfl, ?y5z2⟩) (by assumption) ?r5z2
      case y5z2 =>
        intro WW hSw
        obtain ⟨hs0, hs1, hs2⟩ := hSw
        clear hs2
        go_simp
        try with_reducible rfl
      try dsimp only [Act.put]
      try simp only [List.setIfInBounds_toArray, List.set_cons_zero, List.set_cons_succ]
      refine wpAnyH_take (i := 6) (v := ?v6z2) (by simp only [List.getElem?_toArray, List.getElem?_cons_zero, List.getElem?_cons_succ]; rfl) (by kernel_rfl) (by kernel_rfl) (by kernel_rfl) (by intro _ _ _ h; exact h) (Or.inl ⟨by rfl, ?y6z2⟩) (by assumption) ?r6z2
      case y6z2 =>
        intro WW hSw
        obtain ⟨hs0, hs1, hs2⟩ := hSw
        clear hs2
        go_simp
        try with_reducible rfl
      try dsimp only [Act.put]
      try simp only [List.setIfInBounds_toArray, List.set_cons_zero, List.set_cons_succ]
      refine wpAnyH_take (i := 7) (v := ?v7z2) (by simp only [List.getElem?_toArray, List.getElem?_cons_zero, List.getElem?_cons_succ]; rfl) (by kernel_rfl) (by kernel_rfl) (by kernel_rfl) (by intro _ _ _ h; exact h) (Or.inl ⟨by rfl, ?y7z2⟩) (by assumption) ?r7z2
      case y7z2 =>
        intro WW hSw
        obtain ⟨hs0, hs1, hs2⟩ := hSw
        clear hs2
        go_simp
        try with_reducible rfl
      try dsimp only [Act.put]
      try simp only [List.setIfInBounds_toArray, List.set_cons_zero, List.set_cons_succ]
      refine wpAnyH_take (i := 8) (v := ?v8z2) (by simp only [List.getElem?_toArray, List.getElem?_cons_zero, List.getElem?_cons_succ]; rfl) (by kernel_rfl) (by kernel_rfl) (by kernel_rfl) (by intro _ _ _ h; exact h) (Or.inl ⟨by rfl, ?y8z2⟩) (by assumption) ?r8z2
      case y8z2 =>
        intro WW hSw
        obtain ⟨hs0, hs1, hs2⟩ := hSw
        clear hs2
        go_simp
        try with_reducible rfl
      try dsimp only [Act.put]
      try simp only [List.setIfInBounds_toArray, List.set_cons_zero, List.set_cons_succ]
      refine wpAnyH_take (i := 9) (v := ?v9z2) (by simp only [List.getElem?_toArray, List.getElem?_cons_zero, List.getElem?_cons_succ]; rfl) (by kernel_rfl) (by kernel_rfl) (by kernel_rfl) (by intro _ _ _ h; exact h) (Or.inl ⟨by rfl, ?y9z2⟩) (by assumption) ?r9z2
      case y9z2 =>
        intro WW hSw
        obtain ⟨hs0, hs1, hs2⟩ := hSw
        clear hs2
        go_simp
        try with_reducible rfl
      try dsimp only [Act.put]
      try simp only [List.setIfInBounds_toArray, List.set_cons_zero, List.set_cons_succ]
      refine wpAnyH_ready (rs := [10]) (by kernel_rfl) (by simp) ?_
      refine AllReadyH.cons (by simp only [List.getElem?_toArray, List.getElem?_cons_zero, List.getElem?_cons_succ]; rfl) (fun K0 hK0 => ?_) AllReadyH.nil
      go_simp
      have GT := hid (show W.grownBy (A2.setCell ⟨W.heap.size, 0, none⟩ (.int .i64 x9)).drew none from (hGB.out.andThen (grownBy_setCell _ W.heap.size 0 none _) (fun j e => .inl (by cases e; exact Nat.le_refl _))).trans (grownBy_drew _ none))
      have RT : Hid (Row (A2.setCell ⟨W.heap.size, 0, none⟩ (.int .i64 x9)).drew W.heap.size 24 4 (rqV (.int .i64 x9) (.int .i64 ID) (.int .i64 SC) (.slice none 0 0))) := hid (Row.grown (hRB.out.set (k := 0) (v := .int .i64 x9) (X' := rqV (.int .i64 x9) (.int .i64 ID) (.int .i64 SC) (.slice none 0 0)) rfl (fun j _ hj => by match j, hj with | 0, hj => exact absurd rfl hj | 1, _ => rfl | 2, _ => rfl | (_ + 3), _ => rfl)) (grownBy_drew _ none) (by simp))
      refine hK0.out _ _ ⟨GT.out.cell HC8.out (by simp), GT.out.cell HC9.out (by simp), GT.out⟩ (fun hH => ?_)
      clear hK0 K0
      try dsimp only [Act.put]
      try simp only [List.setIfInBounds_toArray, List.set_cons_zero, List.set_cons_succ]
      refine wpAnyH_done (by kernel_rfl) ?_ _
      generalize (A2.setCell ⟨W.heap.size, 0, none⟩ (.int .i64 x9)).drew = A3 at RT GT hH ⊢
      clear hH r0 r1 r2 r3 s0 s1 s2 s3 rz sz d8 d9
      have hRR3 := hid (HR0.out.grown GT.out (by simp))
      have r0 := RT.out.cell (k := 0) (by omega); have r1 := RT.out.cell (k := 1) (by omega); have r2 := RT.out.cell (k := 2) (by omega); have r3 := RT.out.cell (k := 3) (by omega); have rz := RT.out.frozen
      have s0 := hRR3.out.cell (k := 0) (by omega); have s1 := hRR3.out.cell (k := 1) (by omega); have s2 := hRR3.out.cell (k := 2) (by omega); have s3 := hRR3.out.cell (k := 3) (by omega); have sz := hRR3.out.frozen
      simp only [rqV] at r0 r1 r2 r3 s0 s1 s2 s3
      go_wp2_with (go_at_call 24; refine (HM.out _).mono ?_; rintro e w' ⟨rfl, rfl⟩)
      have RF := set4 (hRR3.out) (.int .i64 0) (.int .i64 0) (.int .i64 0) (.slice none 0 0)
      have GF := (HG0.out.trans GT.out).andThen (set4_grown A3 w.heap.size (.int .i64 0) (.int .i64 0) (.int .i64 0) (.slice none 0 0)) (fun j e => .inl (by cases e; exact Nat.le_refl _))
      skip
      generalize (((A3.setCell ⟨w.heap.size, 0, none⟩ (.int .i64 0)).setCell ⟨w.heap.size, 1, none⟩ (.int .i64 0)).setCell ⟨w.heap.size, 2, none⟩ (.int .i64 0)).setCell ⟨w.heap.size, 3, none⟩ (.slice none 0 0) = A9 at RF GF ⊢
      have f0 := RF.cell (k := 0) (by omega); have f1 := RF.cell (k := 1) (by omega); have f2 := RF.cell (k := 2) (by omega); have f3 := RF.cell (k := 3) (by omega)
      simp only [rqV] at f0 f1 f2 f3
      refine bodyPost_ret (v := .tuple #[.agg #[.int .i64 0, .int .i64 0, .int .i64 0, .slice none 0 0], .int .i64 0, .int .i64 0, .int .i64 4]) (by simp [results, Try.results10, go_sem, f0, f1, f2, f3]) rfl ?_
      exact ⟨rfl, GF⟩
  · refine AllReadyH.cons (by simp only [List.getElem?_toArray, List.getElem?_cons_zero, List.getElem?_cons_succ]; rfl) (fun K0 hK0 => ?_) AllReadyH.nil
    go_simp
    refine hK0.out _ _ ⟨World.grownBy.cell (w := W) (by repeat (first | exact grownBy_drewN W _ none | refine World.grownBy.trans ?_ (grownBy_drewN _ _ none) | refine World.grownBy.trans ?_ (World.grownBy_alloc _ _ none) | exact World.grownBy.refl W none)) c0 (by simp), (by repeat (first | exact grownBy_drewN W _ none | refine World.grownBy.trans ?_ (grownBy_drewN _ _ none) | refine World.grownBy.trans ?_ (World.grownBy_alloc _ _ none) | exact World.grownBy.refl W none))⟩ (fun hH => ?_)
    clear hK0 K0
    try dsimp only [Act.put]
    try simp only [List.setIfInBounds_toArray, List.set_cons_zero, List.set_cons_succ]
    refine wpAnyH_ready (rs := [5]) (by kernel_rfl) (by simp) ?_
    refine AllReadyH.cons (by simp only [List.getElem?_toArray, List.getElem?_cons_zero, List.getElem?_cons_succ]; rfl) (fun K0 hK0 => ?_) AllReadyH.nil
    go_simp
    go_at_call 31
    refine (HID.out _ (by repeat (first | exact grownBy_drewN W _ none | refine World.grownBy.trans ?_ (grownBy_drewN _ _ none) | refine World.grownBy.trans ?_ (World.grownBy_alloc _ _ none) | exact World.grownBy.refl W none))).mono ?_
    rintro e w' ⟨rfl, q1, rfl⟩
    try dsimp only
    refine hK0.out _ _ ⟨World.grownBy.cell (w := W) (by repeat (first | exact grownBy_drewN W _ none | refine World.grownBy.trans ?_ (grownBy_drewN _ _ none) | refine World.grownBy.trans ?_ (World.grownBy_alloc _ _ none) | exact World.grownBy.refl W none)) c0 (by simp), (by repeat (first | exact grownBy_drewN W _ none | refine World.grownBy.trans ?_ (grownBy_drewN _ _ none) | refine World.grownBy.trans ?_ (World.grownBy_alloc _ _ none) | exact World.grownBy.refl W none))⟩ (fun hH => ?_)
    clear hK0 K0
    try dsimp only [Act.put]
    try simp only [List.setIfInBounds_toArray, List.set_cons_zero, List.set_cons_succ]
    refine wpAnyH_ready (rs := [8]) (by kernel_rfl) (by simp) ?_
    refine AllReadyH.cons (by simp only [List.getElem?_toArray, List.getElem?_cons_zero, List.getElem?_cons_succ]; rfl) (fun K0 hK0 => ?_) AllReadyH.nil
    go_simp
    go_at_call 32
    refine (HNM.out _ (by repeat (first | exact grownBy_drewN W _ none | refine World.grownBy.trans ?_ (grownBy_drewN _ _ none) | refine World.grownBy.trans ?_ (World.grownBy_alloc _ _ none) | exact World.grownBy.refl W none))).mono ?_
    rintro e w' ⟨rfl, q2, rfl⟩
    try dsimp only
    refine hK0.out _ _ ⟨World.grownBy.cell (w := W) (by repeat (first | exact grownBy_drewN W _ none | refine World.grownBy.trans ?_ (grownBy_drewN _ _ none) | refine World.grownBy.trans ?_ (World.grownBy_alloc _ _ none) | exact World.grownBy.refl W none)) c0 (by simp), (by repeat (first | exact grownBy_drewN W _ none | refine World.grownBy.trans ?_ (grownBy_drewN _ _ none) | refine World.grownBy.trans ?_ (World.grownBy_alloc _ _ none) | exact World.grownBy.refl W none))⟩ (fun hH => ?_)
    clear hK0 K0
    try dsimp only [Act.put]
    try simp only [List.setIfInBounds_toArray, List.set_cons_zero, List.set_cons_succ]
    refine wpAnyH_take (i := 9) (v := ?v9c) (by simp only [List.getElem?_toArray, List.getElem?_cons_zero, List.getElem?_cons_succ]; rfl) (by kernel_rfl) (by kernel_rfl) (by kernel_rfl) (by intro _ _ _ h; exact h) (Or.inl ⟨by rfl, ?y9c⟩) (by assumption) ?r9c
    case y9c =>
      intro WW hSw
      obtain ⟨hs0, hs1⟩ := hSw
      clear hs1
      go_simp
      try with_reducible rfl
    try dsimp only [Act.put]
    try simp only [List.setIfInBounds_toArray, List.set_cons_zero, List.set_cons_succ]
    have RA : Row ((((W.drewN (nq + 1)).alloc (.cells #[.int .i64 0, .int .i64 0, .int .i64 0, .slice none 0 0] 24)).drewN q1).drewN q2) W.heap.size 24 4 (rqV (.int .i64 0) (.int .i64 0) (.int .i64 0) (.slice none 0 0)) := Row.grown (Row.grown (rowQ (w := W.drewN (nq + 1)) rfl) (grownBy_drewN _ q1 none) (by simp)) (grownBy_drewN _ q2 none) (by simp)
    have GA : W.grownBy ((((W.drewN (nq + 1)).alloc (.cells #[.int .i64 0, .int .i64 0, .int .i64 0, .slice none 0 0] 24)).drewN q1).drewN q2) none := (by repeat (first | exact grownBy_drewN W _ none | refine World.grownBy.trans ?_ (grownBy_drewN _ _ none) | refine World.grownBy.trans ?_ (World.grownBy_alloc _ _ none) | exact World.grownBy.refl W none))
    generalize hA : (((W.drewN (nq + 1)).alloc (.cells #[.int .i64 0, .int .i64 0, .int .i64 0, .slice none 0 0] 24)).drewN q1).drewN q2 = A at RA GA hH ⊢
    clear hA
    have z0 := RA.cell (k := 0) (by omega); have z1 := RA.cell (k := 1) (by omega); have z2 := RA.cell (k := 2) (by omega); have z3 := RA.cell (k := 3) (by omega); have zz := RA.frozen
    simp only [rqV] at z0 z1 z2 z3
    have RB := set4 RA (.int .i64 x0) (.int .i64 ID) (.int .i64 SC) (.slice none 0 0)
    have GB := GA.andThen (set4_grown A W.heap.size (.int .i64 x0) (.int .i64 ID) (.int .i64 SC) (.slice none 0 0)) (fun j e => .inl (by cases e; exact Nat.le_refl _))
    have hRB := hid RB; have hGB := hid GB
    refine wpAnyH_ready (rs := [11]) (by kernel_rfl) (by simp) ?_
    refine AllReadyH.cons (by simp only [List.getElem?_toArray, List.getElem?_cons_zero, List.getElem?_cons_succ]; rfl) (fun K0 hK0 => ?_) AllReadyH.nil
    clear RB GB
    go_simp
    refine hK0.out _ _ ⟨hGB.out.cell c0 (by simp), hGB.out⟩ (fun hH => ?_)
    clear hK0 K0
    try dsimp only [Act.put]
    try simp only [List.setIfInBounds_toArray, List.set_cons_zero, List.set_cons_succ]
    refine wpAnyH_done (by kernel_rfl) ?_ _
    generalize (((A.setCell ⟨W.heap.size, 0, none⟩ (.int .i64 x0)).setCell ⟨W.heap.size, 1, none⟩ (.int .i64 ID)).setCell ⟨W.heap.size, 2, none⟩ (.int .i64 SC)).setCell ⟨W.heap.size, 3, none⟩ (.slice none 0 0) = A2 at hRB hGB hH ⊢
    clear z0 z1 z2 z3 zz RA GA hH
    have hRR := hid (HR0.out.grown hGB.out (by simp))
    have r0 := hRB.out.cell (k := 0) (by omega); have r1 := hRB.out.cell (k := 1) (by omega); have r2 := hRB.out.cell (k := 2) (by omega); have r3 := hRB.out.cell (k := 3) (by omega); have rz := hRB.out.frozen
    have s0 := hRR.out.cell (k := 0) (by omega); have s1 := hRR.out.cell (k := 1) (by omega); have s2 := hRR.out.cell (k := 2) (by omega); have s3 := hRR.out.cell (k := 3) (by omega); have sz := hRR.out.frozen
    simp only [rqV] at r0 r1 r2 r3 s0 s1 s2 s3
    have d8 := hGB.out.cell HC8.out (by simp)
    have d9 := hGB.out.cell HC9.out (by simp)
    go_wp2
    refine wp_region_held_drew (S := fun w' => w'.cell? ⟨b, o + 8, none⟩ = some (.int .u8 x8) ∧ w'.cell? ⟨b, o + 9, none⟩ = some (.int .u8 x9) ∧ W.grownBy w' none) (by kernel_rfl) ⟨d8, d9, hGB.out.trans (grownBy_drew _ none)⟩ (fun hH => ?_)
    refine wpAnyH_take (i := 0) (v := ?v0z3) (by simp only [List.getElem?_toArray, List.getElem?_cons_zero, List.getElem?_cons_succ]; rfl) (by kernel_rfl) (by kernel_rfl) (by kernel_rfl) (by intro _ _ _ h; exact h) (Or.inl ⟨by rfl, ?y0z3⟩) (by assumption) ?r0z3
    case y0z3 =>
      intro WW hSw
      obtain ⟨hs0, hs1, hs2⟩ := hSw
      clear hs2
      go_simp
      try with_reducible rfl
    try dsimp only [Act.put]
    try simp only [List.setIfInBounds_toArray, List.set_cons_zero, List.set_cons_succ]
    refine wpAnyH_take (i := 1) (v := ?v1z3) (by simp only [List.getElem?_toArray, List.getElem?_cons_zero, List.getElem?_cons_succ]; rfl) (by kernel_rfl) (by kernel_rfl) (by kernel_rfl) (by intro _ _ _ h; exact h) (Or.inl ⟨by rfl, ?y1z3⟩) (by assumption) ?r1z3
    case y1z3 =>
      intro WW hSw
      obtain ⟨hs0, hs1, hs2⟩ := hSw
      clear hs2
      go_simp
      try with_reducible rfl
    try dsimp only [Act.put]
    try simp only [List.setIfInBounds_toArray, List.set_cons_zero, List.set_cons_succ]
    refine wpAnyH_take (i := 2) (v := ?v2z3) (by simp only [List.getElem?_toArray, List.getElem?_cons_zero, List.getElem?_cons_succ]; rfl) (by kernel_rfl) (by kernel_rfl) (by kernel_rfl) (by intro _ _ _ h; exact h) (Or.inl ⟨by rfl, ?y2z3⟩) (by assumption) ?r2z3
    case y2z3 =>
      intro WW hSw
      obtain ⟨hs0, hs1, hs2⟩ := hSw
      clear hs2
      go_simp
      try with_reducible rfl
    try dsimp only [Act.put]
    try simp only [List.setIfInBounds_toArray, List.set_cons_zero, List.set_cons_succ]
    refine wpAnyH_take (i := 3) (v := ?v3z3) (by simp only [List.getElem?_toArray, List.getElem?_cons_zero, List.getElem?_cons_succ]; rfl) (by kernel_rfl) (by kernel_rfl) (by kernel_rfl) (by intro _ _ _ h; exact h) (Or.inl ⟨by rfl, ?y3z3⟩) (by assumption) ?r3z3
    case y3z3 =>
      intro WW hSw
      obtain ⟨hs0, hs1, hs2⟩ := hSw
      clear hs2
      go_simp
      try with_reducible rfl
    try dsimp only [Act.put]
    try simp only [List.setIfInBounds_toArray, List.set_cons_zero, List.set_cons_succ]
    refine wpAnyH_take (i := 4) (v := ?v4z3) (by simp only [List.getElem?_toArray, List.getElem?_cons_zero, List.getElem?_cons_succ]; rfl) (by kernel_rfl) (by kernel_rfl) (by kernel_rfl) (by intro _ _ _ h; exact h) (Or.inl ⟨by rfl, ?y4z3⟩) (by assumption) ?r4z3
    case y4z3 =>
      intro WW hSw
      obtain ⟨hs0, hs1, hs2⟩ := hSw
      clear hs2
      go_simp
      try with_reducible rfl
    try dsimp only [Act.put]
    try simp only [List.setIfInBounds_toArray, List.set_cons_zero, List.set_cons_succ]
    refine wpAnyH_take (i := 5) (v := ?v5z3) (by simp only [List.getElem?_toArray, List.getElem?_cons_zero, List.getElem?_cons_succ]; rfl) (by kernel_rfl) (by kernel_rfl) (by kernel_rfl) (by intro _ _ _ h; exact h) (Or.inl ⟨by rfl, ?y5z3⟩) (by assumption) ?r5z3
    case y5z3 =>
      intro WW hSw
      obtain ⟨hs0, hs1, hs2⟩ := hSw
      clear hs2
      go_simp
      try with_reducible rfl
    try dsimp only [Act.put]
    try simp only [List.setIfInBounds_toArray, List.set_cons_zero, List.set_cons_succ]
    refine wpAnyH_take (i := 6) (v := ?v6z3) (by simp only [List.getElem?_toArray, List.getElem?_cons_zero, List.getElem?_cons_succ]; rfl) (by kernel_rfl) (by kernel_rfl) (by kernel_rfl) (by intro _ _ _ h; exact h) (Or.inl ⟨by rfl, ?y6z3⟩) (by assumption) ?r6z3
    case y6z3 =>
      intro WW hSw
      obtain ⟨hs0, hs1, hs2⟩ := hSw
      clear hs2
      go_simp
      try with_reducible rfl
    try dsimp only [Act.put]
    try simp only [List.setIfInBounds_toArray, List.set_cons_zero, List.set_cons_succ]
    refine wpAnyH_take (i := 7) (v := ?v7z3) (by simp only [List.getElem?_toArray, List.getElem?_cons_zero, List.getElem?_cons_succ]; rfl) (by kernel_rfl) (by kernel_rfl) (by kernel_rfl) (by intro _ _ _ h; exact h) (Or.inl ⟨by rfl, ?y7z3⟩) (by assumption) ?r7z3
    case y7z3 =>
      intro WW hSw
      obtain ⟨hs0, hs1, hs2⟩ := hSw
      clear hs2
      go_simp
      try with_reducible rfl
    try dsimp only [Act.put]
    try simp only [List.setIfInBounds_toArray, List.set_cons_zero, List.set_cons_succ]
    refine wpAnyH_take (i := 8) (v := ?v8z3) (by simp only [List.getElem?_toArray, List.getElem?_cons_zero, List.getElem?_cons_succ]; rfl) (by kernel_rfl) (by kernel_rfl) (by kernel_rfl) (by intro _ _ _ h; exact h) (Or.inl ⟨by rfl, ?y8z3⟩) (by assumption) ?r8z3
    case y8z3 =>
      intro WW hSw
      obtain ⟨hs0, hs1, hs2⟩ := hSw
      clear hs2
      go_simp
      try with_reducible rfl
    try dsimp only [Act.put]
    try simp only [List.setIfInBounds_toArray, List.set_cons_zero, List.set_cons_succ]
    refine wpAnyH_take (i := 9) (v := ?v9z3) (by simp only [List.getElem?_toArray, List.getElem?_cons_zero, List.getElem?_cons_succ]; rfl) (by kernel_rfl) (by kernel_rfl) (by kernel_rfl) (by intro _ _ _ h; exact h) (Or.inl ⟨by rfl, ?y9z3⟩) (by assumption) ?r9z3
    case y9z3 =>
      intro WW hSw
      obtain ⟨hs0, hs1, hs2⟩ := hSw
      clear hs2
      go_simp
      try with_reducible rfl
    try dsimp only [Act.put]
    try simp only [List.setIfInBounds_toArray, List.set_cons_zero, List.set_cons_succ]
    refine wpAnyH_ready (rs := [10]) (by kernel_rfl) (by simp) ?_
    refine AllReadyH.cons (by simp only [List.getElem?_toArray, List.getElem?_cons_zero, List.getElem?_cons_succ]; rfl) (fun K0 hK0 => ?_) AllReadyH.nil
    go_simp
    have GT := hid (show W.grownBy (A2.setCell ⟨W.heap.size, 0, none⟩ (.int .i64 x9)).drew none from (hGB.out.andThen (grownBy_setCell _ W.heap.size 0 none _) (fun j e => .inl (by cases e; exact Nat.le_refl _))).trans (grownBy_drew _ none))
    have RT : Hid (Row (A2.setCell ⟨W.heap.size, 0, none⟩ (.int .i64 x9)).drew W.heap.size 24 4 (rqV (.int .i64 x9) (.int .i64 ID) (.int .i64 SC) (.slice none 0 0))) := hid (Row.grown (hRB.out.set (k := 0) (v := .int .i64 x9) (X' := rqV (.int .i64 x9) (.int .i64 ID) (.int .i64 SC) (.slice none 0 0)) rfl (fun j _ hj => by match j, hj with | 0, hj => exact absurd rfl hj | 1, _ => rfl | 2, _ => rfl | (_ + 3), _ => rfl)) (grownBy_drew _ none) (by simp))
    refine hK0.out _ _ ⟨GT.out.cell HC8.out (by simp), GT.out.cell HC9.out (by simp), GT.out⟩ (fun hH => ?_)
    clear hK0 K0
    try dsimp only [Act.put]
    try simp only [List.setIfInBounds_toArray, List.set_cons_zero, List.set_cons_succ]
    refine wpAnyH_done (by kernel_rfl) ?_ _
    generalize (A2.setCell ⟨W.heap.size, 0, none⟩ (.int .i64 x9)).drew = A3 at RT GT hH ⊢
    clear hH r0 r1 r2 r3 s0 s1 s2 s3 rz sz d8 d9
    have hRR3 := hid (HR0.out.grown GT.out (by simp))
    have r0 := RT.out.cell (k := 0) (by omega); have r1 := RT.out.cell (k := 1) (by omega); have r2 := RT.out.cell (k := 2) (by omega); have r3 := RT.out.cell (k := 3) (by omega); have rz := RT.out.frozen
    have s0 := hRR3.out.cell (k := 0) (by omega); have s1 := hRR3.out.cell (k := 1) (by omega); have s2 := hRR3.out.cell (k := 2) (by omega); have s3 := hRR3.out.cell (k := 3) (by omega); have sz := hRR3.out.frozen
    simp only [rqV] at r0 r1 r2 r3 s0 s1 s2 s3
    go_wp2_with (go_at_call 24; refine (HM.out _).mono ?_; rintro e w' ⟨rfl, rfl⟩)
    have RF := set4 (hRR3.out) (.int .i64 0) (.int .i64 0) (.int .i64 0) (.slice none 0 0)
    have GF := (HG0.out.trans GT.out).andThen (set4_grown A3 w.heap.size (.int .i64 0) (.int .i64 0) (.int .i64 0) (.slice none 0 0)) (fun j e => .inl (by cases e; exact Nat.le_refl _))
    skip
    generalize (((A3.setCell ⟨w.heap.size, 0, none⟩ (.int .i64 0)).setCell ⟨w.heap.size, 1, none⟩ (.int .i64 0)).setCell ⟨w.heap.size, 2, none⟩ (.int .i64 0)).setCell ⟨w.heap.size, 3, none⟩ (.slice none 0 0) = A9 at RF GF ⊢
    have f0 := RF.cell (k := 0) (by omega); have f1 := RF.cell (k := 1) (by omega); have f2 := RF.cell (k := 2) (by omega); have f3 := RF.cell (k := 3) (by omega)
    simp only [rqV] at f0 f1 f2 f3
    refine bodyPost_ret (v := .tuple #[.agg #[.int .i64 0, .int .i64 0, .int .i64 0, .slice none 0 0], .int .i64 0, .int .i64 0, .int .i64 4]) (by simp [results, Try.results10, go_sem, f0, f1, f2, f3]) rfl ?_
    exact ⟨rfl, GF⟩

set_option maxRecDepth 100000 in
theorem bUnp_b2 (l : List UInt8) (b o c : Nat) (w : World) (hl : l.length = 16) (hc : 16 ≤ c) (hc63 : c ≤ 9223372036854775807) (h : BA w (some ⟨b, o, none⟩) l) (h3 : (l.getD 0 0).toNat = 3) (hmay : mayV (l.getD 9 0).toNat (l.getD 1 0).toNat ((l.getD 8 0).toNat : Int) = true) :
    Calls Try.prog 10 #[.slice (some ⟨b, o, none⟩) 16 c] w fun e w' => e = .returned (.tuple #[.agg #[.int .i64 (l.getD 9 0).toNat, .int .i64 (upN (l.getD 2 0).toNat (l.getD 3 0).toNat 0 0 2 : Nat), .int .i64 (upN (l.getD 4 0).toNat (l.getD 5 0).toNat (l.getD 6 0).toNat (l.getD 7 0).toNat 4 : Nat), .slice none 0 0], .int .i64 (l.getD 8 0).toNat, .int .i64 (l.getD 1 0).toNat, .int .i64 0]) ∧ w.grownBy w' none := by
  obtain ⟨W, hW⟩ : ∃ W, w.alloc (.cells #[.int .i64 0, .int .i64 0, .int .i64 0, .slice none 0 0] 24) = W := ⟨_, rfl⟩
  have HG0 := hid (show w.grownBy W none from hW ▸ World.grownBy_alloc _ _ _)
  have HR0 := hid (rowQ hW)
  have HB := hid (h.grown HG0.out)
  have c0 := HB.out.at (k := 0) (by omega)
  have c1 := HB.out.at (k := 1) (by omega)
  rw [Nat.add_zero] at c0
  have y0 := UInt8.toNat_lt (l.getD 0 0)
  have y1 := UInt8.toNat_lt (l.getD 1 0)
  have HID := hid fun w' (hg : W.grownBy w' none) => bReqID b o c l w' hl hc (HB.out.grown hg)
  have HNM := hid fun w' (hg : W.grownBy w' none) => bNumber b (o + 4) (c - 4) 4 (l.getD 4 0).toNat (l.getD 5 0).toNat (l.getD 6 0).toNat (l.getD 7 0).toNat w' (by omega) ⟨UInt8.toNat_lt _, UInt8.toNat_lt _, UInt8.toNat_lt _, UInt8.toNat_lt _⟩ (fun k hk => by
    have hx := (HB.out.grown hg).at (k := 4 + k) (by omega)
    rw [← Nat.add_assoc] at hx
    match k, hk with
    | 0, _ => exact hx
    | 1, _ => exact hx
    | 2, _ => exact hx
    | 3, _ => exact hx)
  have c8 := HB.out.at (k := 8) (by omega)
  have c9 := HB.out.at (k := 9) (by omega)
  have HC8 := hid c8
  have HC9 := hid c9
  clear c8 c9
  have y8 := UInt8.toNat_lt (l.getD 8 0)
  have y9 := UInt8.toNat_lt (l.getD 9 0)
  have HM := hid fun w' => hmay ▸ bMay (l.getD 9 0).toNat (l.getD 1 0).toNat ((l.getD 8 0).toNat : Int) w'
  have HNE := hid (show ¬ (W.heap.size = w.heap.size) by rw [← hW]; simp)
  generalize upN (l.getD 2 0).toNat (l.getD 3 0).toNat 0 0 2 = ID at *
  generalize upN (l.getD 4 0).toNat (l.getD 5 0).toNat (l.getD 6 0).toNat (l.getD 7 0).toNat 4 = SC at *
  generalize (l.getD 8 0).toNat = x8 at *
  generalize (l.getD 9 0).toNat = x9 at *
  generalize (l.getD 0 0).toNat = x0 at *
  generalize (l.getD 1 0).toNat = x1 at *
  have e8 : 8 ≤ c := by omega
  have e8' : (8 : Int) ≤ c := by omega
  have e4 : 4 ≤ c := by omega
  have e4' : (4 : Int) ≤ c := by omega
  have hc4 : ¬ c = 4 := by omega
  have hc8 : ¬ c = 8 := by omega
  have wx0 : IntKind.i64.wrap (x0 : Int) = x0 := by rw [IntKind.wrap_i64]; omega
  have wx1 : IntKind.i64.wrap (x1 : Int) = x1 := by rw [IntKind.wrap_i64]; omega
  have h30 : ((x0 : Int) == 3) = true := by rw [h3]; rfl
  clear h3
  have wx8 : IntKind.i64.wrap (x8 : Int) = x8 := by rw [IntKind.wrap_i64]; omega
  have wx9 : IntKind.i64.wrap (x9 : Int) = x9 := by rw [IntKind.wrap_i64]; omega
  have h8m : ((x8 : Int) == -1) = false := beq_eq_false_iff_ne.2 (by omega)
  clear h
  go_enter Try.func10, Try.ntmps10
  go_wp2
  go_quiet (fail)
  go_wp2
  refine wp_region_held_drew (S := fun w' => w'.cell? ⟨b, o, none⟩ = some (.int .u8 x0) ∧ W.grownBy w' none) (by kernel_rfl) ⟨c0, (grownBy_drewN W _ none).trans (grownBy_drew _ none)⟩ (fun hH => ?_)
  refine wpAnyH_take (i := 0) (v := ?v0) (by simp only [List.getElem?_toArray, List.getElem?_cons_zero, List.getElem?_cons_succ]; rfl) (by kernel_rfl) (by kernel_rfl) (by kernel_rfl) (by intro _ _ _ h; exact h) (Or.inl ⟨by rfl, ?y0⟩) (by assumption) ?r0
  case y0 =>
    intro WW hSw
    obtain ⟨hs0, hs1⟩ := hSw
    clear hs1
    go_simp
    try with_reducible rfl
  try dsimp only [Act.put]
  try simp only [List.setIfInBounds_toArray, List.set_cons_zero, List.set_cons_succ]
  refine wpAnyH_take (i := 1) (v := ?v1) (by simp only [List.getElem?_toArray, List.getElem?_cons_zero, List.getElem?_cons_succ]; rfl) (by kernel_rfl) (by kernel_rfl) (by kernel_rfl) (by intro _ _ _ h; exact h) (Or.inl ⟨by rfl, ?y1⟩) (by assumption) ?r1
  case y1 =>
    intro WW hSw
    obtain ⟨hs0, hs1⟩ := hSw
    clear hs1
    go_simp
    try with_reducible rfl
  try dsimp only [Act.put]
  try simp only [List.setIfInBounds_toArray, List.set_cons_zero, List.set_cons_succ]
  refine wpAnyH_take (i := 2) (v := ?v2) (by simp only [List.getElem?_toArray, List.getElem?_cons_zero, List.getElem?_cons_succ]; rfl) (by kernel_rfl) (by kernel_rfl) (by kernel_rfl) (by intro _ _ _ h; exact h) (Or.inl ⟨by rfl, ?y2⟩) (by assumption) ?r2
  case y2 =>
    intro WW hSw
    obtain ⟨hs0, hs1⟩ := hSw
    clear hs1
    go_simp
    try with_reducible rfl
  try dsimp only [Act.put]
  try simp only [List.setIfInBounds_toArray, List.set_cons_zero, List.set_cons_succ]
  refine wpAnyH_take (i := 3) (v := ?v3) (by simp only [List.getElem?_toArray, List.getElem?_cons_zero, List.getElem?_cons_succ]; rfl) (by kernel_rfl) (by kernel_rfl) (by kernel_rfl) (by intro _ _ _ h; exact h) (Or.inl ⟨by rfl, ?y3⟩) (by assumption) ?r3
  case y3 =>
    intro WW hSw
    obtain ⟨hs0, hs1⟩ := hSw
    clear hs1
    go_simp
    try with_reducible rfl
  try dsimp only [Act.put]
  try simp only [List.setIfInBounds_toArray, List.set_cons_zero, List.set_cons_succ]
  refine wpAnyH_take (i := 4) (v := ?v4) (by simp only [List.getElem?_toArray, List.getElem?_cons_zero, List.getElem?_cons_succ]; rfl) (by kernel_rfl) (by kernel_rfl) (by kernel_rfl) (by intro _ _ _ h; exact h) (Or.inl ⟨by rfl, ?y4⟩) (by assumption) ?r4
  case y4 =>
    intro WW hSw
    obtain ⟨hs0, hs1⟩ := hSw
    clear hs1
    go_simp
    try with_reducible rfl
  try dsimp only [Act.put]
  try simp only [List.setIfInBounds_toArray, List.set_cons_zero, List.set_cons_succ]
  refine wpAnyH_take (i := 6) (v := ?v6) (by simp only [List.getElem?_toArray, List.getElem?_cons_zero, List.getElem?_cons_succ]; rfl) (by kernel_rfl) (by kernel_rfl) (by kernel_rfl) (by intro _ _ _ h; exact h) (Or.inl ⟨by rfl, ?y6⟩) (by assumption) ?r6
  case y6 =>
    intro WW hSw
    obtain ⟨hs0, hs1⟩ := hSw
    clear hs1
    go_simp
    try with_reducible rfl
  try dsimp only [Act.put]
  try simp only [List.setIfInBounds_toArray, List.set_cons_zero, List.set_cons_succ]
  refine wpAnyH_take (i := 7) (v := ?v7) (by simp only [List.getElem?_toArray, List.getElem?_cons_zero, List.getElem?_cons_succ]; rfl) (by kernel_rfl) (by kernel_rfl) (by kernel_rfl) (by intro _ _ _ h; exact h) (Or.inl ⟨by rfl, ?y7⟩) (by assumption) ?r7
  case y7 =>
    intro WW hSw
    obtain ⟨hs0, hs1⟩ := hSw
    clear hs1
    go_simp
    try with_reducible rfl
  try dsimp only [Act.put]
  try simp only [List.setIfInBounds_toArray, List.set_cons_zero, List.set_cons_succ]
  refine wpAnyH_ready (rs := [5, 10]) (by kernel_rfl) (by simp) ?_
  refine AllReadyH.cons (by simp only [List.getElem?_toArray, List.getElem?_cons_zero, List.getElem?_cons_succ]; rfl) (fun K0 hK0 => ?_) ?_
  · go_simp
    go_at_call 31
    refine (HID.out _ (by repeat (first | exact grownBy_drewN W _ none | refine World.grownBy.trans ?_ (grownBy_drewN _ _ none) | refine World.grownBy.trans ?_ (World.grownBy_alloc _ _ none) | exact World.grownBy.refl W none))).mono ?_
    rintro e w' ⟨rfl, q1, rfl⟩
    try dsimp only
    refine hK0.out _ _ ⟨World.grownBy.cell (w := W) (by repeat (first | exact grownBy_drewN W _ none | refine World.grownBy.trans ?_ (grownBy_drewN _ _ none) | refine World.grownBy.trans ?_ (World.grownBy_alloc _ _ none) | exact World.grownBy.refl W none)) c0 (by simp), (by repeat (first | exact grownBy_drewN W _ none | refine World.grownBy.trans ?_ (grownBy_drewN _ _ none) | refine World.grownBy.trans ?_ (World.grownBy_alloc _ _ none) | exact World.grownBy.refl W none))⟩ (fun hH => ?_)
    clear hK0 K0
    try dsimp only [Act.put]
    try simp only [List.setIfInBounds_toArray, List.set_cons_zero, List.set_cons_succ]
    refine wpAnyH_ready (rs := [8, 10]) (by kernel_rfl) (by simp) ?_
    refine AllReadyH.cons (by simp only [List.getElem?_toArray, List.getElem?_cons_zero, List.getElem?_cons_succ]; rfl) (fun K0 hK0 => ?_) ?_
    · go_simp
      go_at_call 32
      refine (HNM.out _ (by repeat (first | exact grownBy_drewN W _ none | refine World.grownBy.trans ?_ (grownBy_drewN _ _ none) | refine World.grownBy.trans ?_ (World.grownBy_alloc _ _ none) | exact World.grownBy.refl W none))).mono ?_
      rintro e w' ⟨rfl, q2, rfl⟩
      try dsimp only
      refine hK0.out _ _ ⟨World.grownBy.cell (w := W) (by repeat (first | exact grownBy_drewN W _ none | refine World.grownBy.trans ?_ (grownBy_drewN _ _ none) | refine World.grownBy.trans ?_ (World.grownBy_alloc _ _ none) | exact World.grownBy.refl W none)) c0 (by simp), (by repeat (first | exact grownBy_drewN W _ none | refine World.grownBy.trans ?_ (grownBy_drewN _ _ none) | refine World.grownBy.trans ?_ (World.grownBy_alloc _ _ none) | exact World.grownBy.refl W none))⟩ (fun hH => ?_)
      clear hK0 K0
      try dsimp only [Act.put]
      try simp only [List.setIfInBounds_toArray, List.set_cons_zero, List.set_cons_succ]
      refine wpAnyH_take (i := 9) (v := ?v9a) (by simp only [List.getElem?_toArray, List.getElem?_cons_zero, List.getElem?_cons_succ]; rfl) (by kernel_rfl) (by kernel_rfl) (by kernel_rfl) (by intro _ _ _ h; exact h) (Or.inl ⟨by rfl, ?y9a⟩) (by assumption) ?r9a
      case y9a =>
        intro WW hSw
        obtain ⟨hs0, hs1⟩ := hSw
        clear hs1
        go_simp
        try with_reducible rfl
      try dsimp only [Act.put]
      try simp only [List.setIfInBounds_toArray, List.set_cons_zero, List.set_cons_succ]
      refine wpAnyH_ready (rs := [10]) (by kernel_rfl) (by simp) ?_
      refine AllReadyH.cons (by simp only [List.getElem?_toArray, List.getElem?_cons_zero, List.getElem?_cons_succ]; rfl) (fun K0 hK0 => ?_) AllReadyH.nil
      go_simp
      refine hK0.out _ _ ⟨World.grownBy.cell (w := W) (by repeat (first | exact grownBy_drewN W _ none | refine World.grownBy.trans ?_ (grownBy_drewN _ _ none) | refine World.grownBy.trans ?_ (World.grownBy_alloc _ _ none) | exact World.grownBy.refl W none)) c0 (by simp), (by repeat (first | exact grownBy_drewN W _ none | refine World.grownBy.trans ?_ (grownBy_drewN _ _ none) | refine World.grownBy.trans ?_ (World.grownBy_alloc _ _ none) | exact World.grownBy.refl W none))⟩ (fun hH => ?_)
      clear hK0 K0
      try dsimp only [Act.put]
      try simp only [List.setIfInBounds_toArray, List.set_cons_zero, List.set_cons_succ]
      have RA : Row ((W.drewN (nq + 1 + q1 + q2)).alloc (.cells #[.int .i64 0, .int .i64 0, .int .i64 0, .slice none 0 0] 24)) W.heap.size 24 4 (rqV (.int .i64 0) (.int .i64 0) (.int .i64 0) (.slice none 0 0)) := rowQ (w := W.drewN (nq + 1 + q1 + q2)) rfl
      have GA : W.grownBy ((W.drewN (nq + 1 + q1 + q2)).alloc (.cells #[.int .i64 0, .int .i64 0, .int .i64 0, .slice none 0 0] 24)) none := (by repeat (first | exact grownBy_drewN W _ none | refine World.grownBy.trans ?_ (grownBy_drewN _ _ none) | refine World.grownBy.trans ?_ (World.grownBy_alloc _ _ none) | exact World.grownBy.refl W none))
      generalize hA : (W.drewN (nq + 1 + q1 + q2)).alloc (.cells #[.int .i64 0, .int .i64 0, .int .i64 0, .slice none 0 0] 24) = A at RA GA hH ⊢
      clear hA
      have z0 := RA.cell (k := 0) (by omega); have z1 := RA.cell (k := 1) (by omega); have z2 := RA.cell (k := 2) (by omega); have z3 := RA.cell (k := 3) (by omega); have zz := RA.frozen
      simp only [rqV] at z0 z1 z2 z3
      have RB := set4 RA (.int .i64 x0) (.int .i64 ID) (.int .i64 SC) (.slice none 0 0)
      have GB := GA.andThen (set4_grown A W.heap.size (.int .i64 x0) (.int .i64 ID) (.int .i64 SC) (.slice none 0 0)) (fun j e => .inl (by cases e; exact Nat.le_refl _))
      have hRB := hid RB; have hGB := hid GB
      refine wpAnyH_ready (rs := [11]) (by kernel_rfl) (by simp) ?_
      refine AllReadyH.cons (by simp only [List.getElem?_toArray, List.getElem?_cons_zero, List.getElem?_cons_succ]; rfl) (fun K0 hK0 => ?_) AllReadyH.nil
      clear RB GB
      go_simp
      refine hK0.out _ _ ⟨hGB.out.cell c0 (by simp), hGB.out⟩ (fun hH => ?_)
      clear hK0 K0
      try dsimp only [Act.put]
      try simp only [List.setIfInBounds_toArray, List.set_cons_zero, List.set_cons_succ]
      refine wpAnyH_done (by kernel_rfl) ?_ _
      generalize (((A.setCell ⟨W.heap.size, 0, none⟩ (.int .i64 x0)).setCell ⟨W.heap.size, 1, none⟩ (.int .i64 ID)).setCell ⟨W.heap.size, 2, none⟩ (.int .i64 SC)).setCell ⟨W.heap.size, 3, none⟩ (.slice none 0 0) = A2 at hRB hGB hH ⊢
      clear z0 z1 z2 z3 zz RA GA hH
      have hRR := hid (HR0.out.grown hGB.out (by simp))
      have r0 := hRB.out.cell (k := 0) (by omega); have r1 := hRB.out.cell (k := 1) (by omega); have r2 := hRB.out.cell (k := 2) (by omega); have r3 := hRB.out.cell (k := 3) (by omega); have rz := hRB.out.frozen
      have s0 := hRR.out.cell (k := 0) (by omega); have s1 := hRR.out.cell (k := 1) (by omega); have s2 := hRR.out.cell (k := 2) (by omega); have s3 := hRR.out.cell (k := 3) (by omega); have sz := hRR.out.frozen
      simp only [rqV] at r0 r1 r2 r3 s0 s1 s2 s3
      have d8 := hGB.out.cell HC8.out (by simp)
      have d9 := hGB.out.cell HC9.out (by simp)
      go_wp2
      refine wp_region_held_drew (S := fun w' => w'.cell? ⟨b, o + 8, none⟩ = some (.int .u8 x8) ∧ w'.cell? ⟨b, o + 9, none⟩ = some (.int .u8 x9) ∧ W.grownBy w' none) (by kernel_rfl) ⟨d8, d9, hGB.out.trans (grownBy_drew _ none)⟩ (fun hH => ?_)
      refine wpAnyH_take (i := 0) (v := ?v0z1) (by simp only [List.getElem?_toArray, List.getElem?_cons_zero, List.getElem?_cons_succ]; rfl) (by kernel_rfl) (by kernel_rfl) (by kernel_rfl) (by intro _ _ _ h; exact h) (Or.inl ⟨by rfl, ?y0z1⟩) (by assumption) ?r0z1
      case y0z1 =>
        intro WW hSw
        obtain ⟨hs0, hs1, hs2⟩ := hSw
        clear hs2
        go_simp
        try with_reducible rfl
      try dsimp only [Act.put]
      try simp only [List.setIfInBounds_toArray, List.set_cons_zero, List.set_cons_succ]
      refine wpAnyH_take (i := 1) (v := ?v1z1) (by simp only [List.getElem?_toArray, List.getElem?_cons_zero, List.getElem?_cons_succ]; rfl) (by kernel_rfl) (by kernel_rfl) (by kernel_rfl) (by intro _ _ _ h; exact h) (Or.inl ⟨by rfl, ?y1z1⟩) (by assumption) ?r1z1
      case y1z1 =>
        intro WW hSw
        obtain ⟨hs0, hs1, hs2⟩ := hSw
        clear hs2
        go_simp
        try with_reducible rfl
      try dsimp only [Act.put]
      try simp only [List.setIfInBounds_toArray, List.set_cons_zero, List.set_cons_succ]
      refine wpAnyH_take (i := 2) (v := ?v2z1) (by simp only [List.getElem?_toArray, List.getElem?_cons_zero, List.getElem?_cons_succ]; rfl) (by kernel_rfl) (by kernel_rfl) (by kernel_rfl) (by intro _ _ _ h; exact h) (Or.inl ⟨by rfl, ?y2z1⟩) (by assumption) ?r2z1
      case y2z1 =>
        intro WW hSw
        obtain ⟨hs0, hs1, hs2⟩ := hSw
        clear hs2
        go_simp
        try with_reducible rfl
      try dsimp only [Act.put]
      try simp only [List.setIfInBounds_toArray, List.set_cons_zero, List.set_cons_succ]
      refine wpAnyH_take (i := 3) (v := ?v3z1) (by simp only [List.getElem?_toArray, List.getElem?_cons_zero, List.getElem?_cons_succ]; rfl) (by kernel_rfl) (by kernel_rfl) (by kernel_rfl) (by intro _ _ _ h; exact h) (Or.inl ⟨by rfl, ?y3z1⟩) (by assumption) ?r3z1
      case y3z1 =>
        intro WW hSw
        obtain ⟨hs0, hs1, hs2⟩ := hSw
        clear hs2
        go_simp
        try with_reducible rfl
      try dsimp only [Act.put]
      try simp only [List.setIfInBounds_toArray, List.set_cons_zero, List.set_cons_succ]
      refine wpAnyH_take (i := 4) (v := ?v4z1) (by simp only [List.getElem?_toArray, List.getElem?_cons_zero, List.getElem?_cons_succ]; rfl) (by kernel_rfl) (by kernel_rfl) (by kernel_rfl) (by intro _ _ _ h; exact h) (Or.inl ⟨by rfl, ?y4z1⟩) (by assumption) ?r4z1
      case y4z1 =>
        intro WW hSw
        obtain ⟨hs0, hs1, hs2⟩ := hSw
        clear hs2
        go_simp
        try with_reducible rfl
      try dsimp only [Act.put]
      try simp only [List.setIfInBounds_toArray, List.set_cons_zero, List.set_cons_succ]
      refine wpAnyH_take (i := 5) (v := ?v5z1) (by simp only [List.getElem?_toArray, List.getElem?_cons_zero, List.getElem?_cons_succ]; rfl) (by kernel_rfl) (by kernel_rfl) (by kernel_rfl) (by intro _ _ _ h; exact h) (Or.inl ⟨by rfl, ?y5z1⟩) (by assumption) ?r5z1
      case y5z1 =>
        intro WW hSw
        obtain ⟨hs0, hs1, hs2⟩ := hSw
        clear hs2
        go_simp
        try with_reducible rfl
      try dsimp only [Act.put]
      try simp only [List.setIfInBounds_toArray, List.set_cons_zero, List.set_cons_succ]
      refine wpAnyH_take (i := 6) (v := ?v6z1) (by simp only [List.getElem?_toArray, List.getElem?_cons_zero, List.getElem?_cons_succ]; rfl) (by kernel_rfl) (by kernel_rfl) (by kernel_rfl) (by intro _ _ _ h; exact h) (Or.inl ⟨by rfl, ?y6z1⟩) (by assumption) ?r6z1
      case y6z1 =>
        intro WW hSw
        obtain ⟨hs0, hs1, hs2⟩ := hSw
        clear hs2
        go_simp
        try with_reducible rfl
      try dsimp only [Act.put]
      try simp only [List.setIfInBounds_toArray, List.set_cons_zero, List.set_cons_succ]
      refine wpAnyH_take (i := 7) (v := ?v7z1) (by simp only [List.getElem?_toArray, List.getElem?_cons_zero, List.getElem?_cons_succ]; rfl) (by kernel_rfl) (by kernel_rfl) (by kernel_rfl) (by intro _ _ _ h; exact h) (Or.inl ⟨by rfl, ?y7z1⟩) (by assumption) ?r7z1
      case y7z1 =>
        intro WW hSw
        obtain ⟨hs0, hs1, hs2⟩ := hSw
        clear hs2
        go_simp
        try with_reducible rfl
      try dsimp only [Act.put]
      try simp only [List.setIfInBounds_toArray, List.set_cons_zero, List.set_cons_succ]
      refine wpAnyH_take (i := 8) (v := ?v8z1) (by simp only [List.getElem?_toArray, List.getElem?_cons_zero, List.getElem?_cons_succ]; rfl) (by kernel_rfl) (by kernel_rfl) (by kernel_rfl) (by intro _ _ _ h; exact h) (Or.inl ⟨by rfl, ?y8z1⟩) (by assumption) ?r8z1
      case y8z1 =>
        intro WW hSw
        obtain ⟨hs0, hs1, hs2⟩ := hSw
        clear hs2
        go_simp
        try with_reducible rfl
      try dsimp only [Act.put]
      try simp only [List.setIfInBounds_toArray, List.set_cons_zero, List.set_cons_succ]
      refine wpAnyH_take (i := 9) (v := ?v9z1) (by simp only [List.getElem?_toArray, List.getElem?_cons_zero, List.getElem?_cons_succ]; rfl) (by kernel_rfl) (by kernel_rfl) (by kernel_rfl) (by intro _ _ _ h; exact h) (Or.inl ⟨by rfl, ?y9z1⟩) (by assumption) ?r9z1
      case y9z1 =>
        intro WW hSw
        obtain ⟨hs0, hs1, hs2⟩ := hSw
        clear hs2
        go_simp
        try with_reducible rfl
      try dsimp only [Act.put]
      try simp only [List.setIfInBounds_toArray, List.set_cons_zero, List.set_cons_succ]
      refine wpAnyH_ready (rs := [10]) (by kernel_rfl) (by simp) ?_
      refine AllReadyH.cons (by simp only [List.getElem?_toArray, List.getElem?_cons_zero, List.getElem?_cons_succ]; rfl) (fun K0 hK0 => ?_) AllReadyH.nil
      go_simp
      have GT := hid (show W.grownBy (A2.setCell ⟨W.heap.size, 0, none⟩ (.int .i64 x9)).drew none from (hGB.out.andThen (grownBy_setCell _ W.heap.size 0 none _) (fun j e => .inl (by cases e; exact Nat.le_refl _))).trans (grownBy_drew _ none))
      have RT : Hid (Row (A2.setCell ⟨W.heap.size, 0, none⟩ (.int .i64 x9)).drew W.heap.size 24 4 (rqV (.int .i64 x9) (.int .i64 ID) (.int .i64 SC) (.slice none 0 0))) := hid (Row.grown (hRB.out.set (k := 0) (v := .int .i64 x9) (X' := rqV (.int .i64 x9) (.int .i64 ID) (.int .i64 SC) (.slice none 0 0)) rfl (fun j _ hj => by match j, hj with | 0, hj => exact absurd rfl hj | 1, _ => rfl | 2, _ => rfl | (_ + 3), _ => rfl)) (grownBy_drew _ none) (by simp))
      refine hK0.out _ _ ⟨GT.out.cell HC8.out (by simp), GT.out.cell HC9.out (by simp), GT.out⟩ (fun hH => ?_)
      clear hK0 K0
      try dsimp only [Act.put]
      try simp only [List.setIfInBounds_toArray, List.set_cons_zero, List.set_cons_succ]
      refine wpAnyH_done (by kernel_rfl) ?_ _
      generalize (A2.setCell ⟨W.heap.size, 0, none⟩ (.int .i64 x9)).drew = A3 at RT GT hH ⊢
      clear hH r0 r1 r2 r3 s0 s1 s2 s3 rz sz d8 d9
      have hRR3 := hid (HR0.out.grown GT.out (by simp))
      have r0 := RT.out.cell (k := 0) (by omega); have r1 := RT.out.cell (k := 1) (by omega); have r2 := RT.out.cell (k := 2) (by omega); have r3 := RT.out.cell (k := 3) (by omega); have rz := RT.out.frozen
      have s0 := hRR3.out.cell (k := 0) (by omega); have s1 := hRR3.out.cell (k := 1) (by omega); have s2 := hRR3.out.cell (k := 2) (by omega); have s3 := hRR3.out.cell (k := 3) (by omega); have sz := hRR3.out.frozen
      simp only [rqV] at r0 r1 r2 r3 s0 s1 s2 s3
      have hne1 : ¬ (W.heap.size = w.heap.size) := HNE.out
      have hne2 : ¬ (w.heap.size = W.heap.size) := fun e => HNE.out e.symm
      go_wp2_with (go_at_call 24; refine (HM.out _).mono ?_; rintro e w' ⟨rfl, rfl⟩)
      have RF := set4 (hRR3.out) (.int .i64 x9) (.int .i64 ID) (.int .i64 SC) (.slice none 0 0)
      have GF := (HG0.out.trans GT.out).andThen (set4_grown A3 w.heap.size (.int .i64 x9) (.int .i64 ID) (.int .i64 SC) (.slice none 0 0)) (fun j e => .inl (by cases e; exact Nat.le_refl _))
      skip
      generalize (((A3.setCell ⟨w.heap.size, 0, none⟩ (.int .i64 x9)).setCell ⟨w.heap.size, 1, none⟩ (.int .i64 ID)).setCell ⟨w.heap.size, 2, none⟩ (.int .i64 SC)).setCell ⟨w.heap.size, 3, none⟩ (.slice none 0 0) = A9 at RF GF ⊢
      have f0 := RF.cell (k := 0) (by omega); have f1 := RF.cell (k := 1) (by omega); have f2 := RF.cell (k := 2) (by omega); have f3 := RF.cell (k := 3) (by omega)
      simp only [rqV] at f0 f1 f2 f3
      refine bodyPost_ret (v := .tuple #[.agg #[.int .i64 x9, .int .i64 ID, .int .i64 SC, .slice none 0 0], .int .i64 x8, .int .i64 x1, .int .i64 0]) (by simp [results, Try.results10, go_sem, f0, f1, f2, f3]) rfl ?_
      exact ⟨rfl, GF⟩
    · refine AllReadyH.cons (by simp only [List.getElem?_toArray, List.getElem?_cons_zero, List.getElem?_cons_succ]; rfl) (fun K0 hK0 => ?_) AllReadyH.nil
      go_simp
      refine hK0.out _ _ ⟨World.grownBy.cell (w := W) (by repeat (first | exact grownBy_drewN W _ none | refine World.grownBy.trans ?_ (grownBy_drewN _ _ none) | refine World.grownBy.trans ?_ (World.grownBy_alloc _ _ none) | exact World.grownBy.refl W none)) c0 (by simp), (by repeat (first | exact grownBy_drewN W _ none | refine World.grownBy.trans ?_ (grownBy_drewN _ _ none) | refine World.grownBy.trans ?_ (World.grownBy_alloc _ _ none) | exact World.grownBy.refl W none))⟩ (fun hH => ?_)
      clear hK0 K0
      try dsimp only [Act.put]
      try simp only [List.setIfInBounds_toArray, List.set_cons_zero, List.set_cons_succ]
      refine wpAnyH_ready (rs := [8]) (by kernel_rfl) (by simp) ?_
      refine AllReadyH.cons (by simp only [List.getElem?_toArray, List.getElem?_cons_zero, List.getElem?_cons_succ]; rfl) (fun K0 hK0 => ?_) AllReadyH.nil
      go_simp
      go_at_call 32
      refine (HNM.out _ (by repeat (first | exact grownBy_drewN W _ none | refine World.grownBy.trans ?_ (grownBy_drewN _ _ none) | refine World.grownBy.trans ?_ (World.grownBy_alloc _ _ none) | exact World.grownBy.refl W none))).mono ?_
      rintro e w' ⟨rfl, q2, rfl⟩
      try dsimp only
      refine hK0.out _ _ ⟨World.grownBy.cell (w := W) (by repeat (first | exact grownBy_drewN W _ none | refine World.grownBy.trans ?_ (grownBy_drewN _ _ none) | refine World.grownBy.trans ?_ (World.grownBy_alloc _ _ none) | exact World.grownBy.refl W none)) c0 (by simp), (by repeat (first | exact grownBy_drewN W _ none | refine World.grownBy.trans ?_ (grownBy_drewN _ _ none) | refine World.grownBy.trans ?_ (World.grownBy_alloc _ _ none) | exact World.grownBy.refl W none))⟩ (fun hH => ?_)
      clear hK0 K0
      try dsimp only [Act.put]
      try simp only [List.setIfInBounds_toArray, List.set_cons_zero, List.set_cons_succ]
      refine wpAnyH_take (i := 9) (v := ?v9b) (by simp only [List.getElem?_toArray, List.getElem?_cons_zero, List.getElem?_cons_succ]; rfl) (by kernel_rfl) (by kernel_rfl) (by kernel_rfl) (by intro _ _ _ h; exact h) (Or.inl ⟨by rfl, ?y9b⟩) (by assumption) ?r9b
      case y9b =>
        intro WW hSw
        obtain ⟨hs0, hs1⟩ := hSw
        clear hs1
        go_simp
        try with_reducible rfl
      try dsimp only [Act.put]
      try simp only [List.setIfInBounds_toArray, List.set_cons_zero, List.set_cons_succ]
      have RA : Row (((W.drewN (nq + 1 + q1)).alloc (.cells #[.int .i64 0, .int .i64 0, .int .i64 0, .slice none 0 0] 24)).drewN q2) W.heap.size 24 4 (rqV (.int .i64 0) (.int .i64 0) (.int .i64 0) (.slice none 0 0)) := Row.grown (rowQ (w := W.drewN (nq + 1 + q1)) rfl) (grownBy_drewN _ q2 none) (by simp)
      have GA : W.grownBy (((W.drewN (nq + 1 + q1)).alloc (.cells #[.int .i64 0, .int .i64 0, .int .i64 0, .slice none 0 0] 24)).drewN q2) none := (by repeat (first | exact grownBy_drewN W _ none | refine World.grownBy.trans ?_ (grownBy_drewN _ _ none) | refine World.grownBy.trans ?_ (World.grownBy_alloc _ _ none) | exact World.grownBy.refl W none))
      generalize hA : ((W.drewN (nq + 1 + q1)).alloc (.cells #[.int .i64 0, .int .i64 0, .int .i64 0, .slice none 0 0] 24)).drewN q2 = A at RA GA hH ⊢
      clear hA
      have z0 := RA.cell (k := 0) (by omega); have z1 := RA.cell (k := 1) (by omega); have z2 := RA.cell (k := 2) (by omega); have z3 := RA.cell (k := 3) (by omega); have zz := RA.frozen
      simp only [rqV] at z0 z1 z2 z3
      have RB := set4 RA (.int .i64 x0) (.int .i64 ID) (.int .i64 SC) (.slice none 0 0)
      have GB := GA.andThen (set4_grown A W.heap.size (.int .i64 x0) (.int .i64 ID) (.int .i64 SC) (.slice none 0 0)) (fun j e => .inl (by cases e; exact Nat.le_refl _))
      have hRB := hid RB; have hGB := hid GB
      refine wpAnyH_ready (rs := [11]) (by kernel_rfl) (by simp) ?_
      refine AllReadyH.cons (by simp only [List.getElem?_toArray, List.getElem?_cons_zero, List.getElem?_cons_succ]; rfl) (fun K0 hK0 => ?_) AllReadyH.nil
      clear RB GB
      go_simp
      refine hK0.out _ _ ⟨hGB.out.cell c0 (by simp), hGB.out⟩ (fun hH => ?_)
      clear hK0 K0
      try dsimp only [Act.put]
      try simp only [List.setIfInBounds_toArray, List.set_cons_zero, List.set_cons_succ]
      refine wpAnyH_done (by kernel_rfl) ?_ _
      generalize (((A.setCell ⟨W.heap.size, 0, none⟩ (.int .i64 x0)).setCell ⟨W.heap.size, 1, none⟩ (.int .i64 ID)).setCell ⟨W.heap.size, 2, none⟩ (.int .i64 SC)).setCell ⟨W.heap.size, 3, none⟩ (.slice none 0 0) = A2 at hRB hGB hH ⊢
      clear z0 z1 z2 z3 zz RA GA hH
      have hRR := hid (HR0.out.grown hGB.out (by simp))
      have r0 := hRB.out.cell (k := 0) (by omega); have r1 := hRB.out.cell (k := 1) (by omega); have r2 := hRB.out.cell (k := 2) (by omega); have r3 := hRB.out.cell (k := 3) (by omega); have rz := hRB.out.frozen
      have s0 := hRR.out.cell (k := 0) (by omega); have s1 := hRR.out.cell (k := 1) (by omega); have s2 := hRR.out.cell (k := 2) (by omega); have s3 := hRR.out.cell (k := 3) (by omega); have sz := hRR.out.frozen
      simp only [rqV] at r0 r1 r2 r3 s0 s1 s2 s3
      have d8 := hGB.out.cell HC8.out (by simp)
      have d9 := hGB.out.cell HC9.out (by simp)
      go_wp2
      refine wp_region_held_drew (S := fun w' => w'.cell? ⟨b, o + 8, none⟩ = some (.int .u8 x8) ∧ w'.cell? ⟨b, o + 9, none⟩ = some (.int .u8 x9) ∧ W.grownBy w' none) (by kernel_rfl) ⟨d8, d9, hGB.out.trans (grownBy_drew _ none)⟩ (fun hH => ?_)
      refine wpAnyH_take (i := 0) (v := ?v0z2) (by simp only [List.getElem?_toArray, List.getElem?_cons_zero, List.getElem?_cons_succ]; rfl) (by kernel_rfl) (by kernel_rfl) (by kernel_rfl) (by intro _ _ _ h; exact h) (Or.inl ⟨by rfl, ?y0z2⟩) (by assumption) ?r0z2
      case y0z2 =>
        intro WW hSw
        obtain ⟨hs0, hs1, hs2⟩ := hSw
        clear hs2
        go_simp
        try with_reducible rfl
      try dsimp only [Act.put]
      try simp only [List.setIfInBounds_toArray, List.set_cons_zero, List.set_cons_succ]
      refine wpAnyH_take (i := 1) (v := ?v1z2) (by simp only [List.getElem?_toArray, List.getElem?_cons_zero, List.getElem?_cons_succ]; rfl) (by kernel_rfl) (by kernel_rfl) (by kernel_rfl) (by intro _ _ _ h; exact h) (Or.inl ⟨by rfl, ?y1z2⟩) (by assumption) ?r1z2
      case y1z2 =>
        intro WW hSw
        obtain ⟨hs0, hs1, hs2⟩ := hSw
        clear hs2
        go_simp
        try with_reducible rfl
      try dsimp only [Act.put]
      try simp only [List.setIfInBounds_toArray, List.set_cons_zero, List.set_cons_succ]
      refine wpAnyH_take (i := 2) (v := ?v2z2) (by simp only [List.getElem?_toArray, List.getElem?_cons_zero, List.getElem?_cons_succ]; rfl) (by kernel_rfl) (by kernel_rfl) (by kernel_rfl) (by intro _ _ _ h; exact h) (Or.inl ⟨by rfl, ?y2z2⟩) (by assumption) ?r2z2
      case y2z2 =>
        intro WW hSw
        obtain ⟨hs0, hs1, hs2⟩ := hSw
        clear hs2
        go_simp
        try with_reducible rfl
      try dsimp only [Act.put]
      try simp only [List.setIfInBounds_toArray, List.set_cons_zero, List.set_cons_succ]
      refine wpAnyH_take (i := 3) (v := ?v3z2) (by simp only [List.getElem?_toArray, List.getElem?_cons_zero, List.getElem?_cons_succ]; rfl) (by kernel_rfl) (by kernel_rfl) (by kernel_rfl) (by intro _ _ _ h; exact h) (Or.inl ⟨by rfl, ?y3z2⟩) (by assumption) ?r3z2
      case y3z2 =>
        intro WW hSw
        obtain ⟨hs0, hs1, hs2⟩ := hSw
        clear hs2
        go_simp
        try with_reducible rfl
      try dsimp only [Act.put]
      try simp only [List.setIfInBounds_toArray, List.set_cons_zero, List.set_cons_succ]
      refine wpAnyH_take (i := 4) (v := ?v4z2) (by simp only [List.getElem?_toArray, List.getElem?_cons_zero, List.getElem?_cons_succ]; rfl) (by kernel_rfl) (by kernel_rfl) (by kernel_rfl) (by intro _ _ _ h; exact h) (Or.inl ⟨by rfl, ?y4z2⟩) (by assumption) ?r4z2
      case y4z2 =>
        intro WW hSw
        obtain ⟨hs0, hs1, hs2⟩ := hSw
        clear hs2
        go_simp
        try with_reducible rfl
      try dsimp only [Act.put]
      try simp only [List.setIfInBounds_toArray, List.set_cons_zero, List.set_cons_succ]
      refine wpAnyH_take (i := 5) (v := ?v5z2) (by simp only [List.getElem?_toArray, List.getElem?_cons_zero, List.getElem?_cons_succ]; rfl) (by kernel_rfl) (by kernel_rfl) (by kernel_rfl) (by intro _ _ _ h; exact h) (Or.inl ⟨by rfl, ?y5z2⟩) (by assumption) ?r5z2
      case y5z2 =>
        intro WW hSw
        obtain ⟨hs0, hs1, hs2⟩ := hSw
        clear hs2
        go_simp
        try with_reducible rfl
      try dsimp only [Act.put]
      try simp only [List.setIfInBounds_toArray, List.set_cons_zero, List.set_cons_succ]
      refine wpAnyH_take (i := 6) (v := ?v6z2) (by simp only [List.getElem?_toArray, List.getElem?_cons_zero, List.getElem?_cons_succ]; rfl) (by kernel_rfl) (by kernel_rfl) (by kernel_rfl) (by intro _ _ _ h; exact h) (Or.inl ⟨by rfl, ?y6z2⟩) (by assumption) ?r6z2
      case y6z2 =>
        intro WW hSw
        obtain ⟨hs0, hs1, hs2⟩ := hSw
        clear hs2
        go_simp
        try with_reducible rfl
      try dsimp only [Act.put]
      try simp only [List.setIfInBounds_toArray, List.set_cons_zero, List.set_cons_succ]
      refine wpAnyH_take (i := 7) (v := ?v7z2) (by simp only [List.getElem?_toArray, List.getElem?_cons_zero, List.getElem?_cons_succ]; rfl) (by kernel_rfl) (by kernel_rfl) (by kernel_rfl) (by intro _ _ _ h; exact h) (Or.inl ⟨by rfl, ?y7z2⟩) (by assumption) ?r7z2
      case y7z2 =>
        intro WW hSw
        obtain ⟨hs0, hs1, hs2⟩ := hSw
        clear hs2
        go_simp
        try with_reducible rfl
      try dsimp only [Act.put]
      try simp only [List.setIfInBounds_toArray, List.set_cons_zero, List.set_cons_succ]
      refine wpAnyH_take (i := 8) (v := ?v8z2) (by simp only [List.getElem?_toArray, List.getElem?_cons_zero, List.getElem?_cons_succ]; rfl) (by kernel_rfl) (by kernel_rfl) (by kernel_rfl) (by intro _ _ _ h; exact h) (Or.inl ⟨by rfl, ?y8z2⟩) (by assumption) ?r8z2
      case y8z2 =>
        intro WW hSw
        obtain ⟨hs0, hs1, hs2⟩ := hSw
        clear hs2
        go_simp
        try with_reducible rfl
      try dsimp only [Act.put]
      try simp only [List.setIfInBounds_toArray, List.set_cons_zero, List.set_cons_succ]
      refine wpAnyH_take (i := 9) (v := ?v9z2) (by simp only [List.getElem?_toArray, List.getElem?_cons_zero, List.getElem?_cons_succ]; rfl) (by kernel_rfl) (by kernel_rfl) (by kernel_rfl) (by intro _ _ _ h; exact h) (Or.inl ⟨by rfl, ?y9z2⟩) (by assumption) ?r9z2
      case y9z2 =>
        intro WW hSw
        obtain ⟨hs0, hs1, hs2⟩ := hSw
        clear hs2
        go_simp
        try with_reducible rfl
      try dsimp only [Act.put]
      try simp only [List.setIfInBounds_toArray, List.set_cons_zero, List.set_cons_succ]
      refine wpAnyH_ready (rs := [10]) (by kernel_rfl) (by simp) ?_
      refine AllReadyH.cons (by simp only [List.getElem?_toArray, List.getElem?_cons_zero, List.getElem?_cons_succ]; rfl) (fun K0 hK0 => ?_) AllReadyH.nil
      go_simp
      have GT := hid (show W.grownBy (A2.setCell ⟨W.heap.size, 0, none⟩ (.int .i64 x9)).drew none from (hGB.out.andThen (grownBy_setCell _ W.heap.size 0 none _) (fun j e => .inl (by cases e; exact Nat.le_refl _))).trans (grownBy_drew _ none))
      have RT : Hid (Row (A2.setCell ⟨W.heap.size, 0, none⟩ (.int .i64 x9)).drew W.heap.size 24 4 (rqV (.int .i64 x9) (.int .i64 ID) (.int .i64 SC) (.slice none 0 0))) := hid (Row.grown (hRB.out.set (k := 0) (v := .int .i64 x9) (X' := rqV (.int .i64 x9) (.int .i64 ID) (.int .i64 SC) (.slice none 0 0)) rfl (fun j _ hj => by match j, hj with | 0, hj => exact absurd rfl hj | 1, _ => rfl | 2, _ => rfl | (_ + 3), _ => rfl)) (grownBy_drew _ none) (by simp))
      refine hK0.out _ _ ⟨GT.out.cell HC8.out (by simp), GT.out.cell HC9.out (by simp), GT.out⟩ (fun hH => ?_)
      clear hK0 K0
      try dsimp only [Act.put]
      try simp only [List.setIfInBounds_toArray, List.set_cons_zero, List.set_cons_succ]
      refine wpAnyH_done (by kernel_rfl) ?_ _
      generalize (A2.setCell ⟨W.heap.size, 0, none⟩ (.int .i64 x9)).drew = A3 at RT GT hH ⊢
      clear hH r0 r1 r2 r3 s0 s1 s2 s3 rz sz d8 d9
      have hRR3 := hid (HR0.out.grown GT.out (by simp))
      have r0 := RT.out.cell (k := 0) (by omega); have r1 := RT.out.cell (k := 1) (by omega); have r2 := RT.out.cell (k := 2) (by omega); have r3 := RT.out.cell (k := 3) (by omega); have rz := RT.out.frozen
      have s0 := hRR3.out.cell (k := 0) (by omega); have s1 := hRR3.out.cell (k := 1) (by omega); have s2 := hRR3.out.cell (k := 2) (by omega); have s3 := hRR3.out.cell (k := 3) (by omega); have sz := hRR3.out.frozen
      simp only [rqV] at r0 r1 r2 r3 s0 s1 s2 s3
      have hne1 : ¬ (W.heap.size = w.heap.size) := HNE.out
      have hne2 : ¬ (w.heap.size = W.heap.size) := fun e => HNE.out e.symm
      go_wp2_with (go_at_call 24; refine (HM.out _).mono ?_; rintro e w' ⟨rfl, rfl⟩)
      have RF := set4 (hRR3.out) (.int .i64 x9) (.int .i64 ID) (.int .i64 SC) (.slice none 0 0)
      have GF := (HG0.out.trans GT.out).andThen (set4_grown A3 w.heap.size (.int .i64 x9) (.int .i64 ID) (.int .i64 SC) (.slice none 0 0)) (fun j e => .inl (by cases e; exact Nat.le_refl _))
      skip
      generalize (((A3.setCell ⟨w.heap.size, 0, none⟩ (.int .i64 x9)).setCell ⟨w.heap.size, 1, none⟩ (.int .i64 ID)).setCell ⟨w.heap.size, 2, none⟩ (.int .i64 SC)).setCell ⟨w.heap.size, 3, none⟩ (.slice none 0 0) = A9 at RF GF ⊢
      have f0 := RF.cell (k := 0) (by omega); have f1 := RF.cell (k := 1) (by omega); have f2 := RF.cell (k := 2) (by omega); have f3 := RF.cell (k := 3) (by omega)
      simp only [rqV] at f0 f1 f2 f3
      refine bodyPost_ret (v := .tuple #[.agg #[.int .i64 x9, .int .i64 ID, .int .i64 SC, .slice none 0 0], .int .i64 x8, .int .i64 x1, .int .i64 0]) (by simp [results, Try.results10, go_sem, f0, f1, f2, f3]) rfl ?_
      exact ⟨rfl, GF⟩
  · refine AllReadyH.cons (by simp only [List.getElem?_toArray, List.getElem?_cons_zero, List.getElem?_cons_succ]; rfl) (fun K0 hK0 => ?_) AllReadyH.nil
    go_simp
    refine hK0.out _ _ ⟨World.grownBy.cell (w := W) (by repeat (first | exact grownBy_drewN W _ none | refine World.grownBy.trans ?_ (grownBy_drewN _ _ none) | refine World.grownBy.trans ?_ (World.grownBy_alloc _ _ none) | exact World.grownBy.refl W none)) c0 (by simp), (by repeat (first | exact grownBy_drewN W _ none | refine World.grownBy.trans ?_ (grownBy_drewN _ _ none) | refine World.grownBy.trans ?_ (World.grownBy_alloc _ _ none) | exact World.grownBy.refl W none))⟩ (fun hH => ?_)
    clear hK0 K0
    try dsimp only [Act.put]
    try simp only [List.setIfInBounds_toArray, List.set_cons_zero, List.set_cons_succ]
    refine wpAnyH_ready (rs := [5]) (by kernel_rfl) (by simp) ?_
    refine AllReadyH.cons (by simp only [List.getElem?_toArray, List.getElem?_cons_zero, List.getElem?_cons_succ]; rfl) (fun K0 hK0 => ?_) AllReadyH.nil
    go_simp
    go_at_call 31
    refine (HID.out _ (by repeat (first | exact grownBy_drewN W _ none | refine World.grownBy.trans ?_ (grownBy_drewN _ _ none) | refine World.grownBy.trans ?_ (World.grownBy_alloc _ _ none) | exact World.grownBy.refl W none))).mono ?_
    rintro e w' ⟨rfl, q1, rfl⟩
    try dsimp only
    refine hK0.out _ _ ⟨World.grownBy.cell (w := W) (by repeat (first | exact grownBy_drewN W _ none | refine World.grownBy.trans ?_ (grownBy_drewN _ _ none) | refine World.grownBy.trans ?_ (World.grownBy_alloc _ _ none) | exact World.grownBy.refl W none)) c0 (by simp), (by repeat (first | exact grownBy_drewN W _ none | refine World.grownBy.trans ?_ (grownBy_drewN _ _ none) | refine World.grownBy.trans ?_ (World.grownBy_alloc _ _ none) | exact World.grownBy.refl W none))⟩ (fun hH => ?_)
    clear hK0 K0
    try dsimp only [Act.put]
    try simp only [List.setIfInBounds_toArray, List.set_cons_zero, List.set_cons_succ]
    refine wpAnyH_ready (rs := [8]) (by kernel_rfl) (by simp) ?_
    refine AllReadyH.cons (by simp only [List.getElem?_toArray, List.getElem?_cons_zero, List.getElem?_cons_succ]; rfl) (fun K0 hK0 => ?_) AllReadyH.nil
    go_simp
    go_at_call 32
    refine (HNM.out _ (by repeat (first | exact grownBy_drewN W _ none | refine World.grownBy.trans ?_ (grownBy_drewN _ _ none) | refine World.grownBy.trans ?_ (World.grownBy_alloc _ _ none) | exact World.grownBy.refl W none))).mono ?_
    rintro e w' ⟨rfl, q2, rfl⟩
    try dsimp only
    refine hK0.out _ _ ⟨World.grownBy.cell (w := W) (by repeat (first | exact grownBy_drewN W _ none | refine World.grownBy.trans ?_ (grownBy_drewN _ _ none) | refine World.grownBy.trans ?_ (World.grownBy_alloc _ _ none) | exact World.grownBy.refl W none)) c0 (by simp), (by repeat (first | exact grownBy_drewN W _ none | refine World.grownBy.trans ?_ (grownBy_drewN _ _ none) | refine World.grownBy.trans ?_ (World.grownBy_alloc _ _ none) | exact World.grownBy.refl W none))⟩ (fun hH => ?_)
    clear hK0 K0
    try dsimp only [Act.put]
    try simp only [List.setIfInBounds_toArray, List.set_cons_zero, List.set_cons_succ]
    refine wpAnyH_take (i := 9) (v := ?v9c) (by simp only [List.getElem?_toArray, List.getElem?_cons_zero, List.getElem?_cons_succ]; rfl) (by kernel_rfl) (by kernel_rfl) (by kernel_rfl) (by intro _ _ _ h; exact h) (Or.inl ⟨by rfl, ?y9c⟩) (by assumption) ?r9c
    case y9c =>
      intro WW hSw
      obtain ⟨hs0, hs1⟩ := hSw
      clear hs1
      go_simp
      try with_reducible rfl
    try dsimp only [Act.put]
    try simp only [List.setIfInBounds_toArray, List.set_cons_zero, List.set_cons_succ]
    have RA : Row ((((W.drewN (nq + 1)).alloc (.cells #[.int .i64 0, .int .i64 0, .int .i64 0, .slice none 0 0] 24)).drewN q1).drewN q2) W.heap.size 24 4 (rqV (.int .i64 0) (.int .i64 0) (.int .i64 0) (.slice none 0 0)) := Row.grown (Row.grown (rowQ (w := W.drewN (nq + 1)) rfl) (grownBy_drewN _ q1 none) (by simp)) (grownBy_drewN _ q2 none) (by simp)
    have GA : W.grownBy ((((W.drewN (nq + 1)).alloc (.cells #[.int .i64 0, .int .i64 0, .int .i64 0, .slice none 0 0] 24)).drewN q1).drewN q2) none := (by repeat (first | exact grownBy_drewN W _ none | refine World.grownBy.trans ?_ (grownBy_drewN _ _ none) | refine World.grownBy.trans ?_ (World.grownBy_alloc _ _ none) | exact World.grownBy.refl W none))
    generalize hA : (((W.drewN (nq + 1)).alloc (.cells #[.int .i64 0, .int .i64 0, .int .i64 0, .slice none 0 0] 24)).drewN q1).drewN q2 = A at RA GA hH ⊢
    clear hA
    have z0 := RA.cell (k := 0) (by omega); have z1 := RA.cell (k := 1) (by omega); have z2 := RA.cell (k := 2) (by omega); have z3 := RA.cell (k := 3) (by omega); have zz := RA.frozen
    simp only [rqV] at z0 z1 z2 z3
    have RB := set4 RA (.int .i64 x0) (.int .i64 ID) (.int .i64 SC) (.slice none 0 0)
    have GB := GA.andThen (set4_grown A W.heap.size (.int .i64 x0) (.int .i64 ID) (.int .i64 SC) (.slice none 0 0)) (fun j e => .inl (by cases e; exact Nat.le_refl _))
    have hRB := hid RB; have hGB := hid GB
    refine wpAnyH_ready (rs := [11]) (by kernel_rfl) (by simp) ?_
    refine AllReadyH.cons (by simp only [List.getElem?_toArray, List.getElem?_cons_zero, List.getElem?_cons_succ]; rfl) (fun K0 hK0 => ?_) AllReadyH.nil
    clear RB GB
    go_simp
    refine hK0.out _ _ ⟨hGB.out.cell c0 (by simp), hGB.out⟩ (fun hH => ?_)
    clear hK0 K0
    try dsimp only [Act.put]
    try simp only [List.setIfInBounds_toArray, List.set_cons_zero, List.set_cons_succ]
    refine wpAnyH_done (by kernel_rfl) ?_ _
    generalize (((A.setCell ⟨W.heap.size, 0, none⟩ (.int .i64 x0)).setCell ⟨W.heap.size, 1, none⟩ (.int .i64 ID)).setCell ⟨W.heap.size, 2, none⟩ (.int .i64 SC)).setCell ⟨W.heap.size, 3, none⟩ (.slice none 0 0) = A2 at hRB hGB hH ⊢
    clear z0 z1 z2 z3 zz RA GA hH
    have hRR := hid (HR0.out.grown hGB.out (by simp))
    have r0 := hRB.out.cell (k := 0) (by omega); have r1 := hRB.out.cell (k := 1) (by omega); have r2 := hRB.out.cell (k := 2) (by omega); have r3 := hRB.out.cell (k := 3) (by omega); have rz := hRB.out.frozen
    have s0 := hRR.out.cell (k := 0) (by omega); have s1 := hRR.out.cell (k := 1) (by omega); have s2 := hRR.out.cell (k := 2) (by omega); have s3 := hRR.out.cell (k := 3) (by omega); have sz := hRR.out.frozen
    simp only [rqV] at r0 r1 r2 r3 s0 s1 s2 s3
    have d8 := hGB.out.cell HC8.out (by simp)
    have d9 := hGB.out.cell HC9.out (by simp)
    go_wp2
    refine wp_region_held_drew (S := fun w' => w'.cell? ⟨b, o + 8, none⟩ = some (.int .u8 x8) ∧ w'.cell? ⟨b, o + 9, none⟩ = some (.int .u8 x9) ∧ W.grownBy w' none) (by kernel_rfl) ⟨d8, d9, hGB.out.trans (grownBy_drew _ none)⟩ (fun hH => ?_)
    refine wpAnyH_take (i := 0) (v := ?v0z3) (by simp only [List.getElem?_toArray, List.getElem?_cons_zero, List.getElem?_cons_succ]; rfl) (by kernel_rfl) (by kernel_rfl) (by kernel_rfl) (by intro _ _ _ h; exact h) (Or.inl ⟨by rfl, ?y0z3⟩) (by assumption) ?r0z3
    case y0z3 =>
      intro WW hSw
      obtain ⟨hs0, hs1, hs2⟩ := hSw
      clear hs2
      go_simp
      try with_reducible rfl
    try dsimp only [Act.put]
    try simp only [List.setIfInBounds_toArray, List.set_cons_zero, List.set_cons_succ]
    refine wpAnyH_take (i := 1) (v := ?v1z3) (by simp only [List.getElem?_toArray, List.getElem?_cons_zero, List.getElem?_cons_succ]; rfl) (by kernel_rfl) (by kernel_rfl) (by kernel_rfl) (by intro _ _ _ h; exact h) (Or.inl ⟨by rfl, ?y1z3⟩) (by assumption) ?r1z3
    case y1z3 =>
      intro WW hSw
      obtain ⟨hs0, hs1, hs2⟩ := hSw
      clear hs2
      go_simp
      try with_reducible rfl
    try dsimp only [Act.put]
    try simp only [List.setIfInBounds_toArray, List.set_cons_zero, List.set_cons_succ]
    refine wpAnyH_take (i := 2) (v := ?v2z3) (by simp only [List.getElem?_toArray, List.getElem?_cons_zero, List.getElem?_cons_succ]; rfl) (by kernel_rfl) (by kernel_rfl) (by kernel_rfl) (by intro _ _ _ h; exact h) (Or.inl ⟨by rfl, ?y2z3⟩) (by assumption) ?r2z3
    case y2z3 =>
      intro WW hSw
      obtain ⟨hs0, hs1, hs2⟩ := hSw
      clear hs2
      go_simp
      try with_reducible rfl
    try dsimp only [Act.put]
    try simp only [List.setIfInBounds_toArray, List.set_cons_zero, List.set_cons_succ]
    refine wpAnyH_take (i := 3) (v := ?v3z3) (by simp only [List.getElem?_toArray, List.getElem?_cons_zero, List.getElem?_cons_succ]; rfl) (by kernel_rfl) (by kernel_rfl) (by kernel_rfl) (by intro _ _ _ h; exact h) (Or.inl ⟨by rfl, ?y3z3⟩) (by assumption) ?r3z3
    case y3z3 =>
      intro WW hSw
      obtain ⟨hs0, hs1, hs2⟩ := hSw
      clear hs2
      go_simp
      try with_reducible rfl
    try dsimp only [Act.put]
    try simp only [List.setIfInBounds_toArray, List.set_cons_zero, List.set_cons_succ]
    refine wpAnyH_take (i := 4) (v := ?v4z3) (by simp only [List.getElem?_toArray, List.getElem?_cons_zero, List.getElem?_cons_succ]; rfl) (by kernel_rfl) (by kernel_rfl) (by kernel_rfl) (by intro _ _ _ h; exact h) (Or.inl ⟨by rfl, ?y4z3⟩) (by assumption) ?r4z3
    case y4z3 =>
      intro WW hSw
      obtain ⟨hs0, hs1, hs2⟩ := hSw
      clear hs2
      go_simp
      try with_reducible rfl
    try dsimp only [Act.put]
    try simp only [List.setIfInBounds_toArray, List.set_cons_zero, List.set_cons_succ]
    refine wpAnyH_take (i := 5) (v := ?v5z3) (by simp only [List.getElem?_toArray, List.getElem?_cons_zero, List.getElem?_cons_succ]; rfl) (by kernel_rfl) (by kernel_rfl) (by kernel_rfl) (by intro _ _ _ h; exact h) (Or.inl ⟨by rfl, ?y5z3⟩) (by assumption) ?r5z3
    case y5z3 =>
      intro WW hSw
      obtain ⟨hs0, hs1, hs2⟩ := hSw
      clear hs2
      go_simp
      try with_reducible rfl
    try dsimp only [Act.put]
    try simp only [List.setIfInBounds_toArray, List.set_cons_zero, List.set_cons_succ]
    refine wpAnyH_take (i := 6) (v := ?v6z3) (by simp only [List.getElem?_toArray, List.getElem?_cons_zero, List.getElem?_cons_succ]; rfl) (by kernel_rfl) (by kernel_rfl) (by kernel_rfl) (by intro _ _ _ h; exact h) (Or.inl ⟨by rfl, ?y6z3⟩) (by assumption) ?r6z3
    case y6z3 =>
      intro WW hSw
      obtain ⟨hs0, hs1, hs2⟩ := hSw
      clear hs2
      go_simp
      try with_reducible rfl
    try dsimp only [Act.put]
    try simp only [List.setIfInBounds_toArray, List.set_cons_zero, List.set_cons_succ]
    refine wpAnyH_take (i := 7) (v := ?v7z3) (by simp only [List.getElem?_toArray, List.getElem?_cons_zero, List.getElem?_cons_succ]; rfl) (by kernel_rfl) (by kernel_rfl) (by kernel_rfl) (by intro _ _ _ h; exact h) (Or.inl ⟨by rfl, ?y7z3⟩) (by assumption) ?r7z3
    case y7z3 =>
      intro WW hSw
      obtain ⟨hs0, hs1, hs2⟩ := hSw
      clear hs2
      go_simp
      try with_reducible rfl
    try dsimp only [Act.put]
    try simp only [List.setIfInBounds_toArray, List.set_cons_zero, List.set_cons_succ]
    refine wpAnyH_take (i := 8) (v := ?v8z3) (by simp only [List.getElem?_toArray, List.getElem?_cons_zero, List.getElem?_cons_succ]; rfl) (by kernel_rfl) (by kernel_rfl) (by kernel_rfl) (by intro _ _ _ h; exact h) (Or.inl ⟨by rfl, ?y8z3⟩) (by assumption) ?r8z3
    case y8z3 =>
      intro WW hSw
      obtain ⟨hs0, hs1, hs2⟩ := hSw
      clear hs2
      go_simp
      try with_reducible rfl
    try dsimp only [Act.put]
    try simp only [List.setIfInBounds_toArray, List.set_cons_zero, List.set_cons_succ]
    refine wpAnyH_take (i := 9) (v := ?v9z3) (by simp only [List.getElem?_toArray, List.getElem?_cons_zero, List.getElem?_cons_succ]; rfl) (by kernel_rfl) (by kernel_rfl) (by kernel_rfl) (by intro _ _ _ h; exact h) (Or.inl ⟨by rfl, ?y9z3⟩) (by assumption) ?r9z3
    case y9z3 =>
      intro WW hSw
      obtain ⟨hs0, hs1, hs2⟩ := hSw
      clear hs2
      go_simp
      try with_reducible rfl
    try dsimp only [Act.put]
    try simp only [List.setIfInBounds_toArray, List.set_cons_zero, List.set_cons_succ]
    refine wpAnyH_ready (rs := [10]) (by kernel_rfl) (by simp) ?_
    refine AllReadyH.cons (by simp only [List.getElem?_toArray, List.getElem?_cons_zero, List.getElem?_cons_succ]; rfl) (fun K0 hK0 => ?_) AllReadyH.nil
    go_simp
    have GT := hid (show W.grownBy (A2.setCell ⟨W.heap.size, 0, none⟩ (.int .i64 x9)).drew none from (hGB.out.andThen (grownBy_setCell _ W.heap.size 0 none _) (fun j e => .inl (by cases e; exact Nat.le_refl _))).trans (grownBy_drew _ none))
    have RT : Hid (Row (A2.setCell ⟨W.heap.size, 0, none⟩ (.int .i64 x9)).drew W.heap.size 24 4 (rqV (.int .i64 x9) (.int .i64 ID) (.int .i64 SC) (.slice none 0 0))) := hid (Row.grown (hRB.out.set (k := 0) (v := .int .i64 x9) (X' := rqV (.int .i64 x9) (.int .i64 ID) (.int .i64 SC) (.slice none 0 0)) rfl (fun j _ hj => by match j, hj with | 0, hj => exact absurd rfl hj | 1, _ => rfl | 2, _ => rfl | (_ + 3), _ => rfl)) (grownBy_drew _ none) (by simp))
    refine hK0.out _ _ ⟨GT.out.cell HC8.out (by simp), GT.out.cell HC9.out (by simp), GT.out⟩ (fun hH => ?_)
    clear hK0 K0
    try dsimp only [Act.put]
    try simp only [List.setIfInBounds_toArray, List.set_cons_zero, List.set_cons_succ]
    refine wpAnyH_done (by kernel_rfl) ?_ _
    generalize (A2.setCell ⟨W.heap.size, 0, none⟩ (.int .i64 x9)).drew = A3 at RT GT hH ⊢
    clear hH r0 r1 r2 r3 s0 s1 s2 s3 rz sz d8 d9
    have hRR3 := hid (HR0.out.grown GT.out (by simp))
    have r0 := RT.out.cell (k := 0) (by omega); have r1 := RT.out.cell (k := 1) (by omega); have r2 := RT.out.cell (k := 2) (by omega); have r3 := RT.out.cell (k := 3) (by omega); have rz := RT.out.frozen
    have s0 := hRR3.out.cell (k := 0) (by omega); have s1 := hRR3.out.cell (k := 1) (by omega); have s2 := hRR3.out.cell (k := 2) (by omega); have s3 := hRR3.out.cell (k := 3) (by omega); have sz := hRR3.out.frozen
    simp only [rqV] at r0 r1 r2 r3 s0 s1 s2 s3
    have hne1 : ¬ (W.heap.size = w.heap.size) := HNE.out
    have hne2 : ¬ (w.heap.size = W.heap.size) := fun e => HNE.out e.symm
    go_wp2_with (go_at_call 24; refine (HM.out _).mono ?_; rintro e w' ⟨rfl, rfl⟩)
    have RF := set4 (hRR3.out) (.int .i64 x9) (.int .i64 ID) (.int .i64 SC) (.slice none 0 0)
    have GF := (HG0.out.trans GT.out).andThen (set4_grown A3 w.heap.size (.int .i64 x9) (.int .i64 ID) (.int .i64 SC) (.slice none 0 0)) (fun j e => .inl (by cases e; exact Nat.le_refl _))
    skip
    generalize (((A3.setCell ⟨w.heap.size, 0, none⟩ (.int .i64 x9)).setCell ⟨w.heap.size, 1, none⟩ (.int .i64 ID)).setCell ⟨w.heap.size, 2, none⟩ (.int .i64 SC)).setCell ⟨w.heap.size, 3, none⟩ (.slice none 0 0) = A9 at RF GF ⊢
    have f0 := RF.cell (k := 0) (by omega); have f1 := RF.cell (k := 1) (by omega); have f2 := RF.cell (k := 2) (by omega); have f3 := RF.cell (k := 3) (by omega)
    simp only [rqV] at f0 f1 f2 f3
    refine bodyPost_ret (v := .tuple #[.agg #[.int .i64 x9, .int .i64 ID, .int .i64 SC, .slice none 0 0], .int .i64 x8, .int .i64 x1, .int .i64 0]) (by simp [results, Try.results10, go_sem, f0, f1, f2, f3]) rfl ?_
    exact ⟨rfl, GF⟩

end Go.Proofs.Ytoeohbiofmcdeaa.Bk
