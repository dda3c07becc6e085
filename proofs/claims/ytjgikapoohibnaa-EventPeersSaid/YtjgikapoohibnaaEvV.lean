/-
  Package tenementlaw07: made, play.
-/
import Derived.Test.YtjgikapoohibnaaEvU
set_option linter.unusedSimpArgs false
set_option linter.unusedVariables false
namespace Go.Proofs.Ytjgikapoohibnaa
open Go.RowKit Gen
set_option maxHeartbeats 2000000

def opV (o : EOp) : Value := .agg #[.int .i64 o.x, .int .i64 o.a, .int .i64 o.b, .int .i64 o.c, .bool o.on]
theorem box5e (w : World) (x a b c : Int) (on : Bool) : ∃ W, w.alloc (.cells #[.int .i64 x, .int .i64 a, .int .i64 b, .int .i64 c, .bool on] 29) = W ∧ w.grownBy W none ∧ w.heap.size < W.heap.size ∧
    W.cell? ⟨w.heap.size, 0, none⟩ = some (.int .i64 x) ∧ W.cell? ⟨w.heap.size, 1, none⟩ = some (.int .i64 a) ∧ W.cell? ⟨w.heap.size, 2, none⟩ = some (.int .i64 b) ∧ W.cell? ⟨w.heap.size, 3, none⟩ = some (.int .i64 c) ∧ W.cell? ⟨w.heap.size, 4, none⟩ = some (.bool on) := by
  have r : ∀ k v, #[Value.int .i64 x, .int .i64 a, .int .i64 b, .int .i64 c, .bool on][k]? = some v → (w.alloc (.cells #[.int .i64 x, .int .i64 a, .int .i64 b, .int .i64 c, .bool on] 29)).cell? ⟨w.heap.size, k, none⟩ = some v := fun k v h => by
    rw [cell_of_row _ _ k _ _ _ (heap_alloc_new w _)]; exact h
  exact ⟨_, rfl, World.grownBy_alloc _ _ _, by simp, r 0 _ rfl, r 1 _ rfl, r 2 _ rfl, r 3 _ rfl, r 4 _ rfl⟩

set_option maxRecDepth 100000 in
theorem eMade0 (w0 w : World) (X Y : Nat) (a b c : Int) (on : Bool) (S : Ev) (L : ELay) (h : EC w0 w X Y S L) : Calls Try.prog 28 #[.pointer (some ⟨X, 0, none⟩), .pointer (some ⟨Y, 0, none⟩), .agg #[.int .i64 0, .int .i64 a, .int .i64 b, .int .i64 c, .bool on]] w fun e w' => e = .returned (.bool true) ∧ EC w0 w' X Y (stepE S ⟨0, a, b, c, on⟩) L := by
  obtain ⟨W, hW, hg, hs, b0, b1, b2, b3, b4⟩ := box5e w 0 a b c on
  have HB := hid (h.more hg)
  have nX : (some w.heap.size : Option Nat) ≠ some X := fun e => by have := h.x.lt; cases e; omega
  have HK := hid (h.ok.step ⟨0, a, b, c, on⟩)
  have HS := hid (show stepE S ⟨0, a, b, c, on⟩ = (allocE S a b).2.2 by simp [stepE])
  clear h hs hg
  go_enter Try.func28, Try.ntmps28
  go_wp2_with (first
    | (go_at_call 18; refine (eAlloc X a b _ S HB.out.x).mono ?_; rintro e w1 ⟨rfl, h1⟩; have H1 := hid (HB.out.one h1); have k0 := h1.2.cell b0 nX; have k1 := h1.2.cell b1 nX; have k2 := h1.2.cell b2 nX; have k3 := h1.2.cell b3 nX; clear h1)
    | (go_at_call 47; refine (rAlloc Y a b L _ S H1.out.y).mono ?_; rintro e w2 ⟨rfl, h2⟩; have H2 := hid (H1.out.two h2 (HS.out ▸ HK.out)); clear h2))
  go_ret
  rw [HS.out]
  exact ⟨rfl, H2.out⟩
set_option maxRecDepth 100000 in
theorem eMade1 (w0 w : World) (X Y : Nat) (a b c : Int) (on : Bool) (S : Ev) (L : ELay) (h : EC w0 w X Y S L) : Calls Try.prog 28 #[.pointer (some ⟨X, 0, none⟩), .pointer (some ⟨Y, 0, none⟩), .agg #[.int .i64 1, .int .i64 a, .int .i64 b, .int .i64 c, .bool on]] w fun e w' => e = .returned (.bool true) ∧ EC w0 w' X Y (stepE S ⟨1, a, b, c, on⟩) L := by
  obtain ⟨W, hW, hg, hs, b0, b1, b2, b3, b4⟩ := box5e w 1 a b c on
  have HB := hid (h.more hg)
  have nX : (some w.heap.size : Option Nat) ≠ some X := fun e => by have := h.x.lt; cases e; omega
  have HK := hid (h.ok.step ⟨1, a, b, c, on⟩)
  have HS := hid (show stepE S ⟨1, a, b, c, on⟩ = (bindE S a b c).2.2 by simp [stepE])
  clear h hs hg
  go_enter Try.func28, Try.ntmps28
  go_wp2_with (first
    | (go_at_call 19; refine (eBind X a b c _ S HB.out.x).mono ?_; rintro e w1 ⟨rfl, h1⟩; have H1 := hid (HB.out.one h1); have k0 := h1.2.cell b0 nX; have k1 := h1.2.cell b1 nX; have k2 := h1.2.cell b2 nX; have k3 := h1.2.cell b3 nX; clear h1)
    | (go_at_call 48; refine (rBind Y a b c L _ S H1.out.y).mono ?_; rintro e w2 ⟨rfl, h2⟩; have H2 := hid (H1.out.two h2 (HS.out ▸ HK.out)); clear h2))
  go_ret
  rw [HS.out]
  exact ⟨rfl, H2.out⟩
set_option maxRecDepth 100000 in
theorem eMade2 (w0 w : World) (X Y : Nat) (a b c : Int) (on : Bool) (S : Ev) (L : ELay) (h : EC w0 w X Y S L) : Calls Try.prog 28 #[.pointer (some ⟨X, 0, none⟩), .pointer (some ⟨Y, 0, none⟩), .agg #[.int .i64 2, .int .i64 a, .int .i64 b, .int .i64 c, .bool on]] w fun e w' => e = .returned (.bool true) ∧ EC w0 w' X Y (stepE S ⟨2, a, b, c, on⟩) L := by
  obtain ⟨W, hW, hg, hs, b0, b1, b2, b3, b4⟩ := box5e w 2 a b c on
  have HB := hid (h.more hg)
  have nX : (some w.heap.size : Option Nat) ≠ some X := fun e => by have := h.x.lt; cases e; omega
  have HK := hid (h.ok.step ⟨2, a, b, c, on⟩)
  have HS := hid (show stepE S ⟨2, a, b, c, on⟩ = (virqE S a b).2.2 by simp [stepE])
  clear h hs hg
  go_enter Try.func28, Try.ntmps28
  go_wp2_with (first
    | (go_at_call 20; refine (eVirq X a b _ S HB.out.x).mono ?_; rintro e w1 ⟨rfl, h1⟩; have H1 := hid (HB.out.one h1); have k0 := h1.2.cell b0 nX; have k1 := h1.2.cell b1 nX; have k2 := h1.2.cell b2 nX; have k3 := h1.2.cell b3 nX; clear h1)
    | (go_at_call 49; refine (rVirq Y a b L _ S H1.out.y).mono ?_; rintro e w2 ⟨rfl, h2⟩; have H2 := hid (H1.out.two h2 (HS.out ▸ HK.out)); clear h2))
  go_ret
  rw [HS.out]
  exact ⟨rfl, H2.out⟩
set_option maxRecDepth 100000 in
theorem ePlay0 (w0 w : World) (X Y : Nat) (a b c : Int) (on : Bool) (S : Ev) (L : ELay) (h : EC w0 w X Y S L) : Calls Try.prog 11 #[.pointer (some ⟨X, 0, none⟩), .pointer (some ⟨Y, 0, none⟩), .agg #[.int .i64 0, .int .i64 a, .int .i64 b, .int .i64 c, .bool on]] w fun e w' => e = .returned (.bool true) ∧ EC w0 w' X Y (stepE S ⟨0, a, b, c, on⟩) L := by
  obtain ⟨W, hW, hg, hs, b0, b1, b2, b3, b4⟩ := box5e w 0 a b c on
  have HB := hid (h.more hg)
  clear h hs hg
  go_enter Try.func11, Try.ntmps11
  go_wp2_with (go_at_call 28; refine (eMade0 w0 _ X Y a b c on S L HB.out).mono ?_; rintro e w2 ⟨rfl, h2⟩; have H2 := hid h2; clear h2)
  go_ret
  exact ⟨rfl, H2.out⟩
set_option maxRecDepth 100000 in
theorem ePlay1 (w0 w : World) (X Y : Nat) (a b c : Int) (on : Bool) (S : Ev) (L : ELay) (h : EC w0 w X Y S L) : Calls Try.prog 11 #[.pointer (some ⟨X, 0, none⟩), .pointer (some ⟨Y, 0, none⟩), .agg #[.int .i64 1, .int .i64 a, .int .i64 b, .int .i64 c, .bool on]] w fun e w' => e = .returned (.bool true) ∧ EC w0 w' X Y (stepE S ⟨1, a, b, c, on⟩) L := by
  obtain ⟨W, hW, hg, hs, b0, b1, b2, b3, b4⟩ := box5e w 1 a b c on
  have HB := hid (h.more hg)
  clear h hs hg
  go_enter Try.func11, Try.ntmps11
  go_wp2_with (go_at_call 28; refine (eMade1 w0 _ X Y a b c on S L HB.out).mono ?_; rintro e w2 ⟨rfl, h2⟩; have H2 := hid h2; clear h2)
  go_ret
  exact ⟨rfl, H2.out⟩
set_option maxRecDepth 100000 in
theorem ePlay2 (w0 w : World) (X Y : Nat) (a b c : Int) (on : Bool) (S : Ev) (L : ELay) (h : EC w0 w X Y S L) : Calls Try.prog 11 #[.pointer (some ⟨X, 0, none⟩), .pointer (some ⟨Y, 0, none⟩), .agg #[.int .i64 2, .int .i64 a, .int .i64 b, .int .i64 c, .bool on]] w fun e w' => e = .returned (.bool true) ∧ EC w0 w' X Y (stepE S ⟨2, a, b, c, on⟩) L := by
  obtain ⟨W, hW, hg, hs, b0, b1, b2, b3, b4⟩ := box5e w 2 a b c on
  have HB := hid (h.more hg)
  clear h hs hg
  go_enter Try.func11, Try.ntmps11
  go_wp2_with (go_at_call 28; refine (eMade2 w0 _ X Y a b c on S L HB.out).mono ?_; rintro e w2 ⟨rfl, h2⟩; have H2 := hid h2; clear h2)
  go_ret
  exact ⟨rfl, H2.out⟩
set_option maxRecDepth 100000 in
theorem ePlay3 (w0 w : World) (X Y : Nat) (a b c : Int) (on : Bool) (S : Ev) (L : ELay) (h : EC w0 w X Y S L) : Calls Try.prog 11 #[.pointer (some ⟨X, 0, none⟩), .pointer (some ⟨Y, 0, none⟩), .agg #[.int .i64 3, .int .i64 a, .int .i64 b, .int .i64 c, .bool on]] w fun e w' => e = .returned (.bool true) ∧ EC w0 w' X Y (stepE S ⟨3, a, b, c, on⟩) L := by
  obtain ⟨W, hW, hg, hs, b0, b1, b2, b3, b4⟩ := box5e w (3) a b c on
  have H0 := hid ((h.more hg).more (grownBy_drew W none))
  have nX : (some w.heap.size : Option Nat) ≠ some X := fun e => by have := h.x.lt; cases e; omega
  have HnX := hid nX
  have HnY := hid (show ¬ L.foot Y w.heap.size from fun e => Nat.lt_irrefl _ (h.y.lt e))
  have HK := hid (h.ok.step ⟨3, a, b, c, on⟩)
  have HS := hid (show stepE S ⟨3, a, b, c, on⟩ = (closeE S a b).2 by simp [stepE])
  have hee : ∀ x : Int, (x == x) = true := fun x => by simp
  clear h hs hg nX
  go_enter Try.func11, Try.ntmps11
  go_wp2
  go_region_held3 (fun w' => w'.cell? ⟨w.heap.size, 1, none⟩ = some (.int .i64 a) ∧ w'.cell? ⟨w.heap.size, 2, none⟩ = some (.int .i64 b)) (first | exact ⟨by assumption, by assumption⟩ | go_keep)
    (first
      | (go_at_call 22; refine (eClose X a b _ S H0.out.ok H0.out.x).mono ?_; rintro e w1 ⟨rfl, h1⟩; have H1 := hid (H0.out.one h1); have j1 := h1.2.cell ((grownBy_drew W none).cell b1 (by simp)) HnX.out; have j2 := h1.2.cell ((grownBy_drew W none).cell b2 (by simp)) HnX.out; clear h1)
      | (go_at_call 29; refine (rClose Y a b L _ S H1.out.ok H1.out.y).mono ?_; rintro e w2 ⟨rfl, h2⟩; have H2 := hid (H1.out.two h2 (HS.out ▸ HK.out)); have q1 := h2.2.cell j1 HnY.out; have q2 := h2.2.cell j2 HnY.out; clear h2))
  all_goals go_wp2
  all_goals go_ret
  all_goals rw [HS.out]
  all_goals exact ⟨rfl, H2.out⟩
set_option maxRecDepth 100000 in
theorem ePlay4 (w0 w : World) (X Y : Nat) (a b c : Int) (on : Bool) (S : Ev) (L : ELay) (h : EC w0 w X Y S L) : Calls Try.prog 11 #[.pointer (some ⟨X, 0, none⟩), .pointer (some ⟨Y, 0, none⟩), .agg #[.int .i64 4, .int .i64 a, .int .i64 b, .int .i64 c, .bool on]] w fun e w' => e = .returned (.bool true) ∧ EC w0 w' X Y (stepE S ⟨4, a, b, c, on⟩) L := by
  obtain ⟨W, hW, hg, hs, b0, b1, b2, b3, b4⟩ := box5e w (4) a b c on
  have H0 := hid ((h.more hg).more (grownBy_drew W none))
  have nX : (some w.heap.size : Option Nat) ≠ some X := fun e => by have := h.x.lt; cases e; omega
  have HnX := hid nX
  have HnY := hid (show ¬ L.foot Y w.heap.size from fun e => Nat.lt_irrefl _ (h.y.lt e))
  have HK := hid (h.ok.step ⟨4, a, b, c, on⟩)
  have HS := hid (show stepE S ⟨4, a, b, c, on⟩ = (sendE S a b).2 by simp [stepE])
  have hee : ∀ x : Int, (x == x) = true := fun x => by simp
  clear h hs hg nX
  go_enter Try.func11, Try.ntmps11
  go_wp2
  go_region_held3 (fun w' => w'.cell? ⟨w.heap.size, 1, none⟩ = some (.int .i64 a) ∧ w'.cell? ⟨w.heap.size, 2, none⟩ = some (.int .i64 b)) (first | exact ⟨by assumption, by assumption⟩ | go_keep)
    (first
      | (go_at_call 16; refine (eSend X a b _ S H0.out.ok H0.out.x).mono ?_; rintro e w1 ⟨rfl, h1⟩; have H1 := hid (H0.out.one h1); have j1 := h1.2.cell ((grownBy_drew W none).cell b1 (by simp)) HnX.out; have j2 := h1.2.cell ((grownBy_drew W none).cell b2 (by simp)) HnX.out; clear h1)
      | (go_at_call 30; refine (rSend Y a b L _ S H1.out.ok H1.out.y).mono ?_; rintro e w2 ⟨rfl, h2⟩; have H2 := hid (H1.out.two h2 (HS.out ▸ HK.out)); have q1 := h2.2.cell j1 HnY.out; have q2 := h2.2.cell j2 HnY.out; clear h2))
  all_goals go_wp2
  all_goals go_ret
  all_goals rw [HS.out]
  all_goals exact ⟨rfl, H2.out⟩
set_option maxRecDepth 100000 in
theorem ePlay5 (w0 w : World) (X Y : Nat) (a b c : Int) (on : Bool) (S : Ev) (L : ELay) (h : EC w0 w X Y S L) : Calls Try.prog 11 #[.pointer (some ⟨X, 0, none⟩), .pointer (some ⟨Y, 0, none⟩), .agg #[.int .i64 5, .int .i64 a, .int .i64 b, .int .i64 c, .bool on]] w fun e w' => e = .returned (.bool true) ∧ EC w0 w' X Y (stepE S ⟨5, a, b, c, on⟩) L := by
  obtain ⟨W, hW, hg, hs, b0, b1, b2, b3, b4⟩ := box5e w (5) a b c on
  have H0 := hid ((h.more hg).more (grownBy_drew W none))
  have nX : (some w.heap.size : Option Nat) ≠ some X := fun e => by have := h.x.lt; cases e; omega
  have HnX := hid nX
  have HnY := hid (show ¬ L.foot Y w.heap.size from fun e => Nat.lt_irrefl _ (h.y.lt e))
  have HK := hid (h.ok.step ⟨5, a, b, c, on⟩)
  have HS := hid (show stepE S ⟨5, a, b, c, on⟩ = (raiseE S a b).2 by simp [stepE])
  have hee : ∀ x : Int, (x == x) = true := fun x => by simp
  clear h hs hg nX
  go_enter Try.func11, Try.ntmps11
  go_wp2
  go_region_held3 (fun w' => w'.cell? ⟨w.heap.size, 1, none⟩ = some (.int .i64 a) ∧ w'.cell? ⟨w.heap.size, 2, none⟩ = some (.int .i64 b)) (first | exact ⟨by assumption, by assumption⟩ | go_keep)
    (first
      | (go_at_call 23; refine (eRaise X a b _ S H0.out.x).mono ?_; rintro e w1 ⟨rfl, h1⟩; have H1 := hid (H0.out.one h1); have j1 := h1.2.cell ((grownBy_drew W none).cell b1 (by simp)) HnX.out; have j2 := h1.2.cell ((grownBy_drew W none).cell b2 (by simp)) HnX.out; clear h1)
      | (go_at_call 31; refine (rRaise Y a b L _ S H1.out.y).mono ?_; rintro e w2 ⟨rfl, h2⟩; have H2 := hid (H1.out.two h2 (HS.out ▸ HK.out)); have q1 := h2.2.cell j1 HnY.out; have q2 := h2.2.cell j2 HnY.out; clear h2))
  all_goals go_wp2
  all_goals go_ret
  all_goals rw [HS.out]
  all_goals exact ⟨rfl, H2.out⟩
set_option maxRecDepth 100000 in
theorem ePlay6 (w0 w : World) (X Y : Nat) (a b c : Int) (on : Bool) (S : Ev) (L : ELay) (h : EC w0 w X Y S L) : Calls Try.prog 11 #[.pointer (some ⟨X, 0, none⟩), .pointer (some ⟨Y, 0, none⟩), .agg #[.int .i64 6, .int .i64 a, .int .i64 b, .int .i64 c, .bool on]] w fun e w' => e = .returned (.bool true) ∧ EC w0 w' X Y (stepE S ⟨6, a, b, c, on⟩) L := by
  obtain ⟨W, hW, hg, hs, b0, b1, b2, b3, b4⟩ := box5e w (6) a b c on
  have H0 := hid ((h.more hg).more (grownBy_drew W none))
  have nX : (some w.heap.size : Option Nat) ≠ some X := fun e => by have := h.x.lt; cases e; omega
  have HnX := hid nX
  have HnY := hid (show ¬ L.foot Y w.heap.size from fun e => Nat.lt_irrefl _ (h.y.lt e))
  have HK := hid (h.ok.step ⟨6, a, b, c, on⟩)
  have HS := hid (show stepE S ⟨6, a, b, c, on⟩ = (maskE S a b on).2 by simp [stepE])
  have hee : ∀ x : Int, (x == x) = true := fun x => by simp
  clear h hs hg nX
  go_enter Try.func11, Try.ntmps11
  go_wp2
  go_region_held3 (fun w' => w'.cell? ⟨w.heap.size, 1, none⟩ = some (.int .i64 a) ∧ w'.cell? ⟨w.heap.size, 2, none⟩ = some (.int .i64 b) ∧ w'.cell? ⟨w.heap.size, 4, none⟩ = some (.bool on)) (first | exact ⟨by assumption, by assumption, by assumption⟩ | go_keep)
    (first
      | (go_at_call 24; refine (eMask X a b on _ S H0.out.x).mono ?_; rintro e w1 ⟨rfl, h1⟩; have H1 := hid (H0.out.one h1); have j1 := h1.2.cell ((grownBy_drew W none).cell b1 (by simp)) HnX.out; have j2 := h1.2.cell ((grownBy_drew W none).cell b2 (by simp)) HnX.out; have j4 := h1.2.cell ((grownBy_drew W none).cell b4 (by simp)) HnX.out; clear h1)
      | (go_at_call 32; refine (rMask Y a b on L _ S H1.out.y).mono ?_; rintro e w2 ⟨rfl, h2⟩; have H2 := hid (H1.out.two h2 (HS.out ▸ HK.out)); have q1 := h2.2.cell j1 HnY.out; have q2 := h2.2.cell j2 HnY.out; have q4 := h2.2.cell j4 HnY.out; clear h2))
  all_goals go_wp2
  all_goals go_ret
  all_goals rw [HS.out]
  all_goals exact ⟨rfl, H2.out⟩
set_option maxRecDepth 100000 in
theorem ePlay7 (w0 w : World) (X Y : Nat) (a b c : Int) (on : Bool) (S : Ev) (L : ELay) (h : EC w0 w X Y S L) : Calls Try.prog 11 #[.pointer (some ⟨X, 0, none⟩), .pointer (some ⟨Y, 0, none⟩), .agg #[.int .i64 7, .int .i64 a, .int .i64 b, .int .i64 c, .bool on]] w fun e w' => e = .returned (.bool true) ∧ EC w0 w' X Y (stepE S ⟨7, a, b, c, on⟩) L := by
  obtain ⟨W, hW, hg, hs, b0, b1, b2, b3, b4⟩ := box5e w (7) a b c on
  have H0 := hid ((h.more hg).more (grownBy_drew W none))
  have nX : (some w.heap.size : Option Nat) ≠ some X := fun e => by have := h.x.lt; cases e; omega
  have HnX := hid nX
  have HnY := hid (show ¬ L.foot Y w.heap.size from fun e => Nat.lt_irrefl _ (h.y.lt e))
  have HK := hid (h.ok.step ⟨7, a, b, c, on⟩)
  have HS := hid (show stepE S ⟨7, a, b, c, on⟩ = (clearE S a b).2 by simp [stepE])
  have hee : ∀ x : Int, (x == x) = true := fun x => by simp
  clear h hs hg nX
  go_enter Try.func11, Try.ntmps11
  go_wp2
  go_region_held3 (fun w' => w'.cell? ⟨w.heap.size, 1, none⟩ = some (.int .i64 a) ∧ w'.cell? ⟨w.heap.size, 2, none⟩ = some (.int .i64 b)) (first | exact ⟨by assumption, by assumption⟩ | go_keep)
    (first
      | (go_at_call 25; refine (eClear X a b _ S H0.out.x).mono ?_; rintro e w1 ⟨rfl, h1⟩; have H1 := hid (H0.out.one h1); have j1 := h1.2.cell ((grownBy_drew W none).cell b1 (by simp)) HnX.out; have j2 := h1.2.cell ((grownBy_drew W none).cell b2 (by simp)) HnX.out; clear h1)
      | (go_at_call 33; refine (rClear Y a b L _ S H1.out.y).mono ?_; rintro e w2 ⟨rfl, h2⟩; have H2 := hid (H1.out.two h2 (HS.out ▸ HK.out)); have q1 := h2.2.cell j1 HnY.out; have q2 := h2.2.cell j2 HnY.out; clear h2))
  all_goals go_wp2
  all_goals go_ret
  all_goals rw [HS.out]
  all_goals exact ⟨rfl, H2.out⟩
set_option maxRecDepth 100000 in
theorem ePlay8 (w0 w : World) (X Y : Nat) (a b c : Int) (on : Bool) (S : Ev) (L : ELay) (h : EC w0 w X Y S L) : Calls Try.prog 11 #[.pointer (some ⟨X, 0, none⟩), .pointer (some ⟨Y, 0, none⟩), .agg #[.int .i64 8, .int .i64 a, .int .i64 b, .int .i64 c, .bool on]] w fun e w' => e = .returned (.bool true) ∧ EC w0 w' X Y (stepE S ⟨8, a, b, c, on⟩) L := by
  obtain ⟨W, hW, hg, hs, b0, b1, b2, b3, b4⟩ := box5e w 8 a b c on
  have HB := hid (h.more hg)
  have nX : (some w.heap.size : Option Nat) ≠ some X := fun e => by have := h.x.lt; cases e; omega
  have HK := hid (h.ok.step ⟨8, a, b, c, on⟩)
  have HS := hid (show stepE S ⟨8, a, b, c, on⟩ = (takeUpE S a).2.2 by simp [stepE])
  clear h hs hg
  go_enter Try.func11, Try.ntmps11
  go_wp2_with (first
    | (go_at_call 21; refine (eTakeUp X a _ S HB.out.x).mono ?_; rintro e w1 ⟨rfl, h1⟩; have H1 := hid (HB.out.one h1); have k0 := h1.2.cell b0 nX; have k1 := h1.2.cell b1 nX; have k2 := h1.2.cell b2 nX; have k3 := h1.2.cell b3 nX; have k4 := h1.2.cell b4 nX; clear h1)
    | (go_at_call 34; refine (rTakeUp Y a L _ S H1.out.y).mono ?_; rintro e w2 ⟨rfl, h2⟩; have H2 := hid (H1.out.two h2 (HS.out ▸ HK.out)); clear h2))
  go_ret
  rw [HS.out]
  exact ⟨rfl, H2.out⟩
set_option maxRecDepth 100000 in
theorem ePlay9 (w0 w : World) (X Y : Nat) (x a b c : Int) (on : Bool) (S : Ev) (L : ELay) (hx : x ≠ 0 ∧ x ≠ 1 ∧ x ≠ 2 ∧ x ≠ 3 ∧ x ≠ 4 ∧ x ≠ 5 ∧ x ≠ 6 ∧ x ≠ 7 ∧ x ≠ 8) (h : EC w0 w X Y S L) : Calls Try.prog 11 #[.pointer (some ⟨X, 0, none⟩), .pointer (some ⟨Y, 0, none⟩), .agg #[.int .i64 x, .int .i64 a, .int .i64 b, .int .i64 c, .bool on]] w fun e w' => e = .returned (.bool true) ∧ EC w0 w' X Y (stepE S ⟨x, a, b, c, on⟩) L := by
  obtain ⟨W, hW, hg, hs, b0, b1, b2, b3, b4⟩ := box5e w (x) a b c on
  have H0 := hid ((h.more hg).more (grownBy_drew W none))
  have nX : (some w.heap.size : Option Nat) ≠ some X := fun e => by have := h.x.lt; cases e; omega
  have HnX := hid nX
  have HnY := hid (show ¬ L.foot Y w.heap.size from fun e => Nat.lt_irrefl _ (h.y.lt e))
  have HK := hid (h.ok.step ⟨x, a, b, c, on⟩)
  have HS := hid (show stepE S ⟨x, a, b, c, on⟩ = (dropE S a).2 by obtain ⟨h0, h1, h2, h3, h4, h5, h6, h7, h8⟩ := hx; simp [stepE, h0, h1, h2, h3, h4, h5, h6, h7, h8])
  have hee : ∀ x : Int, (x == x) = true := fun x => by simp
  clear h hs hg nX
  obtain ⟨h0, h1, h2, h3, h4, h5, h6, h7, h8⟩ := hx
  have z0 : (x == 0) = false := by simp [h0]
  have z1 : (x == 1) = false := by simp [h1]
  have z2 : (x == 2) = false := by simp [h2]
  have z3 : (x == 3) = false := by simp [h3]
  have z4 : (x == 4) = false := by simp [h4]
  have z5 : (x == 5) = false := by simp [h5]
  have z6 : (x == 6) = false := by simp [h6]
  have z7 : (x == 7) = false := by simp [h7]
  have z8 : (x == 8) = false := by simp [h8]
  clear h0 h1 h2 h3 h4 h5 h6 h7 h8
  go_enter Try.func11, Try.ntmps11
  go_wp2
  go_region_held3 (fun w' => w'.cell? ⟨w.heap.size, 1, none⟩ = some (.int .i64 a)) (first | assumption | go_keep)
    (first
      | (go_at_call 26; refine (eDrop X a _ S H0.out.ok H0.out.x).mono ?_; rintro e w1 ⟨rfl, h1⟩; have H1 := hid (H0.out.one h1); have j1 := h1.2.cell ((grownBy_drew W none).cell b1 (by simp)) HnX.out; clear h1)
      | (go_at_call 35; refine (rDrop Y a L _ S H1.out.ok H1.out.y).mono ?_; rintro e w2 ⟨rfl, h2⟩; have H2 := hid (H1.out.two h2 (HS.out ▸ HK.out)); have q1 := h2.2.cell j1 HnY.out; clear h2))
  all_goals go_wp2
  all_goals go_ret
  all_goals rw [HS.out]
  all_goals exact ⟨rfl, H2.out⟩
/-- any call -/
theorem ePlayC (w0 w : World) (X Y : Nat) (o : EOp) (S : Ev) (L : ELay) (h : EC w0 w X Y S L) : Calls Try.prog 11 #[.pointer (some ⟨X, 0, none⟩), .pointer (some ⟨Y, 0, none⟩), .agg #[.int .i64 o.x, .int .i64 o.a, .int .i64 o.b, .int .i64 o.c, .bool o.on]] w fun e w' => e = .returned (.bool true) ∧ EC w0 w' X Y (stepE S o) L := by
  obtain ⟨x, a, b, c, on⟩ := o
  simp only
  by_cases h0 : x = 0
  · subst h0; exact ePlay0 w0 w X Y a b c on S L h
  by_cases h1 : x = 1
  · subst h1; exact ePlay1 w0 w X Y a b c on S L h
  by_cases h2 : x = 2
  · subst h2; exact ePlay2 w0 w X Y a b c on S L h
  by_cases h3 : x = 3
  · subst h3; exact ePlay3 w0 w X Y a b c on S L h
  by_cases h4 : x = 4
  · subst h4; exact ePlay4 w0 w X Y a b c on S L h
  by_cases h5 : x = 5
  · subst h5; exact ePlay5 w0 w X Y a b c on S L h
  by_cases h6 : x = 6
  · subst h6; exact ePlay6 w0 w X Y a b c on S L h
  by_cases h7 : x = 7
  · subst h7; exact ePlay7 w0 w X Y a b c on S L h
  by_cases h8 : x = 8
  · subst h8; exact ePlay8 w0 w X Y a b c on S L h
  exact ePlay9 w0 w X Y x a b c on S L ⟨h0, h1, h2, h3, h4, h5, h6, h7, h8⟩ h
theorem ePlay (w0 w : World) (X Y : Nat) (o : EOp) (S : Ev) (L : ELay) (h : EB w0 w X Y S L) : Calls Try.prog 11 #[.pointer (some ⟨X, 0, none⟩), .pointer (some ⟨Y, 0, none⟩), .agg #[.int .i64 o.x, .int .i64 o.a, .int .i64 o.b, .int .i64 o.c, .bool o.on]] w fun e w' => e = .returned (.bool true) ∧ EB w0 w' X Y (stepE S o) L :=
  (ePlayC w w X Y o S L h.toC).mono fun _ _ ⟨he, hc⟩ => ⟨he, h.ofC hc⟩
theorem eStart {w w1 w2 : World} {X Y : Nat} {L : ELay} (h1 : EvAt w1 X ev0) (g1 : w.grownBy w1 none) (f1 : w.heap.size ≤ X) (h2 : RE w2 Y ev0 L) (g2 : w1.grownBy w2 none) (f2 : ∀ k, L.foot Y k → w1.heap.size ≤ k) : EB w w2 X Y ev0 L :=
  ⟨h1.grow0 g2, h2, EOk.start, f1, fun k hk => Nat.le_trans g1.size (f2 k hk), g1.trans g2⟩
end Go.Proofs.Ytjgikapoohibnaa
