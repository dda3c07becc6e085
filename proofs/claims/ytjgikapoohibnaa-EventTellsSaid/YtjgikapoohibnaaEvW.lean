/-
  Package tenementlaw07: made, play, where the two sides differ.
-/
import Derived.Test.YtjgikapoohibnaaEvV
set_option linter.unusedSimpArgs false
set_option linter.unusedVariables false
namespace Go.Proofs.Ytjgikapoohibnaa
open Go.RowKit Gen
set_option maxHeartbeats 2000000

structure EC2 (w W : World) (X Y : Nat) (T S : Ev) (L : ELay) : Prop where
  x : EvAt W X T
  y : RE W Y S L
  okT : EOk T
  okS : EOk S
  c : Chg (efoot X Y L) w W
section
variable {w W W' : World} {X Y : Nat} {T T' S S' : Ev} {L : ELay}
theorem EC2.more (h : EC2 w W X Y T S L) (hg : W.grownBy W' none) : EC2 w W' X Y T S L := ⟨h.x.grow0 hg, h.y.grow0 hg, h.okT, h.okS, h.c.trans (Chg.of0 hg) fun _ e => .inl e⟩
theorem EC2.one (h : EC2 w W X Y T S L) (h1 : ELeft X W T' W') (hk : EOk T') : EC2 w W' X Y T' S L :=
  ⟨h1.1, h.y.keep h.x h1.2, hk, h.okS, h.c.trans (Chg.one (S := efoot X Y L) h1.2 (.inl rfl)) fun _ e => .inl e⟩
theorem EC2.two (h : EC2 w W X Y T S L) (h2 : RLeft Y L W S' W') (hk : EOk S') : EC2 w W' X Y T S' L :=
  ⟨h.x.chg h2.2 (h.y.off h.x), h2.1, h.okT, hk, h.c.trans h2.2 fun _ e => .inl (.inr e)⟩
end
set_option maxRecDepth 100000 in
theorem fMade0 (w0 w : World) (X Y : Nat) (a b c : Int) (on : Bool) (T S : Ev) (L : ELay) (h : EC2 w0 w X Y T S L) : Calls Try.prog 28 #[.pointer (some ⟨X, 0, none⟩), .pointer (some ⟨Y, 0, none⟩), .agg #[.int .i64 0, .int .i64 a, .int .i64 b, .int .i64 c, .bool on]] w fun e w' => ∃ z : Bool, e = .returned (.bool z) ∧ EC2 w0 w' X Y (stepE T ⟨0, a, b, c, on⟩) (stepE S ⟨0, a, b, c, on⟩) L := by
  obtain ⟨W, hW, hg, hs, b0, b1, b2, b3, b4⟩ := box5e w 0 a b c on
  have HB := hid (h.more hg)
  have nX : (some w.heap.size : Option Nat) ≠ some X := fun e => by have := h.x.lt; cases e; omega
  have HK := hid (h.okS.step ⟨0, a, b, c, on⟩)
  have HKt := hid (h.okT.step ⟨0, a, b, c, on⟩)
  have HS := hid (show stepE S ⟨0, a, b, c, on⟩ = (allocE S a b).2.2 by simp [stepE])
  have HSt := hid (show stepE T ⟨0, a, b, c, on⟩ = (allocE T a b).2.2 by simp [stepE])
  clear h hs hg
  go_enter Try.func28, Try.ntmps28
  go_wp2_with (first
    | (go_at_call 18; refine (eAlloc X a b _ T HB.out.x).mono ?_; rintro e w1 ⟨rfl, h1⟩; have H1 := hid (HB.out.one h1 (HSt.out ▸ HKt.out)); have k0 := h1.2.cell b0 nX; have k1 := h1.2.cell b1 nX; have k2 := h1.2.cell b2 nX; have k3 := h1.2.cell b3 nX; clear h1)
    | (go_at_call 47; refine (rAlloc Y a b L _ S H1.out.y).mono ?_; rintro e w2 ⟨rfl, h2⟩; have H2 := hid (H1.out.two h2 (HS.out ▸ HK.out)); clear h2))
  all_goals go_ret
  all_goals rw [HS.out, HSt.out]
  all_goals exact ⟨_, rfl, H2.out⟩
set_option maxRecDepth 100000 in
theorem fMade1 (w0 w : World) (X Y : Nat) (a b c : Int) (on : Bool) (T S : Ev) (L : ELay) (h : EC2 w0 w X Y T S L) : Calls Try.prog 28 #[.pointer (some ⟨X, 0, none⟩), .pointer (some ⟨Y, 0, none⟩), .agg #[.int .i64 1, .int .i64 a, .int .i64 b, .int .i64 c, .bool on]] w fun e w' => ∃ z : Bool, e = .returned (.bool z) ∧ EC2 w0 w' X Y (stepE T ⟨1, a, b, c, on⟩) (stepE S ⟨1, a, b, c, on⟩) L := by
  obtain ⟨W, hW, hg, hs, b0, b1, b2, b3, b4⟩ := box5e w 1 a b c on
  have HB := hid (h.more hg)
  have nX : (some w.heap.size : Option Nat) ≠ some X := fun e => by have := h.x.lt; cases e; omega
  have HK := hid (h.okS.step ⟨1, a, b, c, on⟩)
  have HKt := hid (h.okT.step ⟨1, a, b, c, on⟩)
  have HS := hid (show stepE S ⟨1, a, b, c, on⟩ = (bindE S a b c).2.2 by simp [stepE])
  have HSt := hid (show stepE T ⟨1, a, b, c, on⟩ = (bindE T a b c).2.2 by simp [stepE])
  clear h hs hg
  go_enter Try.func28, Try.ntmps28
  go_wp2_with (first
    | (go_at_call 19; refine (eBind X a b c _ T HB.out.x).mono ?_; rintro e w1 ⟨rfl, h1⟩; have H1 := hid (HB.out.one h1 (HSt.out ▸ HKt.out)); have k0 := h1.2.cell b0 nX; have k1 := h1.2.cell b1 nX; have k2 := h1.2.cell b2 nX; have k3 := h1.2.cell b3 nX; clear h1)
    | (go_at_call 48; refine (rBind Y a b c L _ S H1.out.y).mono ?_; rintro e w2 ⟨rfl, h2⟩; have H2 := hid (H1.out.two h2 (HS.out ▸ HK.out)); clear h2))
  all_goals go_ret
  all_goals rw [HS.out, HSt.out]
  all_goals exact ⟨_, rfl, H2.out⟩
set_option maxRecDepth 100000 in
theorem fMade2 (w0 w : World) (X Y : Nat) (a b c : Int) (on : Bool) (T S : Ev) (L : ELay) (h : EC2 w0 w X Y T S L) : Calls Try.prog 28 #[.pointer (some ⟨X, 0, none⟩), .pointer (some ⟨Y, 0, none⟩), .agg #[.int .i64 2, .int .i64 a, .int .i64 b, .int .i64 c, .bool on]] w fun e w' => ∃ z : Bool, e = .returned (.bool z) ∧ EC2 w0 w' X Y (stepE T ⟨2, a, b, c, on⟩) (stepE S ⟨2, a, b, c, on⟩) L := by
  obtain ⟨W, hW, hg, hs, b0, b1, b2, b3, b4⟩ := box5e w 2 a b c on
  have HB := hid (h.more hg)
  have nX : (some w.heap.size : Option Nat) ≠ some X := fun e => by have := h.x.lt; cases e; omega
  have HK := hid (h.okS.step ⟨2, a, b, c, on⟩)
  have HKt := hid (h.okT.step ⟨2, a, b, c, on⟩)
  have HS := hid (show stepE S ⟨2, a, b, c, on⟩ = (virqE S a b).2.2 by simp [stepE])
  have HSt := hid (show stepE T ⟨2, a, b, c, on⟩ = (virqE T a b).2.2 by simp [stepE])
  clear h hs hg
  go_enter Try.func28, Try.ntmps28
  go_wp2_with (first
    | (go_at_call 20; refine (eVirq X a b _ T HB.out.x).mono ?_; rintro e w1 ⟨rfl, h1⟩; have H1 := hid (HB.out.one h1 (HSt.out ▸ HKt.out)); have k0 := h1.2.cell b0 nX; have k1 := h1.2.cell b1 nX; have k2 := h1.2.cell b2 nX; have k3 := h1.2.cell b3 nX; clear h1)
    | (go_at_call 49; refine (rVirq Y a b L _ S H1.out.y).mono ?_; rintro e w2 ⟨rfl, h2⟩; have H2 := hid (H1.out.two h2 (HS.out ▸ HK.out)); clear h2))
  all_goals go_ret
  all_goals rw [HS.out, HSt.out]
  all_goals exact ⟨_, rfl, H2.out⟩
set_option maxRecDepth 100000 in
theorem fPlay0 (w0 w : World) (X Y : Nat) (a b c : Int) (on : Bool) (T S : Ev) (L : ELay) (h : EC2 w0 w X Y T S L) : Calls Try.prog 11 #[.pointer (some ⟨X, 0, none⟩), .pointer (some ⟨Y, 0, none⟩), .agg #[.int .i64 0, .int .i64 a, .int .i64 b, .int .i64 c, .bool on]] w fun e w' => ∃ z : Bool, e = .returned (.bool z) ∧ EC2 w0 w' X Y (stepE T ⟨0, a, b, c, on⟩) (stepE S ⟨0, a, b, c, on⟩) L := by
  obtain ⟨W, hW, hg, hs, b0, b1, b2, b3, b4⟩ := box5e w 0 a b c on
  have HB := hid (h.more hg)
  clear h hs hg
  go_enter Try.func11, Try.ntmps11
  go_wp2_with (go_at_call 28; refine (fMade0 w0 _ X Y a b c on T S L HB.out).mono ?_; rintro e w2 ⟨z, rfl, h2⟩; have H2 := hid h2; clear h2)
  go_ret
  exact ⟨_, rfl, H2.out⟩
set_option maxRecDepth 100000 in
theorem fPlay1 (w0 w : World) (X Y : Nat) (a b c : Int) (on : Bool) (T S : Ev) (L : ELay) (h : EC2 w0 w X Y T S L) : Calls Try.prog 11 #[.pointer (some ⟨X, 0, none⟩), .pointer (some ⟨Y, 0, none⟩), .agg #[.int .i64 1, .int .i64 a, .int .i64 b, .int .i64 c, .bool on]] w fun e w' => ∃ z : Bool, e = .returned (.bool z) ∧ EC2 w0 w' X Y (stepE T ⟨1, a, b, c, on⟩) (stepE S ⟨1, a, b, c, on⟩) L := by
  obtain ⟨W, hW, hg, hs, b0, b1, b2, b3, b4⟩ := box5e w 1 a b c on
  have HB := hid (h.more hg)
  clear h hs hg
  go_enter Try.func11, Try.ntmps11
  go_wp2_with (go_at_call 28; refine (fMade1 w0 _ X Y a b c on T S L HB.out).mono ?_; rintro e w2 ⟨z, rfl, h2⟩; have H2 := hid h2; clear h2)
  go_ret
  exact ⟨_, rfl, H2.out⟩
set_option maxRecDepth 100000 in
theorem fPlay2 (w0 w : World) (X Y : Nat) (a b c : Int) (on : Bool) (T S : Ev) (L : ELay) (h : EC2 w0 w X Y T S L) : Calls Try.prog 11 #[.pointer (some ⟨X, 0, none⟩), .pointer (some ⟨Y, 0, none⟩), .agg #[.int .i64 2, .int .i64 a, .int .i64 b, .int .i64 c, .bool on]] w fun e w' => ∃ z : Bool, e = .returned (.bool z) ∧ EC2 w0 w' X Y (stepE T ⟨2, a, b, c, on⟩) (stepE S ⟨2, a, b, c, on⟩) L := by
  obtain ⟨W, hW, hg, hs, b0, b1, b2, b3, b4⟩ := box5e w 2 a b c on
  have HB := hid (h.more hg)
  clear h hs hg
  go_enter Try.func11, Try.ntmps11
  go_wp2_with (go_at_call 28; refine (fMade2 w0 _ X Y a b c on T S L HB.out).mono ?_; rintro e w2 ⟨z, rfl, h2⟩; have H2 := hid h2; clear h2)
  go_ret
  exact ⟨_, rfl, H2.out⟩
set_option maxRecDepth 100000 in
theorem fPlay3 (w0 w : World) (X Y : Nat) (a b c : Int) (on : Bool) (T S : Ev) (L : ELay) (h : EC2 w0 w X Y T S L) : Calls Try.prog 11 #[.pointer (some ⟨X, 0, none⟩), .pointer (some ⟨Y, 0, none⟩), .agg #[.int .i64 3, .int .i64 a, .int .i64 b, .int .i64 c, .bool on]] w fun e w' => ∃ z : Bool, e = .returned (.bool z) ∧ EC2 w0 w' X Y (stepE T ⟨3, a, b, c, on⟩) (stepE S ⟨3, a, b, c, on⟩) L := by
  obtain ⟨W, hW, hg, hs, b0, b1, b2, b3, b4⟩ := box5e w (3) a b c on
  have H0 := hid ((h.more hg).more (grownBy_drew W none))
  have nX : (some w.heap.size : Option Nat) ≠ some X := fun e => by have := h.x.lt; cases e; omega
  have HnX := hid nX
  have HnY := hid (show ¬ L.foot Y w.heap.size from fun e => Nat.lt_irrefl _ (h.y.lt e))
  have HK := hid (h.okS.step ⟨3, a, b, c, on⟩)
  have HKt := hid (h.okT.step ⟨3, a, b, c, on⟩)
  have HS := hid (show stepE S ⟨3, a, b, c, on⟩ = (closeE S a b).2 by simp [stepE])
  have HSt := hid (show stepE T ⟨3, a, b, c, on⟩ = (closeE T a b).2 by simp [stepE])
  have hee : ∀ x : Int, (x == x) = true := fun x => by simp
  clear h hs hg nX
  go_enter Try.func11, Try.ntmps11
  go_wp2
  go_region_held3 (fun w' => w'.cell? ⟨w.heap.size, 1, none⟩ = some (.int .i64 a) ∧ w'.cell? ⟨w.heap.size, 2, none⟩ = some (.int .i64 b)) (first | exact ⟨by assumption, by assumption⟩ | go_keep)
    (first
      | (go_at_call 22; refine (eClose X a b _ T H0.out.okT H0.out.x).mono ?_; rintro e w1 ⟨rfl, h1⟩; have H1 := hid (H0.out.one h1 (HSt.out ▸ HKt.out)); have j1 := h1.2.cell ((grownBy_drew W none).cell b1 (by simp)) HnX.out; have j2 := h1.2.cell ((grownBy_drew W none).cell b2 (by simp)) HnX.out; clear h1)
      | (go_at_call 29; refine (rClose Y a b L _ S H1.out.okS H1.out.y).mono ?_; rintro e w2 ⟨rfl, h2⟩; have H2 := hid (H1.out.two h2 (HS.out ▸ HK.out)); have q1 := h2.2.cell j1 HnY.out; have q2 := h2.2.cell j2 HnY.out; clear h2))
  all_goals go_wp2
  all_goals go_ret
  all_goals rw [HS.out, HSt.out]
  all_goals exact ⟨_, rfl, H2.out⟩
set_option maxRecDepth 100000 in
theorem fPlay4 (w0 w : World) (X Y : Nat) (a b c : Int) (on : Bool) (T S : Ev) (L : ELay) (h : EC2 w0 w X Y T S L) : Calls Try.prog 11 #[.pointer (some ⟨X, 0, none⟩), .pointer (some ⟨Y, 0, none⟩), .agg #[.int .i64 4, .int .i64 a, .int .i64 b, .int .i64 c, .bool on]] w fun e w' => ∃ z : Bool, e = .returned (.bool z) ∧ EC2 w0 w' X Y (stepE T ⟨4, a, b, c, on⟩) (stepE S ⟨4, a, b, c, on⟩) L := by
  obtain ⟨W, hW, hg, hs, b0, b1, b2, b3, b4⟩ := box5e w (4) a b c on
  have H0 := hid ((h.more hg).more (grownBy_drew W none))
  have nX : (some w.heap.size : Option Nat) ≠ some X := fun e => by have := h.x.lt; cases e; omega
  have HnX := hid nX
  have HnY := hid (show ¬ L.foot Y w.heap.size from fun e => Nat.lt_irrefl _ (h.y.lt e))
  have HK := hid (h.okS.step ⟨4, a, b, c, on⟩)
  have HKt := hid (h.okT.step ⟨4, a, b, c, on⟩)
  have HS := hid (show stepE S ⟨4, a, b, c, on⟩ = (sendE S a b).2 by simp [stepE])
  have HSt := hid (show stepE T ⟨4, a, b, c, on⟩ = (sendE T a b).2 by simp [stepE])
  have hee : ∀ x : Int, (x == x) = true := fun x => by simp
  clear h hs hg nX
  go_enter Try.func11, Try.ntmps11
  go_wp2
  go_region_held3 (fun w' => w'.cell? ⟨w.heap.size, 1, none⟩ = some (.int .i64 a) ∧ w'.cell? ⟨w.heap.size, 2, none⟩ = some (.int .i64 b)) (first | exact ⟨by assumption, by assumption⟩ | go_keep)
    (first
      | (go_at_call 16; refine (eSend X a b _ T H0.out.okT H0.out.x).mono ?_; rintro e w1 ⟨rfl, h1⟩; have H1 := hid (H0.out.one h1 (HSt.out ▸ HKt.out)); have j1 := h1.2.cell ((grownBy_drew W none).cell b1 (by simp)) HnX.out; have j2 := h1.2.cell ((grownBy_drew W none).cell b2 (by simp)) HnX.out; clear h1)
      | (go_at_call 30; refine (rSend Y a b L _ S H1.out.okS H1.out.y).mono ?_; rintro e w2 ⟨rfl, h2⟩; have H2 := hid (H1.out.two h2 (HS.out ▸ HK.out)); have q1 := h2.2.cell j1 HnY.out; have q2 := h2.2.cell j2 HnY.out; clear h2))
  all_goals go_wp2
  all_goals go_ret
  all_goals rw [HS.out, HSt.out]
  all_goals exact ⟨_, rfl, H2.out⟩
set_option maxRecDepth 100000 in
theorem fPlay5 (w0 w : World) (X Y : Nat) (a b c : Int) (on : Bool) (T S : Ev) (L : ELay) (h : EC2 w0 w X Y T S L) : Calls Try.prog 11 #[.pointer (some ⟨X, 0, none⟩), .pointer (some ⟨Y, 0, none⟩), .agg #[.int .i64 5, .int .i64 a, .int .i64 b, .int .i64 c, .bool on]] w fun e w' => ∃ z : Bool, e = .returned (.bool z) ∧ EC2 w0 w' X Y (stepE T ⟨5, a, b, c, on⟩) (stepE S ⟨5, a, b, c, on⟩) L := by
  obtain ⟨W, hW, hg, hs, b0, b1, b2, b3, b4⟩ := box5e w (5) a b c on
  have H0 := hid ((h.more hg).more (grownBy_drew W none))
  have nX : (some w.heap.size : Option Nat) ≠ some X := fun e => by have := h.x.lt; cases e; omega
  have HnX := hid nX
  have HnY := hid (show ¬ L.foot Y w.heap.size from fun e => Nat.lt_irrefl _ (h.y.lt e))
  have HK := hid (h.okS.step ⟨5, a, b, c, on⟩)
  have HKt := hid (h.okT.step ⟨5, a, b, c, on⟩)
  have HS := hid (show stepE S ⟨5, a, b, c, on⟩ = (raiseE S a b).2 by simp [stepE])
  have HSt := hid (show stepE T ⟨5, a, b, c, on⟩ = (raiseE T a b).2 by simp [stepE])
  have hee : ∀ x : Int, (x == x) = true := fun x => by simp
  clear h hs hg nX
  go_enter Try.func11, Try.ntmps11
  go_wp2
  go_region_held3 (fun w' => w'.cell? ⟨w.heap.size, 1, none⟩ = some (.int .i64 a) ∧ w'.cell? ⟨w.heap.size, 2, none⟩ = some (.int .i64 b)) (first | exact ⟨by assumption, by assumption⟩ | go_keep)
    (first
      | (go_at_call 23; refine (eRaise X a b _ T H0.out.x).mono ?_; rintro e w1 ⟨rfl, h1⟩; have H1 := hid (H0.out.one h1 (HSt.out ▸ HKt.out)); have j1 := h1.2.cell ((grownBy_drew W none).cell b1 (by simp)) HnX.out; have j2 := h1.2.cell ((grownBy_drew W none).cell b2 (by simp)) HnX.out; clear h1)
      | (go_at_call 31; refine (rRaise Y a b L _ S H1.out.y).mono ?_; rintro e w2 ⟨rfl, h2⟩; have H2 := hid (H1.out.two h2 (HS.out ▸ HK.out)); have q1 := h2.2.cell j1 HnY.out; have q2 := h2.2.cell j2 HnY.out; clear h2))
  all_goals go_wp2
  all_goals go_ret
  all_goals rw [HS.out, HSt.out]
  all_goals exact ⟨_, rfl, H2.out⟩
set_option maxRecDepth 100000 in
theorem fPlay6 (w0 w : World) (X Y : Nat) (a b c : Int) (on : Bool) (T S : Ev) (L : ELay) (h : EC2 w0 w X Y T S L) : Calls Try.prog 11 #[.pointer (some ⟨X, 0, none⟩), .pointer (some ⟨Y, 0, none⟩), .agg #[.int .i64 6, .int .i64 a, .int .i64 b, .int .i64 c, .bool on]] w fun e w' => ∃ z : Bool, e = .returned (.bool z) ∧ EC2 w0 w' X Y (stepE T ⟨6, a, b, c, on⟩) (stepE S ⟨6, a, b, c, on⟩) L := by
  obtain ⟨W, hW, hg, hs, b0, b1, b2, b3, b4⟩ := box5e w (6) a b c on
  have H0 := hid ((h.more hg).more (grownBy_drew W none))
  have nX : (some w.heap.size : Option Nat) ≠ some X := fun e => by have := h.x.lt; cases e; omega
  have HnX := hid nX
  have HnY := hid (show ¬ L.foot Y w.heap.size from fun e => Nat.lt_irrefl _ (h.y.lt e))
  have HK := hid (h.okS.step ⟨6, a, b, c, on⟩)
  have HKt := hid (h.okT.step ⟨6, a, b, c, on⟩)
  have HS := hid (show stepE S ⟨6, a, b, c, on⟩ = (maskE S a b on).2 by simp [stepE])
  have HSt := hid (show stepE T ⟨6, a, b, c, on⟩ = (maskE T a b on).2 by simp [stepE])
  have hee : ∀ x : Int, (x == x) = true := fun x => by simp
  clear h hs hg nX
  go_enter Try.func11, Try.ntmps11
  go_wp2
  go_region_held3 (fun w' => w'.cell? ⟨w.heap.size, 1, none⟩ = some (.int .i64 a) ∧ w'.cell? ⟨w.heap.size, 2, none⟩ = some (.int .i64 b) ∧ w'.cell? ⟨w.heap.size, 4, none⟩ = some (.bool on)) (first | exact ⟨by assumption, by assumption, by assumption⟩ | go_keep)
    (first
      | (go_at_call 24; refine (eMask X a b on _ T H0.out.x).mono ?_; rintro e w1 ⟨rfl, h1⟩; have H1 := hid (H0.out.one h1 (HSt.out ▸ HKt.out)); have j1 := h1.2.cell ((grownBy_drew W none).cell b1 (by simp)) HnX.out; have j2 := h1.2.cell ((grownBy_drew W none).cell b2 (by simp)) HnX.out; have j4 := h1.2.cell ((grownBy_drew W none).cell b4 (by simp)) HnX.out; clear h1)
      | (go_at_call 32; refine (rMask Y a b on L _ S H1.out.y).mono ?_; rintro e w2 ⟨rfl, h2⟩; have H2 := hid (H1.out.two h2 (HS.out ▸ HK.out)); have q1 := h2.2.cell j1 HnY.out; have q2 := h2.2.cell j2 HnY.out; have q4 := h2.2.cell j4 HnY.out; clear h2))
  all_goals go_wp2
  all_goals go_ret
  all_goals rw [HS.out, HSt.out]
  all_goals exact ⟨_, rfl, H2.out⟩
set_option maxRecDepth 100000 in
theorem fPlay7 (w0 w : World) (X Y : Nat) (a b c : Int) (on : Bool) (T S : Ev) (L : ELay) (h : EC2 w0 w X Y T S L) : Calls Try.prog 11 #[.pointer (some ⟨X, 0, none⟩), .pointer (some ⟨Y, 0, none⟩), .agg #[.int .i64 7, .int .i64 a, .int .i64 b, .int .i64 c, .bool on]] w fun e w' => ∃ z : Bool, e = .returned (.bool z) ∧ EC2 w0 w' X Y (stepE T ⟨7, a, b, c, on⟩) (stepE S ⟨7, a, b, c, on⟩) L := by
  obtain ⟨W, hW, hg, hs, b0, b1, b2, b3, b4⟩ := box5e w (7) a b c on
  have H0 := hid ((h.more hg).more (grownBy_drew W none))
  have nX : (some w.heap.size : Option Nat) ≠ some X := fun e => by have := h.x.lt; cases e; omega
  have HnX := hid nX
  have HnY := hid (show ¬ L.foot Y w.heap.size from fun e => Nat.lt_irrefl _ (h.y.lt e))
  have HK := hid (h.okS.step ⟨7, a, b, c, on⟩)
  have HKt := hid (h.okT.step ⟨7, a, b, c, on⟩)
  have HS := hid (show stepE S ⟨7, a, b, c, on⟩ = (clearE S a b).2 by simp [stepE])
  have HSt := hid (show stepE T ⟨7, a, b, c, on⟩ = (clearE T a b).2 by simp [stepE])
  have hee : ∀ x : Int, (x == x) = true := fun x => by simp
  clear h hs hg nX
  go_enter Try.func11, Try.ntmps11
  go_wp2
  go_region_held3 (fun w' => w'.cell? ⟨w.heap.size, 1, none⟩ = some (.int .i64 a) ∧ w'.cell? ⟨w.heap.size, 2, none⟩ = some (.int .i64 b)) (first | exact ⟨by assumption, by assumption⟩ | go_keep)
    (first
      | (go_at_call 25; refine (eClear X a b _ T H0.out.x).mono ?_; rintro e w1 ⟨rfl, h1⟩; have H1 := hid (H0.out.one h1 (HSt.out ▸ HKt.out)); have j1 := h1.2.cell ((grownBy_drew W none).cell b1 (by simp)) HnX.out; have j2 := h1.2.cell ((grownBy_drew W none).cell b2 (by simp)) HnX.out; clear h1)
      | (go_at_call 33; refine (rClear Y a b L _ S H1.out.y).mono ?_; rintro e w2 ⟨rfl, h2⟩; have H2 := hid (H1.out.two h2 (HS.out ▸ HK.out)); have q1 := h2.2.cell j1 HnY.out; have q2 := h2.2.cell j2 HnY.out; clear h2))
  all_goals go_wp2
  all_goals go_ret
  all_goals rw [HS.out, HSt.out]
  all_goals exact ⟨_, rfl, H2.out⟩
set_option maxRecDepth 100000 in
theorem fPlay8 (w0 w : World) (X Y : Nat) (a b c : Int) (on : Bool) (T S : Ev) (L : ELay) (h : EC2 w0 w X Y T S L) : Calls Try.prog 11 #[.pointer (some ⟨X, 0, none⟩), .pointer (some ⟨Y, 0, none⟩), .agg #[.int .i64 8, .int .i64 a, .int .i64 b, .int .i64 c, .bool on]] w fun e w' => ∃ z : Bool, e = .returned (.bool z) ∧ EC2 w0 w' X Y (stepE T ⟨8, a, b, c, on⟩) (stepE S ⟨8, a, b, c, on⟩) L := by
  obtain ⟨W, hW, hg, hs, b0, b1, b2, b3, b4⟩ := box5e w 8 a b c on
  have HB := hid (h.more hg)
  have nX : (some w.heap.size : Option Nat) ≠ some X := fun e => by have := h.x.lt; cases e; omega
  have HK := hid (h.okS.step ⟨8, a, b, c, on⟩)
  have HKt := hid (h.okT.step ⟨8, a, b, c, on⟩)
  have HS := hid (show stepE S ⟨8, a, b, c, on⟩ = (takeUpE S a).2.2 by simp [stepE])
  have HSt := hid (show stepE T ⟨8, a, b, c, on⟩ = (takeUpE T a).2.2 by simp [stepE])
  clear h hs hg
  go_enter Try.func11, Try.ntmps11
  go_wp2_with (first
    | (go_at_call 21; refine (eTakeUp X a _ T HB.out.x).mono ?_; rintro e w1 ⟨rfl, h1⟩; have H1 := hid (HB.out.one h1 (HSt.out ▸ HKt.out)); have k0 := h1.2.cell b0 nX; have k1 := h1.2.cell b1 nX; have k2 := h1.2.cell b2 nX; have k3 := h1.2.cell b3 nX; have k4 := h1.2.cell b4 nX; clear h1)
    | (go_at_call 34; refine (rTakeUp Y a L _ S H1.out.y).mono ?_; rintro e w2 ⟨rfl, h2⟩; have H2 := hid (H1.out.two h2 (HS.out ▸ HK.out)); clear h2))
  all_goals go_ret
  all_goals rw [HS.out, HSt.out]
  all_goals exact ⟨_, rfl, H2.out⟩
set_option maxRecDepth 100000 in
theorem fPlay9 (w0 w : World) (X Y : Nat) (x a b c : Int) (on : Bool) (T S : Ev) (L : ELay) (hx : x ≠ 0 ∧ x ≠ 1 ∧ x ≠ 2 ∧ x ≠ 3 ∧ x ≠ 4 ∧ x ≠ 5 ∧ x ≠ 6 ∧ x ≠ 7 ∧ x ≠ 8) (h : EC2 w0 w X Y T S L) : Calls Try.prog 11 #[.pointer (some ⟨X, 0, none⟩), .pointer (some ⟨Y, 0, none⟩), .agg #[.int .i64 x, .int .i64 a, .int .i64 b, .int .i64 c, .bool on]] w fun e w' => ∃ z : Bool, e = .returned (.bool z) ∧ EC2 w0 w' X Y (stepE T ⟨x, a, b, c, on⟩) (stepE S ⟨x, a, b, c, on⟩) L := by
  obtain ⟨W, hW, hg, hs, b0, b1, b2, b3, b4⟩ := box5e w (x) a b c on
  have H0 := hid ((h.more hg).more (grownBy_drew W none))
  have nX : (some w.heap.size : Option Nat) ≠ some X := fun e => by have := h.x.lt; cases e; omega
  have HnX := hid nX
  have HnY := hid (show ¬ L.foot Y w.heap.size from fun e => Nat.lt_irrefl _ (h.y.lt e))
  have HK := hid (h.okS.step ⟨x, a, b, c, on⟩)
  have HKt := hid (h.okT.step ⟨x, a, b, c, on⟩)
  have HS := hid (show stepE S ⟨x, a, b, c, on⟩ = (dropE S a).2 by obtain ⟨h0, h1, h2, h3, h4, h5, h6, h7, h8⟩ := hx; simp [stepE, h0, h1, h2, h3, h4, h5, h6, h7, h8])
  have HSt := hid (show stepE T ⟨x, a, b, c, on⟩ = (dropE T a).2 by obtain ⟨h0, h1, h2, h3, h4, h5, h6, h7, h8⟩ := hx; simp [stepE, h0, h1, h2, h3, h4, h5, h6, h7, h8])
  have hee : ∀ x : Int, (x == x) = true := fun x => by simp
  clear h hs hg nX
  obtain ⟨h0, h1, h2, h3, h4, h5, h6, h7, h8⟩ := hx
  have z0 : (x == 0) = false := by simp [h0]
  have z1 : (x == 1) = false := by simp [h1]
  have z2 : (x == 2) = false := by simp [h2]
  have z3 : (x == 3) = false := by simp [h3]
  have z4 : (x == 4) = false := by simp [h4]
  have z5 : (x == 5) = false := by simp [h5]
  have z6 : (x == 6) = false := by simp [h6]
  have z7 : (x == 7) = false := by simp [h7]
  have z8 : (x == 8) = false := by simp [h8]
  clear h0 h1 h2 h3 h4 h5 h6 h7 h8
  go_enter Try.func11, Try.ntmps11
  go_wp2
  go_region_held3 (fun w' => w'.cell? ⟨w.heap.size, 1, none⟩ = some (.int .i64 a)) (first | assumption | go_keep)
    (first
      | (go_at_call 26; refine (eDrop X a _ T H0.out.okT H0.out.x).mono ?_; rintro e w1 ⟨rfl, h1⟩; have H1 := hid (H0.out.one h1 (HSt.out ▸ HKt.out)); have j1 := h1.2.cell ((grownBy_drew W none).cell b1 (by simp)) HnX.out; clear h1)
      | (go_at_call 35; refine (rDrop Y a L _ S H1.out.okS H1.out.y).mono ?_; rintro e w2 ⟨rfl, h2⟩; have H2 := hid (H1.out.two h2 (HS.out ▸ HK.out)); have q1 := h2.2.cell j1 HnY.out; clear h2))
  all_goals go_wp2
  all_goals go_ret
  all_goals rw [HS.out, HSt.out]
  all_goals exact ⟨_, rfl, H2.out⟩
/-- any call -/
theorem fPlayC (w0 w : World) (X Y : Nat) (o : EOp) (T S : Ev) (L : ELay) (h : EC2 w0 w X Y T S L) : Calls Try.prog 11 #[.pointer (some ⟨X, 0, none⟩), .pointer (some ⟨Y, 0, none⟩), .agg #[.int .i64 o.x, .int .i64 o.a, .int .i64 o.b, .int .i64 o.c, .bool o.on]] w fun e w' => ∃ z : Bool, e = .returned (.bool z) ∧ EC2 w0 w' X Y (stepE T o) (stepE S o) L := by
  obtain ⟨x, a, b, c, on⟩ := o
  simp only
  by_cases h0 : x = 0
  · subst h0; exact fPlay0 w0 w X Y a b c on T S L h
  by_cases h1 : x = 1
  · subst h1; exact fPlay1 w0 w X Y a b c on T S L h
  by_cases h2 : x = 2
  · subst h2; exact fPlay2 w0 w X Y a b c on T S L h
  by_cases h3 : x = 3
  · subst h3; exact fPlay3 w0 w X Y a b c on T S L h
  by_cases h4 : x = 4
  · subst h4; exact fPlay4 w0 w X Y a b c on T S L h
  by_cases h5 : x = 5
  · subst h5; exact fPlay5 w0 w X Y a b c on T S L h
  by_cases h6 : x = 6
  · subst h6; exact fPlay6 w0 w X Y a b c on T S L h
  by_cases h7 : x = 7
  · subst h7; exact fPlay7 w0 w X Y a b c on T S L h
  by_cases h8 : x = 8
  · subst h8; exact fPlay8 w0 w X Y a b c on T S L h
  exact fPlay9 w0 w X Y x a b c on T S L ⟨h0, h1, h2, h3, h4, h5, h6, h7, h8⟩ h
end Go.Proofs.Ytjgikapoohibnaa
