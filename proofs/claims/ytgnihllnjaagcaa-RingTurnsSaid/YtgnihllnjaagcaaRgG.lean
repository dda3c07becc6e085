/-
  Package ring: the front end over a page of both ends.
-/
import Derived.Test.YtgnihllnjaagcaaRgB
import Derived.Test.YtgnihllnjaagcaaRgOne
import Derived.Test.YtgnihllnjaagcaaVStr
import Derived.Deep.RegionHeld3
set_option linter.unusedSimpArgs false
set_option linter.unusedVariables false
namespace Go.Proofs.Ytgnihllnjaagcaa
open Go.RowKit
set_option maxHeartbeats 1200000

def fcell (B : Nat) (i o : Int) : Nat → Value
  | 0 => .int .i64 0
  | 1 => .int .u16 i
  | 2 => .int .u16 o
  | _ => .pointer (some ⟨B, 0, none⟩)
/-- the front end in block F, over the machine in block B -/
def RF (w : World) (F B : Nat) (i o : Int) : Prop := Row w F 101 4 (fcell B i o)
section
variable {w w' : World} {F B : Nat} {i o : Int}
theorem RF.lt (h : RF w F B i o) : F < w.heap.size := Row.lt h
theorem RF.c0 (h : RF w F B i o) : w.cell? ⟨F, 0, none⟩ = some (.int .i64 0) := Row.cell h (k := 0) (by omega)
theorem RF.c1 (h : RF w F B i o) : w.cell? ⟨F, 1, none⟩ = some (.int .u16 i) := Row.cell h (k := 1) (by omega)
theorem RF.c2 (h : RF w F B i o) : w.cell? ⟨F, 2, none⟩ = some (.int .u16 o) := Row.cell h (k := 2) (by omega)
theorem RF.c3 (h : RF w F B i o) : w.cell? ⟨F, 3, none⟩ = some (.pointer (some ⟨B, 0, none⟩)) := Row.cell h (k := 3) (by omega)
theorem RF.chg {S : Nat → Prop} (h : RF w F B i o) (hc : Chg S w w') (hb : ¬ S F) : RF w' F B i o := Row.chg h hc hb
theorem RF.grown {row : Option Nat} (h : RF w F B i o) (hg : w.grownBy w' row) (hr : some F ≠ row) : RF w' F B i o := Row.grown h hg hr
theorem RF.setI (h : RF w F B i o) (x : Int) : RF (w.setCell ⟨F, 1, none⟩ (.int .u16 x)) F B x o := Row.set h (k := 1) rfl fun j hj hne => by
  match j, hj, hne with
  | 0, _, _ => rfl
  | 1, _, hne => exact absurd rfl hne
  | 2, _, _ => rfl
  | 3, _, _ => rfl
theorem RF.setO (h : RF w F B i o) (x : Int) : RF (w.setCell ⟨F, 2, none⟩ (.int .u16 x)) F B i x := Row.set h (k := 2) rfl fun j hj hne => by
  match j, hj, hne with
  | 0, _, _ => rfl
  | 1, _, _ => rfl
  | 2, _, hne => exact absurd rfl hne
  | 3, _, _ => rfl
end
theorem fExists (F B : Nat) (i o : Int) (w : World) (h : RF w F B i o) : Calls Try.prog 84 #[.pointer (some ⟨F, 0, none⟩)] w fun e w' => e = .returned (.bool true) ∧ w = w' := by
  have c3 := h.c3
  clear h
  go_enter Try.func84, Try.ntmps84
  go_wp2
  go_ret
  exact ⟨rfl, rfl⟩
def roomV (i o : Int) : Int := 8 - IntKind.u16.wrap (i - o)
theorem fOpn (F B : Nat) (i o : Int) (w : World) (h : RF w F B i o) : Calls Try.prog 88 #[.pointer (some ⟨F, 0, none⟩)] w fun e w' => e = .returned (.int .i64 (IntKind.u16.wrap (i - o))) ∧ w.grownBy w' none := by
  have c1 := h.c1
  have c2 := h.c2
  obtain ⟨x, hx⟩ : ∃ x, IntKind.u16.wrap (i - o) = x := ⟨_, rfl⟩
  have h0 : 0 ≤ x := by rw [← hx, wrap16]; omega
  have h1 : x ≤ 65535 := by rw [← hx, wrap16]; omega
  rw [hx]
  clear h
  go_enter Try.func88, Try.ntmps88
  go_wp2
  go_quiet (fail)
  all_goals go_wp2
  all_goals go_ret
  all_goals exact ⟨rfl, grownBy_drewN _ _ none⟩
theorem fRoom (F B : Nat) (i o : Int) (w : World) (h : RF w F B i o) : Calls Try.prog 48 #[.pointer (some ⟨F, 0, none⟩)] w fun e w' => e = .returned (.int .i64 (roomV i o)) ∧ w.grownBy w' none := by
  have H := hid (fExists F B i o w h)
  have HO := hid (fOpn F B i o w h)
  obtain ⟨x, hx⟩ : ∃ x, IntKind.u16.wrap (i - o) = x := ⟨_, rfl⟩
  have h0 : 0 ≤ x := by rw [← hx, wrap16]; omega
  have h1 : x ≤ 65535 := by rw [← hx, wrap16]; omega
  unfold roomV
  rw [hx] at HO ⊢
  clear h hx
  go_enter Try.func48, Try.ntmps48
  go_wp2_with (first
    | (go_at_call 84; refine H.out.mono ?_; rintro e w' ⟨rfl, rfl⟩)
    | (go_at_call 88; refine HO.out.mono ?_; rintro e w' ⟨rfl, g1⟩; have G1 := hid g1; clear g1))
  all_goals go_ret
  all_goals exact ⟨rfl, G1.out⟩
theorem fOpen (B : Nat) (w : World) (M : Mach) (X : Int) (hM : PM w B M) (hok : M.ok X) : Calls Try.prog 41 #[.pointer (some ⟨B, 0, none⟩), .int .i64 0] w fun e w' => ∃ F, e = .returned (.tuple #[.pointer (some ⟨F, 0, none⟩), .int .i64 0]) ∧ w.heap.size ≤ F ∧ RF w' F B 0 0 ∧ w.grownBy w' none := by
  have H := hid (fun W (hg : w.grownBy W none) => Frame_yes B 0 W M X (hM.grown hg (by simp)) hok (by have := hok.n1; omega))
  unfold Fr.head at H
  have H0 := hid (H.out w (World.grownBy.refl _ _))
  rw [show ((0 : Nat) : Int) = 0 from rfl] at H0
  clear H
  go_enter Try.func41, Try.ntmps41
  go_wp2_with (go_at_call 69; refine H0.out.mono ?_; rintro e w1 ⟨rfl, g1⟩; have G1 := hid g1; clear g1)
  go_ret2
  obtain ⟨W1, hW1⟩ : ∃ W1, w1.alloc (.cells #[.int .i64 (M.fr 0).owner, .int .i64 (M.fr 0).ty, .int .i64 (M.fr 0).cnt, .int .i64 (M.fr 0).tot] 108) = W1 := ⟨_, rfl⟩
  have hs1 : w1.heap.size + 1 = W1.heap.size := by rw [← hW1]; simp
  have g1 : w1.grownBy W1 none := hW1 ▸ World.grownBy_alloc _ _ none
  rw [hW1, hs1]
  refine ⟨W1.heap.size, rfl, ?_, ⟨_, heap_alloc_new W1 _, by simp, fun k hk => ?_⟩, (G1.out.trans g1).trans (World.grownBy_alloc _ _ none)⟩
  · have h1 := G1.out.size
    have h2 := g1.size
    omega
  · match k, hk with
    | 0, _ => rfl
    | 1, _ => rfl
    | 2, _ => rfl
    | 3, _ => rfl
theorem bEqual (pa pb : Option Addr) (n m c d : Nat) (a b : List UInt8) (w : World) (ha : ∀ k, (convert 31 9 (.slice pa n c)).run Try.prog (w.drewN k) = .ok (.string ⟨a.toArray⟩) (w.drewN k)) (hb : ∀ k, (convert 31 9 (.slice pb m d)).run Try.prog (w.drewN k) = .ok (.string ⟨b.toArray⟩) (w.drewN k)) :
    Calls Try.prog 90 #[.slice pa n c, .slice pb m d] w fun e w' => e = .returned (.bool (a == b)) ∧ w.grownBy w' none := by
  have ha0 := ha 0
  have hb0 := hb 0
  simp only [World.drewN_zero] at ha0 hb0
  go_enter Try.func90, Try.ntmps90
  go_wp2
  all_goals go_ret
  all_goals exact ⟨rfl, World.grownBy.refl _ _⟩
section
variable (F B : Nat) (i o : Int) (w : World) (M : Mach) (X : Int)
set_option maxRecDepth 100000 in
theorem fPut_full (h : RF w F B i o) (i0 : 0 ≤ i) (i1 : i ≤ 65535) (pa : Option Addr) (k c : Nat) (hk : k = 16) (hr : roomV i o = 0) :
    Calls Try.prog 42 #[.pointer (some ⟨F, 0, none⟩), .slice pa k c] w fun e w' => e = .returned (.int .i64 71) ∧ w.grownBy w' none := by
  subst hk
  have HE := hid (fExists F B i o w h)
  have HR := hid (fun W (hg : w.grownBy W none) => fRoom F B i o W (h.grown hg (by simp)))
  rw [hr] at HR
  have HP := hid (fun W => rgPlaceQ i W i0 i1)
  have c1 := h.c1
  clear h hr
  go_enter Try.func42, Try.ntmps42
  go_wp2_with (first
    | (go_at_call 84; refine HE.out.mono ?_; rintro e w1 ⟨rfl, rfl⟩)
    | (go_at_call 85; refine (HP.out _).mono ?_; rintro e w2 ⟨rfl, g2⟩; have G2 := hid g2; clear g2)
    | (go_at_call 48; refine (HR.out _ G2.out).mono ?_; rintro e w3 ⟨rfl, g3⟩; have G3 := hid (G2.out.trans g3); clear g3))
  go_ret
  exact ⟨rfl, G3.out⟩
/-- what Put leaves -/
structure FPut (M' : Mach) (i' : Int) (w' : World) : Prop where
  m : PM w' B M'
  f : RF w' F B i' o
  c : Chg (fun k => k = B ∨ k = F) w w'
set_option maxRecDepth 100000 in
theorem fPut_yes (h : RF w F B i o) (hM : PM w B M) (hok : M.ok X) (i0 : 0 ≤ i) (i1 : i ≤ 65535) (pa : Option Addr) (c : Nat) (l : List UInt8) (hl : l.length = 16) (hb : IsBytes w B (.slice pa 16 c) l) (hr : roomV i o ≠ 0) :
    Calls Try.prog 42 #[.pointer (some ⟨F, 0, none⟩), .slice pa 16 c] w fun e w' => e = .returned (.int .i64 0) ∧ FPut F B o w ((M.write 0 (16 + 16 * (i % 8)) l).2.write 0 0 (two16 (IntKind.u16.wrap (i + 1)))).2 (IntKind.u16.wrap (i + 1)) w' := by
  have hFB : F ≠ B := (Row.pm_ne h hM (by decide)).symm
  have HE := hid (fExists F B i o w h)
  have HR := hid (fun W (hg : w.grownBy W none) => fRoom F B i o W (h.grown hg (by simp)))
  have HF := hid (fun W (hg : w.grownBy W none) => h.grown hg (by simp))
  have HP := hid (fun W => rgPlaceQ i W i0 i1)
  have hrb : (roomV i o == 0) = false := by simp [hr]
  obtain ⟨x, hx⟩ : ∃ x, 16 + 16 * (i % 8) = x := ⟨_, rfl⟩
  have HX := hid (show x ≤ 9223372036854775807 by omega)
  obtain ⟨y, hy⟩ : ∃ y, IntKind.u16.wrap (i + 1) = y := ⟨_, rfl⟩
  have hy0 : 0 ≤ y := by rw [← hy, wrap16]; omega
  have hy1 : y ≤ 65535 := by rw [← hy, wrap16]; omega
  have HY := hid hy
  rw [hx] at HP ⊢
  rw [hy]
  have HV1 := hid (fun (W : World) (hgr : w.grownBy W none) => Write_any B 0 x (.slice pa 16 c) l W M X (hM.grown hgr (by simp)) hok HX.out (hb.grown (grow_any hgr _)) (by omega))
  obtain ⟨M1, hM1⟩ : ∃ M1, (M.write 0 x l).2 = M1 := ⟨_, rfl⟩
  have HOk1 := hid (show M1.ok X from hM1 ▸ Mach.write_ok hok _ _ _)
  rw [hM1] at HV1 ⊢
  obtain ⟨r1, hr1⟩ : ∃ r1, (M.write 0 x l).1 = r1 := ⟨_, rfl⟩
  rw [hr1] at HV1
  have c1 := h.c1
  clear h hM hok hb hr hx hM1 hr1 hy hl
  go_enter Try.func42, Try.ntmps42
  go_wp2_with (first
    | (go_at_call 84; refine HE.out.mono ?_; rintro e w1 ⟨rfl, rfl⟩)
    | (go_at_call 85; refine (HP.out _).mono ?_; rintro e w2 ⟨rfl, g2⟩; have G2 := hid g2; clear g2)
    | (go_at_call 48; refine (HR.out _ G2.out).mono ?_; rintro e w3 ⟨rfl, g3⟩; have G3 := hid (G2.out.trans g3); clear g3))
  have G3d := hid (G3.out.trans (grownBy_drew w3 none))
  have HFd := hid (HF.out _ G3d.out)
  have q0 : w3.drew.cell? ⟨F, 0, none⟩ = some (.int .i64 0) := HFd.out.c0
  have q3 : w3.drew.cell? ⟨F, 3, none⟩ = some (.pointer (some ⟨B, 0, none⟩)) := HFd.out.c3
  go_region_held3 (fun w' => w'.cell? ⟨F, 0, none⟩ = some (.int .i64 0) ∧ w'.cell? ⟨F, 3, none⟩ = some (.pointer (some ⟨B, 0, none⟩))) (first | exact ⟨by assumption, by assumption⟩ | go_keep)
    (first | (go_at_call 15; refine (HV1.out _ G3d.out).mono ?_; rintro e w5 ⟨rfl, hm5, g5⟩; have G5 := hid g5; have HM5 := hid hm5; have HF5 := hid (HFd.out.grown g5 (by simpa using hFB)); have k0 := HF5.out.c0; have k3 := HF5.out.c3; have d6 := HF5.out.c1; have d7 := Row.frozen HF5.out 1; clear hm5 g5))
  clear q0 q3
  go_wp2
  rw [HY.out]
  obtain ⟨W6, hW6⟩ : ∃ W6, w5.setCell ⟨F, 1, none⟩ (.int .u16 y) = W6 := ⟨_, rfl⟩
  have HF6 := hid (show RF W6.drew F B y o from hW6 ▸ (HF5.out.setI y).grown (grownBy_drew _ none) (by simp))
  have HM6 := hid (show PM W6.drew B M1 from hW6 ▸ (HM5.out.setOther ⟨F, 1, none⟩ (fun e => hFB e.symm) (.int .u16 y)).grown (grownBy_drew _ none) (by simp))
  have HC6 := hid (show Chg (fun k => k = B ∨ k = F) w W6.drew from hW6 ▸ (((Chg.of0 (S := fun k => k = B ∨ k = F) G3d.out).trans (Chg.of (S := fun k => k = B ∨ k = F) G5.out fun j e => .inl (.inl (Option.some.inj e).symm)) fun _ e => .inl e).trans (Chg.of (S := fun k => k = B ∨ k = F) (grownBy_setCell w5 F 1 none (.int .u16 y)) fun j e => .inl (.inr (Option.some.inj e).symm)) fun _ e => .inl e).trans (Chg.of0 (S := fun k => k = B ∨ k = F) (grownBy_drew _ none)) fun _ e => .inl e)
  rw [hW6]
  have q0 : W6.drew.cell? ⟨F, 0, none⟩ = some (.int .i64 0) := HF6.out.c0
  have q1 : W6.drew.cell? ⟨F, 1, none⟩ = some (.int .u16 y) := HF6.out.c1
  have q3 : W6.drew.cell? ⟨F, 3, none⟩ = some (.pointer (some ⟨B, 0, none⟩)) := HF6.out.c3
  clear hW6 d6 d7 k0 k3 c1
  go_region_held3 (fun w' => w'.cell? ⟨F, 0, none⟩ = some (.int .i64 0) ∧ w'.cell? ⟨F, 1, none⟩ = some (.int .u16 y) ∧ w'.cell? ⟨F, 3, none⟩ = some (.pointer (some ⟨B, 0, none⟩))) (first | exact ⟨by assumption, by assumption, by assumption⟩ | go_keep)
    (first
      | (go_at_call 86; refine (rgWord y _ hy0 hy1).mono ?_; rintro e w7 ⟨gq, hgq, rfl, hr7, g7⟩; have k0 := g7.cell q0 (by simp); have k1 := g7.cell q1 (by simp); have k3 := g7.cell q3 (by simp); have G7 := hid g7; have HB7 := hid (two16_bytes hr7 (show gq ≠ B from fun e => by have := HM6.out.lt; omega)); clear g7 hr7)
      | (go_at_call 15; refine (Write_any B 0 0 _ (two16 y) _ M1 X (HM6.out.grown G7.out (by simp)) HOk1.out (by omega) HB7.out (by rw [two16_len]; omega)).mono ?_; rintro e w8 ⟨rfl, hm8, g8⟩; have HM8 := hid hm8; have HF8 := hid ((HF6.out.grown G7.out (by simp)).grown g8 (by simpa using hFB)); have HC8 := hid ((HC6.out.trans (Chg.of0 (S := fun k => k = B ∨ k = F) G7.out) fun _ e => .inl e).trans (Chg.of (S := fun k => k = B ∨ k = F) g8 fun j e => .inl (.inl (Option.some.inj e).symm)) fun _ e => .inl e); have i0 := HF8.out.c0; have i1 := HF8.out.c1; have i3 := HF8.out.c3; clear hm8 g8))
  go_wp2
  go_ret
  exact ⟨rfl, HM8.out, HF8.out, HC8.out⟩
set_option maxRecDepth 100000 in
theorem fGet_none (h : RF w F B i o) (hz : IntKind.u16.wrap (i - o) = 0) :
    Calls Try.prog 47 #[.pointer (some ⟨F, 0, none⟩)] w fun e w' => e = .returned (.tuple #[.slice none 0 0, .int .i64 5]) ∧ w.grownBy w' none := by
  have HE := hid (fExists F B i o w h)
  have HO := hid (fOpn F B i o w h)
  rw [hz] at HO
  clear h hz
  go_enter Try.func47, Try.ntmps47
  go_wp2_with (first
    | (go_at_call 84; refine HE.out.mono ?_; rintro e w1 ⟨rfl, rfl⟩)
    | (go_at_call 88; refine HO.out.mono ?_; rintro e w2 ⟨rfl, g2⟩; have G2 := hid g2; clear g2))
  go_ret2
  exact ⟨rfl, G2.out⟩
theorem two_read (bs : Nat → UInt8) : (rgM bs).read 0 2 2 = ([bs 2, bs 3], 0) := by
  have := rgM_read (bs := bs) (o := 2) (n := 2) (by omega)
  rw [show (rgM bs).read 0 2 2 = (rgM bs).read 0 ((2 : Nat) : Int) ((2 : Nat) : Int) from rfl, this]
  rfl
theorem two16_string {w : World} {gq : Nat} {y : Int} (h : Row w gq 5 2 (fun k => .int .u8 ((two16 y).getD k 0).toNat)) (k : Nat) : (convert 31 9 (.slice (some ⟨gq, 0, none⟩) 2 2)).run Try.prog (w.drewN k) = .ok (.string ⟨(two16 y).toArray⟩) (w.drewN k) :=
  vconv_row (w.drewN k) gq 0 2 2 (two16 y) rfl fun q hq => by rw [Nat.zero_add]; exact (Row.grown h (grownBy_drewN _ _ none) (by simp)).cell hq
set_option maxRecDepth 100000 in
theorem fGet_short (bs : Nat → UInt8) (h : RF w F B i o) (hM : PM w B (rgM bs)) (o0 : 0 ≤ o) (o1 : o ≤ 65535) (hz : IntKind.u16.wrap (i - o) ≠ 0) (hq : ([bs 2, bs 3] == two16 o) = true) :
    Calls Try.prog 47 #[.pointer (some ⟨F, 0, none⟩)] w fun e w' => e = .returned (.tuple #[.slice none 0 0, .int .i64 3]) ∧ w.grownBy w' none := by
  have HE := hid (fExists F B i o w h)
  have HO := hid (fOpn F B i o w h)
  have HF := hid (fun W (hg : w.grownBy W none) => h.grown hg (by simp))
  have HRd := hid (fun W (hg : w.grownBy W none) => Read_all B 0 2 2 W (rgM bs) 0 (hM.grown hg (by simp)) (rgM_ok bs) (by omega))
  rw [two_read bs] at HRd
  have hzb : (IntKind.u16.wrap (i - o) == 0) = false := by simp [hz]
  obtain ⟨z, hzz⟩ : ∃ z, IntKind.u16.wrap (i - o) = z := ⟨_, rfl⟩
  rw [hzz] at HO hzb
  have HQ := hid hq
  clear h hM hz hq hzz
  go_enter Try.func47, Try.ntmps47
  go_wp2_with (first
    | (go_at_call 84; refine HE.out.mono ?_; rintro e w1 ⟨rfl, rfl⟩)
    | (go_at_call 88; refine HO.out.mono ?_; rintro e w2 ⟨rfl, g2⟩; have G2 := hid g2; clear g2))
  have G2d := hid (G2.out.trans (grownBy_drew w2 none))
  have q0 : w2.drew.cell? ⟨F, 0, none⟩ = some (.int .i64 0) := (HF.out _ G2d.out).c0
  have q3 : w2.drew.cell? ⟨F, 3, none⟩ = some (.pointer (some ⟨B, 0, none⟩)) := (HF.out _ G2d.out).c3
  go_region_held3 (fun w' => w'.cell? ⟨F, 0, none⟩ = some (.int .i64 0) ∧ w'.cell? ⟨F, 3, none⟩ = some (.pointer (some ⟨B, 0, none⟩))) (first | exact ⟨by assumption, by assumption⟩ | go_keep)
    (first | (go_at_call 38; refine (HRd.out _ G2d.out).mono ?_; rintro e w3 ⟨v3, rfl, ⟨q3', c3', rfl, hk3⟩, g3⟩; have G3 := hid (G2d.out.trans g3); have HK3 := hid hk3; have k0 := g3.cell q0 (by simp); have k3 := g3.cell q3 (by simp); have d2 := (HF.out _ G3.out).c2; clear hk3 g3))
  clear q0 q3
  go_wp2_with (first
    | (go_at_call 86; refine (rgWord o _ o0 o1).mono ?_; rintro e w7 ⟨gq, hgq, rfl, hr7, g7⟩; have G7 := hid (G3.out.trans g7); have kc1 := (fun n => kept_string HK3.out c3' (w7.drewN n) (g7.trans (grownBy_drewN _ _ none))); have kc2 := two16_string hr7; clear hr7 g7)
    | (go_at_call 90; refine (bEqual _ _ _ _ _ _ [bs 2, bs 3] (two16 o) _ kc1 kc2).mono ?_; rw [HQ.out]; rintro e w9 ⟨rfl, g9⟩; have G9 := hid (G7.out.trans g9); clear g9 kc1 kc2))
  go_ret2
  exact ⟨rfl, G9.out⟩
/-- what Get leaves -/
structure FGet (M : Mach) (o' : Int) (w' : World) : Prop where
  m : PM w' B M
  f : RF w' F B i o'
  c : Chg (fun k => k = F) w w'
set_option maxRecDepth 100000 in
theorem fGet_yes (bs : Nat → UInt8) (h : RF w F B i o) (hM : PM w B (rgM bs)) (o0 : 0 ≤ o) (o1 : o ≤ 65535) (hz : IntKind.u16.wrap (i - o) ≠ 0) (hq : ([bs 2, bs 3] == two16 o) = false) :
    Calls Try.prog 47 #[.pointer (some ⟨F, 0, none⟩)] w fun e w' => ∃ v, e = .returned (.tuple #[v, .int .i64 0]) ∧ FreshB w ((pgFr bs).part (144 + 8 * (o.toNat % 8)) 8) v w' ∧ FGet F B i w (rgM bs) (IntKind.u16.wrap (o + 1)) w' := by
  have hFB : F ≠ B := (Row.pm_ne h hM (by decide)).symm
  have HE := hid (fExists F B i o w h)
  have HO := hid (fOpn F B i o w h)
  have HF := hid (fun W (hg : w.grownBy W none) => h.grown hg (by simp))
  have HM := hid hM
  have HRd := hid (fun W (hg : w.grownBy W none) => Read_all B 0 2 2 W (rgM bs) 0 (hM.grown hg (by simp)) (rgM_ok bs) (by omega))
  rw [two_read bs] at HRd
  have HP := hid (fun W => rgPlaceS o W o0 o1)
  obtain ⟨x, hx⟩ : ∃ x, 144 + 8 * (o % 8) = x := ⟨_, rfl⟩
  have HR2 := hid (fun W (hm : PM W B (rgM bs)) => Read_all B 0 x 8 W (rgM bs) 0 hm (rgM_ok bs) (by omega))
  rw [show (rgM bs).read 0 x 8 = ((pgFr bs).part (144 + 8 * (o.toNat % 8)) 8, 0) from by
    rw [show x = ((144 + 8 * (o.toNat % 8) : Nat) : Int) by rw [← hx]; omega]; exact rgM_read (bs := bs) (o := 144 + 8 * (o.toNat % 8)) (n := 8) (by omega)] at HR2
  rw [hx] at HP
  have hzb : (IntKind.u16.wrap (i - o) == 0) = false := by simp [hz]
  obtain ⟨z, hzz⟩ : ∃ z, IntKind.u16.wrap (i - o) = z := ⟨_, rfl⟩
  rw [hzz] at HO hzb
  obtain ⟨y, hy⟩ : ∃ y, IntKind.u16.wrap (o + 1) = y := ⟨_, rfl⟩
  have HY := hid hy
  rw [hy]
  have HQ := hid hq
  clear h hM hz hq hzz hx hy
  generalize (pgFr bs).part (144 + 8 * (o.toNat % 8)) 8 = lr at *
  go_enter Try.func47, Try.ntmps47
  go_wp2_with (first
    | (go_at_call 84; refine HE.out.mono ?_; rintro e w1 ⟨rfl, rfl⟩)
    | (go_at_call 88; refine HO.out.mono ?_; rintro e w2 ⟨rfl, g2⟩; have G2 := hid g2; clear g2))
  have G2d := hid (G2.out.trans (grownBy_drew w2 none))
  have q0 : w2.drew.cell? ⟨F, 0, none⟩ = some (.int .i64 0) := (HF.out _ G2d.out).c0
  have q3 : w2.drew.cell? ⟨F, 3, none⟩ = some (.pointer (some ⟨B, 0, none⟩)) := (HF.out _ G2d.out).c3
  go_region_held3 (fun w' => w'.cell? ⟨F, 0, none⟩ = some (.int .i64 0) ∧ w'.cell? ⟨F, 3, none⟩ = some (.pointer (some ⟨B, 0, none⟩))) (first | exact ⟨by assumption, by assumption⟩ | go_keep)
    (first | (go_at_call 38; refine (HRd.out _ G2d.out).mono ?_; rintro e w3 ⟨v3, rfl, ⟨q3', c3', rfl, hk3⟩, g3⟩; have G3 := hid (G2d.out.trans g3); have HK3 := hid hk3; have k0 := g3.cell q0 (by simp); have k3 := g3.cell q3 (by simp); have d2 := (HF.out _ G3.out).c2; clear hk3 g3))
  clear q0 q3
  go_wp2_with (first
    | (go_at_call 86; refine (rgWord o _ o0 o1).mono ?_; rintro e w7 ⟨gq, hgq, rfl, hr7, g7⟩; have G7 := hid (G3.out.trans g7); have kc1 := (fun n => kept_string HK3.out c3' (w7.drewN n) (g7.trans (grownBy_drewN _ _ none))); have kc2 := two16_string hr7; clear hr7 g7)
    | (go_at_call 90; refine (bEqual _ _ _ _ _ _ [bs 2, bs 3] (two16 o) _ kc1 kc2).mono ?_; rw [HQ.out]; rintro e w9 ⟨rfl, g9⟩; have G9 := hid (G7.out.trans g9); have e2 := (HF.out _ G9.out).c2; clear g9 kc1 kc2 k0 k3 d2)
    | (go_at_call 89; refine (HP.out _).mono ?_; rintro e wa ⟨rfl, ga⟩; have Ga := hid (G9.out.trans ga); have e3 := (HF.out _ Ga.out).c2; have e9 := Row.frozen (HF.out _ Ga.out) 2; clear ga e2))
  rw [HY.out]
  obtain ⟨Wb, hWb⟩ : ∃ Wb, wa.setCell ⟨F, 2, none⟩ (.int .u16 y) = Wb := ⟨_, rfl⟩
  have HFb := hid (show RF Wb.drew F B i y from hWb ▸ ((HF.out _ Ga.out).setO y).grown (grownBy_drew _ none) (by simp))
  have HMb := hid (show PM Wb.drew B (rgM bs) from hWb ▸ ((HM.out.grown Ga.out (by simp)).setOther ⟨F, 2, none⟩ (fun e => hFB e.symm) (.int .u16 y)).grown (grownBy_drew _ none) (by simp))
  have HCb := hid (show Chg (fun k => k = F) w Wb.drew from hWb ▸ ((Chg.of0 (S := fun k => k = F) Ga.out).trans (Chg.of (S := fun k => k = F) (grownBy_setCell wa F 2 none (.int .u16 y)) fun j e => .inl (Option.some.inj e).symm) fun _ e => .inl e).trans (Chg.of0 (S := fun k => k = F) (grownBy_drew _ none)) fun _ e => .inl e)
  rw [hWb]
  have q0 : Wb.drew.cell? ⟨F, 0, none⟩ = some (.int .i64 0) := HFb.out.c0
  have q3 : Wb.drew.cell? ⟨F, 3, none⟩ = some (.pointer (some ⟨B, 0, none⟩)) := HFb.out.c3
  clear hWb e3 e9
  go_region_held3 (fun w' => w'.cell? ⟨F, 0, none⟩ = some (.int .i64 0) ∧ w'.cell? ⟨F, 3, none⟩ = some (.pointer (some ⟨B, 0, none⟩))) (first | exact ⟨by assumption, by assumption⟩ | go_keep)
    (first | (go_at_call 38; refine (HR2.out _ HMb.out).mono ?_; rintro e wc ⟨vc, rfl, hbc, gc⟩; have Gc := hid gc; have HBc := hid hbc; have k0 := gc.cell q0 (by simp); have k3 := gc.cell q3 (by simp); clear gc hbc))
  go_wp2
  go_ret2
  exact ⟨vc, rfl, HBc.out.pre HCb.out.size, HMb.out.grown Gc.out (by simp), HFb.out.grown Gc.out (by simp), HCb.out.trans (Chg.of0 (S := fun _ => False) Gc.out) fun _ e => e.elim⟩
end
end Go.Proofs.Ytgnihllnjaagcaa
