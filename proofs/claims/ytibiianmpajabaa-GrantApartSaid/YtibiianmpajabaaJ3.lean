/-
  Package tenementref06 in memory: its members; New and Join.
-/
import Derived.Test.YtibiianmpajabaaJ1
import Derived.Test.YtibiianmpajabaaJC
import Derived.Test.YtibiianmpajabaaJ8
import Derived.Test.YtibiianmpajabaaJ2
import Derived.Test.YtibiianmpajabaaJ6
import Derived.Test.YtibiianmpajabaaJ9
import Derived.Test.YtibiianmpajabaaPhysF
set_option linter.unusedSimpArgs false
set_option linter.unusedVariables false
namespace Go.Proofs.Ytibiianmpajabaa
open Go.RowKit KM
set_option maxHeartbeats 4000000
set_option maxRecDepth 100000

def rgtop (R D c : Nat) (LV : Value) : Nat → Value
  | 0 => .pointer (some ⟨R, 0, none⟩)
  | 1 => .slice (some ⟨D, 0, none⟩) 8 c
  | _ => LV
def rtblV : Option (Int × Nat) → Int | some (t, _) => t | none => -1
def rgmem (qb : Nat → Nat) (g : Gst) (k : Nat) : Value := if k % 2 = 0 then .int .i64 (rtblV (g.mem (k / 2))) else plcV qb (g.mem (k / 2))
/-- block X holds the reference's grants: its machine in block R, its members in block D, its live maps are LV -/
structure RG (w : World) (X R D c : Nat) (LV : Value) (qb : Nat → Nat) (g : Gst) : Prop where
  top : Row w X 223 3 (rgtop R D c LV)
  mem : Row w D 225 16 (rgmem qb g)
  cap : 8 ≤ c
section
variable {w w' : World} {X R D c : Nat} {LV : Value} {qb : Nat → Nat} {g : Gst}
theorem RG.c0 (h : RG w X R D c LV qb g) : w.cell? ⟨X, 0, none⟩ = some (.pointer (some ⟨R, 0, none⟩)) := h.top.cell (k := 0) (by omega)
theorem RG.c1 (h : RG w X R D c LV qb g) : w.cell? ⟨X, 1, none⟩ = some (.slice (some ⟨D, 0, none⟩) 8 c) := h.top.cell (k := 1) (by omega)
theorem RG.t (h : RG w X R D c LV qb g) {d : Nat} (hd : d < 8) : w.cell? ⟨D, d * 2, none⟩ = some (.int .i64 (rtblV (g.mem d))) := by
  rw [h.mem.cell (k := d * 2) (by omega)]; unfold rgmem; rw [if_pos (by omega), show d * 2 / 2 = d by omega]
theorem RG.p (h : RG w X R D c LV qb g) {d : Nat} (hd : d < 8) : w.cell? ⟨D, d * 2 + 1, none⟩ = some (plcV qb (g.mem d)) := by
  rw [h.mem.cell (k := d * 2 + 1) (by omega)]; unfold rgmem; rw [if_neg (by omega), show (d * 2 + 1) / 2 = d by omega]
theorem RG.chg {S : Nat → Prop} (h : RG w X R D c LV qb g) (hc : Chg S w w') (hX : ¬ S X) (hD : ¬ S D) : RG w' X R D c LV qb g := ⟨h.top.chg hc hX, h.mem.chg hc hD, h.cap⟩
theorem RG.grown (h : RG w X R D c LV qb g) (hg : w.grownBy w' none) : RG w' X R D c LV qb g := h.chg (S := fun _ => False) (Chg.of0 hg) (fun e => e) (fun e => e)
theorem RG.XD (h : RG w X R D c LV qb g) : X ≠ D := h.top.type_ne h.mem (by decide)
theorem RG.off {M : Mach} {L : Lay} (h : RG w X R D c LV qb g) (hM : RM w R M L) : ¬ L.foot R X ∧ ¬ L.foot R D := by
  refine ⟨?_, ?_⟩
  · rintro (e | e | e | ⟨i, hi, e⟩)
    · exact h.top.type_ne hM.top (by decide) e
    · exact h.top.type_ne hM.fr (by decide) e
    · exact h.top.type_ne hM.bs (by decide) e
    · exact h.top.type_ne (hM.row i hi) (by decide) e
  · rintro (e | e | e | ⟨i, hi, e⟩)
    · exact h.mem.type_ne hM.top (by decide) e
    · exact h.mem.type_ne hM.fr (by decide) e
    · exact h.mem.type_ne hM.bs (by decide) e
    · exact h.mem.type_ne (hM.row i hi) (by decide) e
/-- a member is set -/
theorem RG.member (h : RG w X R D c LV qb g) {d : Nat} (hd : d < 8) (x : Option (Int × Nat)) :
    RG ((w.setCell ⟨D, d * 2, none⟩ (.int .i64 (rtblV x))).setCell ⟨D, d * 2 + 1, none⟩ (plcV qb x)) X R D c LV qb (g.setMem d x) := by
  have hXD := h.XD
  refine ⟨(h.top.setOther _ hXD _).setOther _ hXD _, ?_, h.cap⟩
  have hsame : (g.setMem d x).mem d = x := by simp [Gst.setMem]
  refine Row.set (X := fun j => if j = d * 2 then .int .i64 (rtblV x) else rgmem qb g j) (k := d * 2 + 1) (Row.set (k := d * 2) h.mem (by simp) fun j _ hne => by simp [hne]) (by unfold rgmem; rw [if_neg (by omega), show (d * 2 + 1) / 2 = d by omega, hsame]) fun j hj hne => ?_
  by_cases e : j = d * 2
  · subst e; unfold rgmem; rw [if_pos rfl, if_pos (by omega), show d * 2 / 2 = d by omega, hsame]
  · simp only [e, if_false]
    have hoth : (g.setMem d x).mem (j / 2) = g.mem (j / 2) := by simp only [Gst.setMem]; rw [if_neg (by omega)]
    unfold rgmem
    rw [hoth]
end
/-! ### New -/
def mc (k : Nat) : List Value := (List.replicate k [Value.int .i64 (-1), .pointer none]).flatten
theorem mc_snoc (k : Nat) : mc (k + 1) = mc k ++ [.int .i64 (-1), .pointer none] := by unfold mc; rw [List.replicate_succ', List.flatten_append]; rfl
theorem info_member : (Try.prog.info? 225).map (fun i => (i.zero, i.size, i.bytes)) = some (some (.agg #[.int .i64 0, .pointer none]), 2, 16) := by kernel_rfl
def rgnew (R : Nat) (v : Value) : Nat → Value
  | 0 => .pointer (some ⟨R, 0, none⟩)
  | 1 => v
  | _ => .slice none 0 0
def NewG (w : World) (R : Nat) (qb : Nat → Nat) (e : Ending) (w' : World) : Prop := ∃ D c, e = .returned (.pointer (some ⟨w.heap.size, 0, none⟩)) ∧ RG w' w.heap.size R D c (.slice none 0 0) qb gst0 ∧ w.heap.size ≤ D ∧ w.grownBy w' none
theorem newG_of {w W : World} {R : Nat} {v : Value} (qb : Nat → Nat) (ht : Row W w.heap.size 223 3 (rgnew R v)) (ho : W.ownsRow (w.heap.size + 1) 225 2 v 8 (mc 8)) (hg : w.grownBy W none) : NewG w R qb (.returned (.pointer (some ⟨w.heap.size, 0, none⟩))) W := by
  obtain ⟨D, c, e, hb, hr⟩ := ownsRow_row (n := 7) ho
  have hcap : 8 ≤ c := by
    rcases ho.2 with ⟨e', _⟩ | ⟨g', cap', cur, e', _, _, hn, _⟩
    · rw [e] at e'; cases e'
    · rw [e] at e'; cases e'; exact hn
  subst e
  refine ⟨D, c, rfl, ⟨ht.congr fun k hk => ?_, hr.congr fun k hk => ?_, hcap⟩, by omega, hg⟩
  · match k, hk with
    | 0, _ => rfl
    | 1, _ => rfl
    | 2, _ => rfl
  · have : k = 0 ∨ k = 1 ∨ k = 2 ∨ k = 3 ∨ k = 4 ∨ k = 5 ∨ k = 6 ∨ k = 7 ∨ k = 8 ∨ k = 9 ∨ k = 10 ∨ k = 11 ∨ k = 12 ∨ k = 13 ∨ k = 14 ∨ k = 15 := by omega
    rcases this with rfl | rfl | rfl | rfl | rfl | rfl | rfl | rfl | rfl | rfl | rfl | rfl | rfl | rfl | rfl | rfl <;> rfl
theorem rgNew (R : Nat) (qb : Nat → Nat) (w : World) : Calls Try.prog 101 #[.pointer (some ⟨R, 0, none⟩)] w (NewG w R qb) := by
  obtain ⟨i0, hi, hz0, hz1, hz2⟩ := info_parts info_member
  have Hi := hid hi; have Hz0 := hid hz0; have Hz1 := hid hz1; have Hz2 := hid hz2
  clear hi hz0 hz1 hz2
  go_enter Try.func101, Try.ntmps101
  go_wp2
  go_loopw [4] (fun i wr => ∃ (k : Nat) (v : Value), i = .int .i64 k ∧ k ≤ 8 ∧ Row wr w.heap.size 223 3 (rgnew R v) ∧ wr.ownsRow (w.heap.size + 1) 225 2 v k (mc k) ∧ w.heap.size + 1 ≤ wr.heap.size ∧ w.grownBy wr none) (fun i _ => 8 - (intOf i).toNat)
  case atStart => exact ⟨0, .slice none 0 0, rfl, by omega, Gen.Row.new w _ _ _ _ (by simp) (fun k hk => by match k, hk with | 0, _ => rfl | 1, _ => rfl | 2, _ => rfl), World.ownsRow_nil _ _ _ _, by simp, World.grownBy_alloc w _ none⟩
  case round =>
    obtain ⟨k, v, rfl, hk, ht, ho, hsz, hg⟩ := hrel
    obtain ⟨pv, cv, hv⟩ := ownsRow_slice ho
    have HTt := hid ht; have HO := hid ho; have HG := hid hg; have HSz := hid hsz
    clear ht ho hg hsz
    subst hv
    have c1 : wr.cell? ⟨w.heap.size, 1, none⟩ = some (.slice pv k cv) := HTt.out.cell (k := 1) (by omega)
    have hk0 : (0 : Int) ≤ k := by omega
    by_cases hlt : k < 8
    · have hlt' : (k : Int) < 8 := by omega
      go_wp2_with (at_builtin; refine wpList_append_own _ rfl _ _ 221 rfl (w.heap.size + 1) 225 i0 (.agg #[.int .i64 0, .pointer none]) 2 16 Try.underlying221 Hi.out Hz0.out Hz1.out Hz2.out rfl (by decide) _ _ _ rfl (HO.out.alloc _) ⟨wr.heap.size, 0, none⟩ 1 1 [.int .i64 (-1), .pointer none] rfl rfl (World.news_of_block (heap_alloc_new wr _)) (by simp [Value.oneCell']) (by unfold maxLen; omega) (by omega) (by have := HSz.out; simp; omega) ?_; intro v' w1 hown' hgrow hnil; clear hnil; obtain ⟨pv', cv', rfl⟩ := ownsRow_slice hown'; have HO1 := hid hown'; have HG1 := hid ((HG.out.trans (World.grownBy_alloc wr _ none)).andThen hgrow (fun j hj => .inl (by have := (HO.out.lt j hj).1; omega))); have HT1 := hid ((HTt.out.alloc _).grown hgrow (Gen.own_ne HO.out (by omega))); have HS1 := hid (show w.heap.size + 1 ≤ w1.heap.size by have := hgrow.size; have := HSz.out; simp at *; omega); have hf1 := HT1.out.frozen 1; have d1 := HT1.out.cell (k := 1) (by omega); clear hown' hgrow)
      go_roundw
      case rel => exact ⟨k + 1, _, by go_num, by omega, HT1.out.set rfl (fun j hj hne => by match j, hj, hne with | 0, _, _ => rfl | 1, _, h => exact absurd rfl h | 2, _, _ => rfl), by rw [mc_snoc]; exact HO1.out.kept (grownBy_setCell _ _ _ _ _) (by have := Gen.own_ne HO1.out (B := w.heap.size) (by omega); cases h : (Value.slice pv' (k + 1) cv').ownBlock with | none => exact .inl rfl | some x => exact .inr (fun e => this (by rw [h, e]))), by simpa using HS1.out, HG1.out.andThen (grownBy_setCell w1 w.heap.size 1 none _) (fun j hj => .inl (by cases hj; omega))⟩
      case measure => simp [intOf]; omega
    · obtain rfl : k = 8 := by omega
      have hge : ((8 : Nat) : Int) ≤ (8 : Nat) := by omega
      go_wp2
      go_ret
      exact newG_of qb HTt.out HO.out HG.out
end Go.Proofs.Ytibiianmpajabaa

/-
  Package tenementref06: Join.
-/
set_option linter.unusedSimpArgs false
set_option linter.unusedVariables false
namespace Go.Proofs.Ytibiianmpajabaa
open Go.RowKit KM
set_option maxHeartbeats 4000000
set_option maxRecDepth 100000

/-- the reference's grants and their machine -/
def GLR (w : World) (X R D c : Nat) (LV : Value) (qb : Nat → Nat) (L : Lay) (s : Gs) (w' : World) : Prop :=
  RG w' X R D c LV qb s.g ∧ (∃ L', RM w' R s.M L' ∧ L'.n = L.n ∧ ∀ k, L'.foot R k → L.foot R k ∨ w.heap.size ≤ k) ∧ Chg (fun k => k = D ∨ L.foot R k) w w'
section
variable {w w' : World} {X R D c : Nat} {LV : Value} {qb : Nat → Nat} {L : Lay} {s : Gs}
theorem GLR.same (h : RG w X R D c LV qb s.g) (hM : RM w R s.M L) : GLR w X R D c LV qb L s w := ⟨h, ⟨L, hM, rfl, fun _ e => .inl e⟩, Chg.refl _ _⟩
theorem rgJoin (h : RG w X R D c LV qb s.g) (hM : RM w R s.M L) (hmem : ∀ d t i, s.g.mem d = some (t, i) → 0 ≤ t) {K : Int} (hok : s.M.ok K) (hK : K < 9223372036854775807) (d mfn : Int) (i : Nat) :
    Calls Try.prog 102 #[.pointer (some ⟨X, 0, none⟩), .int .i64 d, .int .i64 mfn, .pointer (some ⟨qb i, 0, none⟩)] w fun e w' => e = .returned (.int .i64 (s.join d mfn i).1) ∧ GLR w X R D c LV qb L (s.join d mfn i).2 w' := by
  have c0 := h.c0
  have c1 := h.c1
  cases hd : gdom d with
  | false =>
    have e1 : s.join d mfn i = (1, s) := by unfold Gs.join; rw [if_pos hd]
    rw [e1]
    have HD := hid (rDomain_no d w (gdom_no.1 hd))
    have HL := hid (GLR.same h hM)
    clear h hok hd e1 hM
    go_enter Try.func102, Try.ntmps102
    go_wp2_with (go_at_call 123; refine HD.out.mono ?_; rintro e w' ⟨rfl, rfl⟩)
    go_ret
    exact ⟨rfl, HL.out⟩
  | true =>
    obtain ⟨h0, h1⟩ := gdom_yes.1 hd
    have HD := hid (rDomain_yes d w h0 h1)
    obtain ⟨k, rfl⟩ : ∃ k : Nat, d = k := ⟨d.toNat, by omega⟩
    have hk : k < 8 := by omega
    have hk8 : (k : Int) < (8 : Nat) := by omega
    have d0 := h.t hk
    cases hm : s.g.mem k with
    | some x =>
      obtain ⟨t, j⟩ := x
      have e1 : s.join k mfn i = (8, s) := by unfold Gs.join; rw [if_neg (by rw [hd]; simp), Int.toNat_natCast, hm]; rfl
      rw [e1]
      rw [hm] at d0
      have d0' : w.cell? ⟨D, k * 2, none⟩ = some (.int .i64 t) := d0
      have ht := hmem k t j hm
      have HL := hid (GLR.same h hM)
      clear h hok hd e1 hm hM d0 hmem
      go_enter Try.func102, Try.ntmps102
      go_wp2_with (go_at_call 123; refine HD.out.mono ?_; rintro e w' ⟨rfl, rfl⟩)
      go_ret
      exact ⟨rfl, HL.out⟩
    | none =>
      rw [hm] at d0
      have d0' : w.cell? ⟨D, k * 2, none⟩ = some (.int .i64 (-1)) := d0
      have HP := hid (rGet R mfn k 1 w s.M L K hM hok hK)
      have HA := hid h
      have HO := hid (h.off hM)
      have HK := hid hk
      have hlt := h.mem.lt
      obtain ⟨r, hr⟩ : ∃ r, (s.M.get mfn k 1).1 = r := ⟨_, rfl⟩
      rw [hr] at HP
      by_cases hr0 : r = 0
      · subst hr0
        have e1 : s.join k mfn i = (0, ⟨(s.M.get mfn k 1).2, s.P, s.g.setMem k (some (mfn, i))⟩) := by unfold Gs.join; rw [if_neg (by rw [hd]; simp), Int.toNat_natCast, hm, if_neg (by simp), if_pos hr]
        rw [e1]
        clear h hok hd e1 hm hr hM hmem d0
        go_enter Try.func102, Try.ntmps102
        go_wp2_with (first
          | (go_at_call 123; refine HD.out.mono ?_; rintro e w' ⟨rfl, rfl⟩)
          | (go_at_call 70; refine HP.out.mono ?_; rintro e w3 ⟨rfl, L', h3, n3, g3, f3⟩; have HA3 := hid (HA.out.chg g3 HO.out.1 HO.out.2); have HM3 := hid h3; have N3 := hid n3; have G3 := hid g3; have F3 := hid f3; have c13 := HA3.out.c1; have d1 := HA3.out.t HK.out; have d2 := HA3.out.p HK.out; have f1 := HA3.out.mem.frozen (k * 2); have f2 := HA3.out.mem.frozen (k * 2 + 1); clear h3 n3 g3 f3))
        go_ret
        have hm3 := HA3.out.member HK.out (some (mfn, i))
        have q1 := (grownBy_setCell w3 D (k * 2) none (.int .i64 mfn)).trans (grownBy_setCell _ D (k * 2 + 1) none (.pointer (some ⟨qb i, 0, none⟩)))
        refine ⟨rfl, hm3, ⟨L', ?_, N3.out, F3.out⟩, ?_⟩
        · exact HM3.out.chg (S := fun k => k = D) (Chg.of q1 fun j e => .inl (Option.some.inj e).symm) fun q hq e => (HA3.out.off HM3.out).2 (e ▸ hq)
        · exact (G3.out.mono fun _ e => .inr e).trans (Chg.of (S := fun k => k = D ∨ L.foot R k) q1 fun j e => .inl (.inl (Option.some.inj e).symm)) fun _ e => .inl e
      · have e1 : s.join k mfn i = (r, s) := by unfold Gs.join; rw [if_neg (by rw [hd]; simp), Int.toNat_natCast, hm, if_neg (by simp), hr, if_neg hr0]
        rw [e1]
        have hf : (s.M.get mfn k 1).2 = s.M := Mach.get_fail (by rw [hr]; exact hr0)
        rw [hf] at HP
        have hb : (r == 0) = false := by simpa using hr0
        clear h hok hd e1 hm hr hM hmem d0 hf hr0
        go_enter Try.func102, Try.ntmps102
        go_wp2_with (first
          | (go_at_call 123; refine HD.out.mono ?_; rintro e w' ⟨rfl, rfl⟩)
          | (go_at_call 70; refine HP.out.mono ?_; rintro e w3 ⟨rfl, L', h3, n3, g3, f3⟩; have HA3 := hid (HA.out.chg g3 HO.out.1 HO.out.2); have HM3 := hid h3; have N3 := hid n3; have G3 := hid g3; have F3 := hid f3; clear h3 n3 g3 f3))
        go_ret
        exact ⟨rfl, HA3.out, ⟨L', HM3.out, N3.out, F3.out⟩, G3.out.mono fun _ e => .inr e⟩
end
end Go.Proofs.Ytibiianmpajabaa

/-
  WholeGrant's machine and grants on plain data. No walk here.
-/
set_option linter.unusedSimpArgs false
set_option linter.unusedVariables false
namespace Go.Proofs.Ytibiianmpajabaa
open Go.RowKit KM

def alW : Nat → Mach
  | 0 => upTo ((4 : Nat) : Int) 4
  | k + 1 => ((alW k).alloc ((k : Int) / 2)).2.2
theorem alW_ok : ∀ k, (alW k).ok 0
  | 0 => upTo_ok' 4 (by omega) (by omega)
  | k + 1 => Mach.alloc_ok (alW_ok k) _
def twoP (k : Nat) : Mp := (((Mp.empty 2).setE 0 (2 * (k : Int))).1.setE 1 (2 * (k : Int) + 1)).1
def stW : Nat → Gs
  | 0 => ⟨alW 4, fun _ => Mp.empty 0, gst0⟩
  | k + 1 => ((⟨(stW k).M, upP (stW k).P k (twoP k), (stW k).g⟩ : Gs).join k (2 * (k : Int)) k).2
theorem stW_ok : ∀ k : Nat, (stW k).M.ok k
  | 0 => alW_ok 4
  | k + 1 => by
    have e : ((k + 1 : Nat) : Int) = (k : Int) + 1 := by omega
    rw [e]
    exact Gs.join_ok (s := ⟨(stW k).M, upP (stW k).P k (twoP k), (stW k).g⟩) (stW_ok k) k (2 * (k : Int)) k
theorem stW_g1 : (stW 1).g = gst0.setMem 0 (some (0, 0)) := by kernel_rfl
theorem stW_g2 : (stW 2).g = (gst0.setMem 0 (some (0, 0))).setMem 1 (some (2, 1)) := by kernel_rfl
theorem stW_P1 : (stW 2).P 1 = twoP 1 := by kernel_rfl
theorem stW_n : (stW 2).M.n = 4 := by kernel_rfl
theorem stW_o2 : ((stW 2).M.fr 2).owner = 1 := by kernel_rfl
theorem stW_o3 : ((stW 2).M.fr 3).owner = 1 := by kernel_rfl
theorem stW_t2 : ((stW 2).M.fr 2).ty = 1 := by kernel_rfl
theorem stW_t3 : ((stW 2).M.fr 3).ty = 0 := by kernel_rfl
theorem stW_mem (k : Nat) (hk : k < 2) : ∀ d t i, (stW k).g.mem d = some (t, i) → i < k := by
  intro d t i h
  have : k = 0 ∨ k = 1 := by omega
  rcases this with rfl | rfl
  · cases h
  · rw [stW_g1] at h
    simp only [Gst.setMem, gst0] at h
    split at h
    · cases h; omega
    · cases h
theorem twoP_0 : (twoP 1).getE 0 = (2, 0) := by kernel_rfl
theorem twoP_1 : (twoP 1).getE 1 = (3, 0) := by kernel_rfl
theorem twoP_2 (p : Int) (h : 2 ≤ p) : ((twoP 1).getE p).2 = 1 := by
  have hn : (twoP 1).n = 2 := by kernel_rfl
  unfold Mp.getE
  rw [hn, if_neg (by rw [inPl_yes]; omega)]

theorem upP_upP (P : Nat → Mp) (i : Nat) (a b : Mp) : upP (upP P i a) i b = upP P i b := by
  funext j; unfold upP; split <;> rfl
/-- the grants in memory behind a call that began at w -/
structure WS (w wr : World) (X B G : Nat) (pm : Nat → Nat × Nat × Nat) (np : Nat) (s : Gs) (T : Nat) : Prop where
  a : GA wr X B G pm np s T
  far : ∀ q, gfoot X B G pm np q → w.heap.size ≤ q
  g : w.grownBy wr none
section
variable {w wr W : World} {X B G : Nat} {pm : Nat → Nat × Nat × Nat} {np : Nat} {s s' : Gs} {T T' : Nat}
theorem Chg.grownR {S : Nat → Prop} {w0 w1 w2 : World} (h : Chg S w1 w2) (hg : w0.grownBy w1 none) (hs : ∀ k, S k → w0.heap.size ≤ k) : w0.grownBy w2 none :=
  ⟨h.os.trans hg.os, h.tape.trans hg.tape, h.output.trans hg.output, Nat.le_trans hg.size h.size, fun k hk _ => (h.block k (Nat.lt_of_lt_of_le hk hg.size) fun e => by have := hs k e; omega).trans (hg.block k hk (by simp))⟩
theorem WS.grown (h : WS w wr X B G pm np s T) (hg : wr.grownBy W none) : WS w W X B G pm np s T := ⟨h.a.grown hg, h.far, h.g.trans hg⟩
theorem WS.left (h : WS w wr X B G pm np s T) (hl : GL wr X B G pm np s' T' W) : WS w W X B G pm np s' T' := ⟨hl.a, h.far, hl.c.grownR h.g h.far⟩
theorem WS.mach {M' : Mach} (h : WS w wr X B G pm np s T) (hm : PM W B M') (hg : wr.grownBy W (some B)) : WS w W X B G pm np (s.setM M') T := h.left ((GL.same h.a).mach hm hg)
theorem WS.add (h : WS w wr X B G pm np s T) (hmem : ∀ d t i, s.g.mem d = some (t, i) → i < np) {b f p T0 : Nat} {Q : Mp} (hP : PMap W b f p Q T0) (hT : T0 ≤ T) (hg : wr.grownBy W none) (hf : ∀ k, pfoot b f p k → wr.heap.size ≤ k) :
    WS w W X B G (upPm pm np (b, f, p)) (np + 1) ⟨s.M, upP s.P np Q, s.g⟩ T := by
  refine ⟨h.a.add hmem hP hT hg hf, fun q hq => ?_, h.g.trans hg⟩
  rcases hq with e | e | e | ⟨i, hi, hk⟩
  · exact h.far q (.inl e)
  · exact h.far q (.inr (.inl e))
  · exact h.far q (.inr (.inr (.inl e)))
  · by_cases e : i = np
    · subst e
      unfold pft at hk
      rw [upPm_same] at hk
      exact Nat.le_trans h.g.size (hf q hk)
    · unfold pft at hk
      rw [upPm_other _ _ _ _ e] at hk
      exact h.far q (.inr (.inr (.inr ⟨i, by omega, hk⟩)))
theorem WS.set (h : WS w wr X B G pm np s T) (hT : T < maxLen) {i b : Nat} (hi : i < np) (hb : (pm i).1 = b) (g m : Int) (hg : I64 g) (hm : I64 m) :
    Calls Try.prog 89 #[.pointer (some ⟨b, 0, none⟩), .int .i64 g, .int .i64 m] wr fun e w' => e = .returned (.int .i64 ((s.P i).setE g m).2) ∧ WS w w' X B G pm np ⟨s.M, upP s.P i ((s.P i).setE g m).1, s.g⟩ (T + 1) := by
  subst hb
  exact (pSet_yes _ _ _ _ T g m hg hm hT wr (h.a.p i hi)).mono fun e w' ⟨he, hl⟩ => ⟨he, h.left ⟨h.a.place hi (Nat.le_succ _) hl, (Chg.ofGen hl.chg).mono fun k hk => .inr (.inr (.inr ⟨i, hi, hk⟩))⟩⟩
theorem WS.join (h : WS w wr X B G pm np s T) {K : Int} (hok : s.M.ok K) (hK : K < 9223372036854775807) {i b : Nat} (hi : i < np) (hb : (pm i).1 = b) (d m : Int) :
    Calls Try.prog 52 #[.pointer (some ⟨X, 0, none⟩), .int .i64 d, .int .i64 m, .pointer (some ⟨b, 0, none⟩)] wr fun e w' => e = .returned (.int .i64 (s.join d m i).1) ∧ WS w w' X B G pm np (s.join d m i).2 T := by
  subst hb
  exact (gJoin h.a hok hK d m i hi).mono fun e w' ⟨he, hl⟩ => ⟨he, h.left hl⟩
end
end Go.Proofs.Ytibiianmpajabaa

/-
  WholeGrant on plain data: what a pull and a map answer. No walk here.
-/
set_option linter.unusedSimpArgs false
set_option linter.unusedVariables false
namespace Go.Proofs.Ytibiianmpajabaa
open Go.RowKit KM

theorem fr_write_other (M : Mach) (i off : Int) (l : List UInt8) (j : Nat) (h : j ≠ i.toNat) : (M.write i off l).2.fr j = M.fr j := by
  unfold Mach.write
  split; · rfl
  split; · rfl
  split; · rfl
  exact Mach.upd_other _ _ _ _ h
theorem fr_write_keeps (M : Mach) (i off : Int) (l : List UInt8) (j : Nat) : ((M.write i off l).2.fr j).owner = (M.fr j).owner ∧ ((M.write i off l).2.fr j).ty = (M.fr j).ty := by
  by_cases h : j = i.toNat
  · subst h
    unfold Mach.write
    split; · exact ⟨rfl, rfl⟩
    split; · exact ⟨rfl, rfl⟩
    split; · exact ⟨rfl, rfl⟩
    simp only [Mach.upd_same]
    exact ⟨rfl, rfl⟩
  · rw [fr_write_other _ _ _ _ _ h]; exact ⟨rfl, rfl⟩
theorem part_laid (f : Fr) (l : List UInt8) : (f.laid 0 l).part 0 l.length = l := by
  unfold Fr.part Fr.laid
  apply List.ext_getElem
  · simp
  · intro i h1 h2
    simp at h1
    simp [h1, List.getD, List.getElem?_eq_getElem h1]
/-- WholeGrant's grants, whatever the bytes -/
structure SW (s : Gs) : Prop where
  ok : s.M.ok 2
  n : s.M.n = 4
  o2 : (s.M.fr 2).owner = 1
  o3 : (s.M.fr 3).owner = 1
  t2 : (s.M.fr 2).ty = 1
  t3 : (s.M.fr 3).ty = 0
  g : s.g = (gst0.setMem 0 (some (0, 0))).setMem 1 (some (2, 1))
  p : s.P 1 = twoP 1
theorem SW.start : SW (stW 2) := ⟨by simpa using stW_ok 2, stW_n, stW_o2, stW_o3, stW_t2, stW_t3, stW_g2, stW_P1⟩
section
variable {s : Gs}
theorem SW.write (h : SW s) (i off : Int) (l : List UInt8) : SW (s.setM (s.M.write i off l).2) :=
  ⟨Mach.write_ok h.ok _ _ _, (Mach.vwrite_n _ _ _ _).trans h.n, (fr_write_keeps _ _ _ _ _).1.trans h.o2, (fr_write_keeps _ _ _ _ _).1.trans h.o3, (fr_write_keeps _ _ _ _ _).2.trans h.t2, (fr_write_keeps _ _ _ _ _).2.trans h.t3, h.g, h.p⟩
theorem SW.due (h : SW s) (l : List PokeV) (n : Nat) : SW (s.due l n) :=
  ⟨Mach.rews_ok _ h.ok, (Mach.rews_n _ _).trans h.n, (Mach.rews_fr _ _ _).1.trans h.o2, (Mach.rews_fr _ _ _).1.trans h.o3, (Mach.rews_fr _ _ _).2.1.trans h.t2, (Mach.rews_fr _ _ _).2.1.trans h.t3, h.g, h.p⟩
theorem SW.mem1 (h : SW s) : s.g.mem 1 = some (2, 1) := by rw [h.g]; rfl
theorem SW.mp (h : SW s) (k : Int × Int) : s.g.mp k = none := by rw [h.g]; rfl
theorem SW.entB (h : SW s) : s.entB 1 0 = (s.M.fr 2).part 0 8 := by
  have ht : s.table 1 = 2 := by unfold Gs.table; rw [show (1 : Int).toNat = 1 from rfl, h.mem1]
  unfold Gs.entB
  rw [ht, read_good (by rw [Mach.is_iff, h.n]; omega) (inP_yes (by omega) (by omega) (by omega))]
  rfl
theorem SW.entB_write (h : SW s) (b : List UInt8) (hb : b.length = 8) : (s.setM (s.M.write 2 0 b).2).entB 1 0 = b := by
  rw [(h.write 2 0 b).entB]
  have e : (s.M.write 2 0 b).2.fr 2 = (s.M.fr 2).laid 0 b := by
    unfold Mach.write
    rw [if_neg (by rw [Mach.is_yes (by omega) (by rw [h.n]; omega)]; simp), if_neg (by rw [inP_yes (by omega) (by omega) (by omega)]; simp), if_neg (by rw [show (2 : Int).toNat = 2 from rfl, h.o2]; omega)]
    exact Mach.upd_same _ _ _
  show ((s.M.write 2 0 b).2.fr 2).part 0 8 = b
  rw [e, ← hb, part_laid]
theorem SW.entB_other (h : SW s) (i off : Int) (l : List UInt8) (hi : i.toNat ≠ 2) : (s.setM (s.M.write i off l).2).entB 1 0 = s.entB 1 0 := by
  rw [(h.write i off l).entB, h.entB]
  show ((s.M.write i off l).2.fr 2).part 0 8 = _
  rw [fr_write_other _ _ _ _ _ (fun e => hi e.symm)]
theorem SW.owns (h : SW s) : s.owns 1 2 = true ∧ s.owns 1 3 = true := by
  unfold Gs.owns
  rw [Mach.is_yes (by omega) (by rw [h.n]; omega), Mach.is_yes (by omega) (by rw [h.n]; omega), show (2 : Int).toNat = 2 from rfl, show (3 : Int).toNat = 3 from rfl, h.o2, h.o3]
  exact ⟨rfl, rfl⟩
theorem SW.granted (h : SW s) (p : Int) (hp : 0 ≤ p) : (p = 0 ∧ s.granted 1 p = some 2) ∨ (p = 1 ∧ s.granted 1 p = some 3) ∨ (2 ≤ p ∧ s.granted 1 p = none) := by
  have e : s.granted 1 p = if ((twoP 1).getE p).2 = 0 ∧ s.owns 1 ((twoP 1).getE p).1 = true then some ((twoP 1).getE p).1 else none := by
    unfold Gs.granted
    rw [show (1 : Int).toNat = 1 from rfl, h.mem1]
    simp only [h.p]
  rw [e]
  have : p = 0 ∨ p = 1 ∨ 2 ≤ p := by omega
  rcases this with rfl | rfl | hp2
  · refine .inl ⟨rfl, ?_⟩
    rw [twoP_0, if_pos ⟨rfl, h.owns.1⟩]
  · refine .inr (.inl ⟨rfl, ?_⟩)
    rw [twoP_1, if_pos ⟨rfl, h.owns.2⟩]
  · refine .inr (.inr ⟨hp2, ?_⟩)
    rw [if_neg (fun hh => by rw [twoP_2 p hp2] at hh; exact absurd hh.1 (by omega))]
theorem entV_pk {g : GV} (hg : packV g = true) : entV (pkL g) 1 0 = if g.k = 1 ∧ g.dom = 0 then some (wantG g) else none := by
  unfold entV
  rw [unp_pk g hg]
  have e1 : (wantG g).k = g.k := by unfold wantG; split <;> rfl
  have e2 : (wantG g).dom = g.dom := by unfold wantG; split <;> rfl
  simp only [e1, e2, true_and]
theorem wantG_gpfn (g : GV) : (wantG g).gpfn = g.gpfn := by unfold wantG; split <;> rfl
theorem wantG_ro (g : GV) : (wantG g).ro = g.ro := by unfold wantG; split <;> rfl
theorem wantG_sub (g : GV) : (wantG g).sub = g.sub := by unfold wantG; split <;> rfl
/-- the rewrites of WholeGrant -/
def lateW (l : List UInt8) : List PokeV := [⟨1, 2, 0, l⟩, ⟨2, 2, 0, l⟩]
theorem late0 (l : List UInt8) : Go.Proofs.Ytibiianmpajabaa.due (lateW l) ((0 : Nat) : Int) = [] := rfl
theorem late1 (l : List UInt8) : Go.Proofs.Ytibiianmpajabaa.due (lateW l) ((0 + 1 : Nat) : Int) = [⟨1, 2, 0, l⟩] := rfl
theorem nil_due (n : Int) : Go.Proofs.Ytibiianmpajabaa.due [] n = [] := rfl
theorem pull_err (s : Gs) (l : List UInt8) (d r : Nat) (c off k : Int) : (s.pullG [] 0 d r c off k).2.1 = (s.pullG (lateW l) 0 d r c off k).2.1 := by
  unfold Gs.pullG
  rw [s.due_nil (late0 l), s.due_nil (nil_due _)]
  cases s.endG (s.entB d r) c d with
  | none => rfl
  | some mg => simp only; split <;> rfl
theorem pull_same (s : Gs) (d r : Nat) (c off k : Int) : (s.pullG [] 0 d r c off k).2.2.1 = s := by
  unfold Gs.pullG
  rw [s.due_nil (nil_due _)]
  cases s.endG (s.entB d r) c d with
  | none => rfl
  | some mg => simp only; split; · rfl
               · exact s.due_nil (nil_due _)
theorem pull_sw (h : SW s) (l : List UInt8) (d r : Nat) (c off k : Int) : SW (s.pullG (lateW l) 0 d r c off k).2.2.1 := by
  unfold Gs.pullG
  rw [s.due_nil (late0 l)]
  cases s.endG (s.entB d r) c d with
  | none => exact h
  | some mg => simp only; split; · exact h
               · exact h.due _ _
theorem pull_bytes (h : SW s) {g : GV} (hg : packV g = true) (hb : s.entB 1 0 = pkL g) (hp : g.gpfn = 1) (l : List UInt8) (off k : Int) : (s.pullG [] 0 1 0 0 off k).1 = (s.pullG (lateW l) 0 1 0 0 off k).1 := by
  unfold Gs.pullG
  rw [s.due_nil (late0 l), s.due_nil (nil_due _)]
  rw [show s.entB ((1 : Nat) : Int) ((0 : Nat) : Int) = pkL g from hb]
  cases hE : s.endG (pkL g) 0 ((1 : Nat) : Int) with
  | none => rfl
  | some mg =>
    obtain ⟨m, g'⟩ := mg
    simp only
    split
    · rfl
    · have hm : m = 3 := by
        unfold Gs.endG at hE
        rw [entV_pk hg] at hE
        split at hE
        · cases hE
        · rename_i g2 hg2
          split at hg2
          · cases hg2
            rw [wantG_gpfn, hp] at hE
            rcases h.granted 1 (by omega) with ⟨e, _⟩ | ⟨_, e⟩ | ⟨e, _⟩
            · omega
            · rw [show s.granted ((1 : Nat) : Int) 1 = some 3 from e] at hE
              simp only [Option.some.injEq, Prod.mk.injEq] at hE
              exact hE.1.symm
            · omega
          · cases hg2
      subst hm
      rw [s.due_nil (nil_due _)]
      have e : (s.due (lateW l) (0 + 1)).M.fr 3 = s.M.fr 3 := by
        show (s.M.rews (Go.Proofs.Ytibiianmpajabaa.due (lateW l) ((0 + 1 : Nat) : Int))).fr 3 = _
        rw [late1]
        show (s.M.rew ⟨1, 2, 0, l⟩).fr 3 = _
        unfold Mach.rew
        split
        · exact fr_write_other _ _ _ _ _ (by show (3 : Nat) ≠ 2; omega)
        · rfl
      have en : (s.due (lateW l) (0 + 1)).M.n = s.M.n := Mach.rews_n _ _
      unfold Mach.read Mach.is
      rw [en, show (3 : Int).toNat = 3 from rfl, e]
/-- is the map permitted? -/
def okW (g : GV) (wr : Bool) : Bool := decide (g.k = 1) && (decide (g.dom = 0) && (decide (g.gpfn < 2) && (!g.sub && (!wr || !g.ro))))
theorem map_no (h : SW s) {g : GV} (hg : packV g = true) (wr : Bool) (ho : okW g wr = false) (x : Nat) : (s.mapE (pkL g) 0 1 0 wr x).2.1 ≠ 0 := by
  obtain ⟨_, _, p, _, _, hgv, _, _, _, _, _, _⟩ := pack_nats hg
  have hp0 : 0 ≤ g.gpfn := by rw [hgv]; simp only; omega
  clear hgv
  unfold Gs.mapE
  rw [entV_pk hg]
  by_cases hk : g.k = 1 ∧ g.dom = 0
  · rw [if_pos hk]
    simp only [wantG_sub, wantG_ro, wantG_gpfn]
    by_cases hs : g.sub = true
    · rw [if_pos hs]; show (61 : Int) ≠ 0; omega
    · rw [if_neg hs]
      by_cases hw : (wr && g.ro) = true
      · rw [if_pos hw]; show (62 : Int) ≠ 0; omega
      · rw [if_neg hw]
        rcases h.granted g.gpfn hp0 with ⟨e, _⟩ | ⟨e, _⟩ | ⟨_, e⟩
        · exfalso
          unfold okW at ho
          rw [hk.1, hk.2, e] at ho
          cases hsb : g.sub <;> cases wr <;> cases hr : g.ro <;> simp_all
        · exfalso
          unfold okW at ho
          rw [hk.1, hk.2, e] at ho
          cases hsb : g.sub <;> cases wr <;> cases hr : g.ro <;> simp_all
        · rw [e]; show (60 : Int) ≠ 0; omega
  · rw [if_neg hk]; show (60 : Int) ≠ 0; omega
theorem map_yes (h : SW s) {g : GV} (hg : packV g = true) (wr : Bool) (ho : okW g wr = true) (x : Nat) : (s.mapE (pkL g) 0 1 0 wr x).1 = x ∧ (s.mapE (pkL g) 0 1 0 wr x).2.1 = 0 ∧ ∃ a, (s.mapE (pkL g) 0 1 0 wr x).2.2.g.mp (0, (x : Int)) = some a ∧ (s.mapE (pkL g) 0 1 0 wr x).2.2.M.ok 3 := by
  obtain ⟨_, _, p, _, _, hgv, _, _, _, _, _, _⟩ := pack_nats hg
  have hp0 : 0 ≤ g.gpfn := by rw [hgv]; simp only; omega
  clear hgv
  unfold okW at ho
  simp only [Bool.and_eq_true, decide_eq_true_eq] at ho
  obtain ⟨hk, hd, hp, hs, hw⟩ := ho
  have hs' : ¬ g.sub = true := by cases hh : g.sub <;> simp_all
  have hw' : ¬ (wr && g.ro) = true := by cases wr <;> cases hh : g.ro <;> simp_all
  have hget : ∀ m : Int, (m = 2 ∨ m = 3) → (s.M.get m 1 (kindW wr)).1 = 0 := fun m hm => by
    have hi : s.M.is m = true := Mach.is_yes (by omega) (by rw [h.n]; omega)
    have hown : (s.M.fr m.toNat).owner = 1 := by rcases hm with rfl | rfl; exact h.o2; exact h.o3
    have hkk : kindW wr = 0 ∨ kindW wr = 1 := by unfold kindW; split <;> simp
    have hcty : ¬ (kindW wr ≠ 0 ∧ (s.M.fr m.toNat).cnt ≠ 0 ∧ (s.M.fr m.toNat).ty ≠ kindW wr) := by
      rintro ⟨h1, h2, h3⟩
      have hk1 : kindW wr = 1 := by omega
      rw [hk1] at h3
      rcases hm with rfl | rfl
      · exact h3 h.t2
      · exact h2 ((h.ok.fr 3 (by rw [h.n]; omega)).1.z.2 h.t3)
    unfold Mach.get Mach.take
    rw [if_neg (by rw [hi]; simp), if_neg (by omega), if_neg (by rw [hown]; omega), if_neg (by rw [hown]; simp), if_neg hcty]
  have key : ∀ m : Int, (m = 2 ∨ m = 3) → s.granted 1 g.gpfn = some m → s.mapE (pkL g) 0 1 0 wr x = ((x : Int), (0 : Int), (⟨(s.M.get m 1 (kindW wr)).2, s.P, s.g.setMp (0, (x : Int)) (some ⟨x, 0, 1, 0, m, wr⟩)⟩ : Gs)) := fun m hm e => by
    unfold Gs.mapE
    rw [entV_pk hg, if_pos ⟨hk, hd⟩]
    simp only [wantG_sub, wantG_ro, wantG_gpfn]
    rw [if_neg hs', if_neg hw', e]
    simp only
    rw [if_pos (hget m hm)]
  have hfin : ∀ m : Int, (⟨(s.M.get m 1 (kindW wr)).2, s.P, s.g.setMp (0, (x : Int)) (some ⟨x, 0, 1, 0, m, wr⟩)⟩ : Gs).g.mp (0, (x : Int)) = some ⟨x, 0, 1, 0, m, wr⟩ := fun m => by simp [Gst.setMp]
  rcases h.granted g.gpfn hp0 with ⟨_, e⟩ | ⟨_, e⟩ | ⟨e, _⟩
  · rw [key 2 (.inl rfl) e]; exact ⟨rfl, rfl, _, hfin 2, by have := Mach.get_ok h.ok 2 1 (kindW wr); exact this⟩
  · rw [key 3 (.inr rfl) e]; exact ⟨rfl, rfl, _, hfin 3, by have := Mach.get_ok h.ok 3 1 (kindW wr); exact this⟩
  · omega
end
end Go.Proofs.Ytibiianmpajabaa

/-
  Both sides of law06 in memory: the reference as a whole, what keeps it from the program's blocks (their types), the struct that holds both. No walk here.
-/
set_option linter.unusedSimpArgs false
set_option linter.unusedVariables false
namespace Go.Proofs.Ytibiianmpajabaa
open Go.RowKit KM
set_option maxHeartbeats 1000000

def tyOf (w : World) (k : Nat) : Option TypeId := match w.heap[k]? with | some (.cells _ t _) => some t | _ => none
theorem Row.tyOf {w : World} {g : Nat} {t : TypeId} {N : Nat} {X : Nat → Value} (h : Row w g t N X) : tyOf w g = some t := by
  obtain ⟨cur, h, _⟩ := h; unfold Go.Proofs.Ytibiianmpajabaa.tyOf; rw [h]
def gT (o : Option TypeId) : Prop := o = none ∨ o = some 110 ∨ o = some 121 ∨ o = some 169
def mT (o : Option TypeId) : Prop := o = some 137 ∨ o = some 100 ∨ o = some 31 ∨ o = some 5
def qT (o : Option TypeId) : Prop := o = some 171 ∨ o = some 3
def rT (o : Option TypeId) : Prop := o = some 223 ∨ o = some 225 ∨ mT o ∨ qT o
theorem gT_rT {o : Option TypeId} (h : gT o) (k : rT o) : False := by
  rcases h with rfl | rfl | rfl | rfl <;> rcases k with k | k | (k | k | k | k) | (k | k) <;> exact absurd k (by decide)
theorem mT_qT {o : Option TypeId} (h : mT o) (k : qT o) : False := by
  rcases h with rfl | rfl | rfl | rfl <;> rcases k with k | k <;> exact absurd k (by decide)
section
variable {w w' w0 : World} {X B G : Nat} {pm : Nat → Nat × Nat × Nat} {np : Nat} {s s' : Gs} {T T' : Nat} {Y R D c : Nat} {LV : Value} {qb : Nat → Nat} {ql : Nat → RL} {L L' : Lay}
theorem GA.ty (h : GA w X B G pm np s T) {k : Nat} (hk : gfoot X B G pm np k) : gT (tyOf w k) := by
  rcases hk with rfl | rfl | rfl | ⟨i, hi, hk⟩
  · exact .inr (.inl h.top.tyOf)
  · have h1 := h.m
    unfold PM at h1
    exact .inr (.inr (.inl (by unfold tyOf; rw [h1])))
  · obtain ⟨es, c, h0⟩ := h.mp.isMap
    exact .inl (by unfold tyOf; rw [h0])
  · rcases pft_row (h.p i hi) hk with ⟨cur, h0⟩ | ⟨es, c, h0⟩
    · exact .inr (.inr (.inr (by unfold tyOf; rw [h0])))
    · exact .inl (by unfold tyOf; rw [h0])
theorem RM.mty {M : Mach} (h : RM w R M L) {k : Nat} (hk : L.foot R k) : mT (tyOf w k) := by
  rcases hk with rfl | rfl | rfl | ⟨i, hi, rfl⟩
  · exact .inl h.top.tyOf
  · exact .inr (.inl h.fr.tyOf)
  · exact .inr (.inr (.inl h.bs.tyOf))
  · exact .inr (.inr (.inr (h.row i hi).tyOf))
theorem RMap.ty {b : Nat} {l : RL} {M : Mp} (h : RMap w b l M) (h1 : 1 ≤ M.n) {k : Nat} (hk : rfoot b l k) : qT (tyOf w k) := by
  rcases hk with rfl | rfl
  · exact .inl (Row.tyOf (N := 1) h.top)
  · exact .inr (Row.tyOf (N := M.n) (h.row h1).2)
def rrfoot (Y D R : Nat) (L : Lay) (qb : Nat → Nat) (ql : Nat → RL) (np k : Nat) : Prop := k = Y ∨ k = D ∨ L.foot R k ∨ ∃ i, i < np ∧ rfoot (qb i) (ql i) k
/-- the reference as a whole -/
structure RB (w : World) (Y R D c : Nat) (LV : Value) (qb : Nat → Nat) (ql : Nat → RL) (np : Nat) (L : Lay) (s : Gs) : Prop where
  g : RG w Y R D c LV qb s.g
  m : RM w R s.M L
  q : ∀ i, i < np → RMap w (qb i) (ql i) (s.P i)
  n1 : ∀ i, i < np → 1 ≤ (s.P i).n
  sep : ∀ i j, i < np → j < np → i ≠ j → ∀ k, rfoot (qb i) (ql i) k → ¬ rfoot (qb j) (ql j) k
theorem RB.ty (h : RB w Y R D c LV qb ql np L s) {k : Nat} (hk : rrfoot Y D R L qb ql np k) : rT (tyOf w k) := by
  rcases hk with rfl | rfl | hk | ⟨i, hi, hk⟩
  · exact .inl h.g.top.tyOf
  · exact .inr (.inl h.g.mem.tyOf)
  · exact .inr (.inr (.inl (h.m.mty hk)))
  · exact .inr (.inr (.inr ((h.q i hi).ty (h.n1 i hi) hk)))
theorem RB.lt (h : RB w Y R D c LV qb ql np L s) {k : Nat} (hk : rrfoot Y D R L qb ql np k) : k < w.heap.size := by
  rcases hk with rfl | rfl | hk | ⟨i, hi, hk⟩
  · exact h.g.top.lt
  · exact h.g.mem.lt
  · exact h.m.lt hk
  · exact (h.q i hi).lt_foot hk
theorem RB.apart (h : RB w Y R D c LV qb ql np L s) {n : Nat} {s1 : Gs} (ha : GA w X B G pm n s1 T) {k : Nat} (hk : rrfoot Y D R L qb ql np k) : ¬ gfoot X B G pm n k := fun e => gT_rT (ha.ty e) (h.ty hk)
theorem RB.chg {S : Nat → Prop} (h : RB w Y R D c LV qb ql np L s) (hc : Chg S w w') (hS : ∀ k, rrfoot Y D R L qb ql np k → ¬ S k) : RB w' Y R D c LV qb ql np L s :=
  ⟨h.g.chg hc (hS _ (.inl rfl)) (hS _ (.inr (.inl rfl))), h.m.chg hc fun k hk => hS k (.inr (.inr (.inl hk))), fun i hi => (h.q i hi).chg hc.gen fun k hk => hS k (.inr (.inr (.inr ⟨i, hi, hk⟩))), h.n1, h.sep⟩
theorem RB.grown (h : RB w Y R D c LV qb ql np L s) (hg : w.grownBy w' none) : RB w' Y R D c LV qb ql np L s := h.chg (S := fun _ => False) (Chg.of0 hg) fun _ _ e => e
theorem RB.qm (h : RB w Y R D c LV qb ql np L s) {i : Nat} (hi : i < np) {k : Nat} (hk : rfoot (qb i) (ql i) k) : ¬ L.foot R k ∧ k ≠ Y ∧ k ≠ D := by
  have h1 := (h.q i hi).ty (h.n1 i hi) hk
  refine ⟨fun e => mT_qT (h.m.mty e) h1, ?_, ?_⟩
  · rintro rfl
    rw [h.g.top.tyOf] at h1
    rcases h1 with h1 | h1 <;> exact absurd h1 (by decide)
  · rintro rfl
    rw [h.g.mem.tyOf] at h1
    rcases h1 with h1 | h1 <;> exact absurd h1 (by decide)
/-- the machine turns -/
theorem RB.mach {M' : Mach} (h : RB w Y R D c LV qb ql np L s) (hm : RM w' R M' L') (hc : Chg (L.foot R) w w') : RB w' Y R D c LV qb ql np L' (s.setM M') :=
  ⟨h.g.chg hc (h.g.off h.m).1 (h.g.off h.m).2, hm, fun i hi => (h.q i hi).chg hc.gen fun k hk => (h.qm hi hk).1, h.n1, h.sep⟩
/-- a map of places turns -/
theorem RB.place {i : Nat} {Q : Mp} (h : RB w Y R D c LV qb ql np L s) (hi : i < np) (hn : Q.n = (s.P i).n) (hq : RMap w' (qb i) (ql i) Q) (hc : Chg (rfoot (qb i) (ql i)) w w') : RB w' Y R D c LV qb ql np L ⟨s.M, upP s.P i Q, s.g⟩ :=
  ⟨h.g.chg hc (fun e => (h.qm hi e).2.1 rfl) (fun e => (h.qm hi e).2.2 rfl), h.m.chg hc fun k hk e => (h.qm hi e).1 hk, fun j hj => by
    by_cases e : j = i
    · subst e; simp only [upP_same]; exact hq
    · simp only [upP_other _ _ _ _ e]
      exact (h.q j hj).chg hc.gen fun k hk => h.sep j i hj hi e k hk, fun j hj => by
    by_cases e : j = i
    · subst e; simp only [upP_same]; rw [hn]; exact h.n1 j hj
    · simp only [upP_other _ _ _ _ e]; exact h.n1 j hj, h.sep⟩
def upN {α : Type} (f : Nat → α) (i : Nat) (x : α) : Nat → α := fun j => if j = i then x else f j
theorem upN_same {α : Type} (f : Nat → α) (i : Nat) (x : α) : upN f i x i = x := by simp [upN]
theorem upN_other {α : Type} (f : Nat → α) (i j : Nat) (x : α) (h : j ≠ i) : upN f i x j = f j := by simp [upN, h]
/-- a map of places is made -/
theorem RB.add {b : Nat} {l : RL} {Q : Mp} (h : RB w Y R D c LV qb ql np L s) (hmem : ∀ d t i, s.g.mem d = some (t, i) → i < np) (hQ : RMap w' b l Q) (h1 : 1 ≤ Q.n) (hg : w.grownBy w' none) (hf : ∀ k, rfoot b l k → w.heap.size ≤ k) :
    RB w' Y R D c LV (upN qb np b) (upN ql np l) (np + 1) L ⟨s.M, upP s.P np Q, s.g⟩ := by
  have h' := h.grown hg
  have ho : ∀ j, j < np → upN qb np b j = qb j ∧ upN ql np l j = ql j := fun j hj => ⟨upN_other _ _ _ _ (by omega), upN_other _ _ _ _ (by omega)⟩
  have hlt : ∀ j, j < np → ∀ k, rfoot (qb j) (ql j) k → k < w.heap.size := fun j hj k hk => (h.q j hj).lt_foot hk
  refine ⟨⟨h'.g.top, h'.g.mem.congr fun k _ => ?_, h'.g.cap⟩, h'.m, fun j hj => ?_, fun j hj => ?_, fun i j hi hj hij k hk hk2 => ?_⟩
  · unfold rgmem
    have hpl : ∀ d, plcV (upN qb np b) (s.g.mem d) = plcV qb (s.g.mem d) := fun d => by
      cases hm : s.g.mem d with
      | none => rfl
      | some x => obtain ⟨t, i⟩ := x; simp only [plcV]; rw [(ho i (hmem d t i hm)).1]
    simp only [hpl]
  · by_cases e : j = np
    · subst e; simp only [upN_same, upP_same]; exact hQ
    · rw [(ho j (by omega)).1, (ho j (by omega)).2]; simp only [upP_other _ _ _ _ e]; exact h'.q j (by omega)
  · by_cases e : j = np
    · subst e; simp only [upP_same]; exact h1
    · simp only [upP_other _ _ _ _ e]; exact h.n1 j (by omega)
  · by_cases e : i = np
    · subst e
      have hj' : j < i := by omega
      rw [upN_same, upN_same] at hk
      rw [(ho j hj').1, (ho j hj').2] at hk2
      have a1 := hf k hk
      have a2 := hlt j hj' k hk2
      omega
    · have hi' : i < np := by omega
      rw [(ho i hi').1, (ho i hi').2] at hk
      by_cases e2 : j = np
      · subst e2
        rw [upN_same, upN_same] at hk2
        have a1 := hf k hk2
        have a2 := hlt i hi' k hk
        omega
      · have hj' : j < np := by omega
        rw [(ho j hj').1, (ho j hj').2] at hk2
        exact h.sep i j hi' hj' hij k hk hk2
/-- a call of the reference's grants -/
theorem RB.left (h : RB w Y R D c LV qb ql np L s) (hl : GLR w Y R D c LV qb L s' w') (hP : s'.P = s.P) : ∃ L', RB w' Y R D c LV qb ql np L' s' ∧ L'.n = L.n ∧ (∀ k, L'.foot R k → L.foot R k ∨ w.heap.size ≤ k) ∧ Chg (rrfoot Y D R L qb ql np) w w' := by
  obtain ⟨h1, ⟨L', h2, h3, h4⟩, hc⟩ := hl
  refine ⟨L', ⟨h1, h2, fun i hi => ?_, fun i hi => by rw [hP]; exact h.n1 i hi, h.sep⟩, h3, h4, hc.mono fun k hk => ?_⟩
  · rw [hP]
    refine (h.q i hi).chg hc.gen fun k hk e => ?_
    rcases e with e | e
    · exact (h.qm hi hk).2.2 e
    · exact (h.qm hi hk).1 e
  · rcases hk with e | e
    · exact .inr (.inl e)
    · exact .inr (.inr (.inl e))
end
end Go.Proofs.Ytibiianmpajabaa

/-
  The struct of law06 that holds both sides, with its lists of maps of places; what each call of either side does to it.
-/
set_option linter.unusedSimpArgs false
set_option linter.unusedVariables false
namespace Go.Proofs.Ytibiianmpajabaa
open Go.RowKit KM
set_option maxHeartbeats 1000000
set_option maxRecDepth 100000

def bt6 (v0 v1 v2 v3 v4 v5 : Value) : Nat → Value | 0 => v0 | 1 => v1 | 2 => v2 | 3 => v3 | 4 => v4 | _ => v5
abbrev ptrV (b : Nat) : Value := .pointer (some ⟨b, 0, none⟩)
def ptrs (f : Nat → Nat) (n : Nat) : List Value := (List.range n).map fun i => ptrV (f i)
theorem ptrs_snoc (f : Nat → Nat) (n : Nat) : ptrs f (n + 1) = ptrs f n ++ [ptrV (f n)] := by simp [ptrs, List.range_succ]
theorem ptrs_congr {f g : Nat → Nat} {n : Nat} (h : ∀ i, i < n → f i = g i) : ptrs f n = ptrs g n := by
  unfold ptrs
  refine List.map_congr_left fun i hi => ?_
  rw [h i (by simpa using hi)]
section
variable {w w' w0 w1 : World} {t : Nat} {ty : TypeId} {v0 v1 v2 v3 v4 v5 : Value}
theorem Row.b0 (h : Row w t ty 6 (bt6 v0 v1 v2 v3 v4 v5)) (v : Value) : Row (w.setCell ⟨t, 0, none⟩ v) t ty 6 (bt6 v v1 v2 v3 v4 v5) := h.set rfl fun j hj hne => by match j, hj, hne with | 0, _, h => exact absurd rfl h | 1, _, _ => rfl | 2, _, _ => rfl | 3, _, _ => rfl | 4, _, _ => rfl | 5, _, _ => rfl
theorem Row.b1 (h : Row w t ty 6 (bt6 v0 v1 v2 v3 v4 v5)) (v : Value) : Row (w.setCell ⟨t, 1, none⟩ v) t ty 6 (bt6 v0 v v2 v3 v4 v5) := h.set rfl fun j hj hne => by match j, hj, hne with | 0, _, _ => rfl | 1, _, h => exact absurd rfl h | 2, _, _ => rfl | 3, _, _ => rfl | 4, _, _ => rfl | 5, _, _ => rfl
theorem Row.b2 (h : Row w t ty 6 (bt6 v0 v1 v2 v3 v4 v5)) (v : Value) : Row (w.setCell ⟨t, 2, none⟩ v) t ty 6 (bt6 v0 v1 v v3 v4 v5) := h.set rfl fun j hj hne => by match j, hj, hne with | 0, _, _ => rfl | 1, _, _ => rfl | 2, _, h => exact absurd rfl h | 3, _, _ => rfl | 4, _, _ => rfl | 5, _, _ => rfl
theorem Row.b3 (h : Row w t ty 6 (bt6 v0 v1 v2 v3 v4 v5)) (v : Value) : Row (w.setCell ⟨t, 3, none⟩ v) t ty 6 (bt6 v0 v1 v2 v v4 v5) := h.set rfl fun j hj hne => by match j, hj, hne with | 0, _, _ => rfl | 1, _, _ => rfl | 2, _, _ => rfl | 3, _, h => exact absurd rfl h | 4, _, _ => rfl | 5, _, _ => rfl
theorem Row.b4 (h : Row w t ty 6 (bt6 v0 v1 v2 v3 v4 v5)) (v : Value) : Row (w.setCell ⟨t, 4, none⟩ v) t ty 6 (bt6 v0 v1 v2 v3 v v5) := h.set rfl fun j hj hne => by match j, hj, hne with | 0, _, _ => rfl | 1, _, _ => rfl | 2, _, _ => rfl | 3, _, _ => rfl | 4, _, h => exact absurd rfl h | 5, _, _ => rfl
theorem Row.b5 (h : Row w t ty 6 (bt6 v0 v1 v2 v3 v4 v5)) (v : Value) : Row (w.setCell ⟨t, 5, none⟩ v) t ty 6 (bt6 v0 v1 v2 v3 v4 v) := h.set rfl fun j hj hne => by match j, hj, hne with | 0, _, _ => rfl | 1, _, _ => rfl | 2, _, _ => rfl | 3, _, _ => rfl | 4, _, _ => rfl | 5, _, h => exact absurd rfl h
theorem owns_chg {S : Nat → Prop} {base : Nat} {e : TypeId} {size n : Nat} {v : Value} {xs : List Value} (h : w.ownsRow base e size v n xs) (hc : Chg S w w') (hS : ∀ k, v.ownBlock = some k → ¬ S k) : w'.ownsRow base e size v n xs := by
  refine ⟨h.1, ?_⟩
  rcases h.2 with h0 | ⟨g, cap, cur, rfl, hb, hg, r⟩
  · exact .inl h0
  · exact .inr ⟨g, cap, cur, rfl, hb, (hc.block g (Array.getElem?_eq_some_iff.1 hg).1 (hS g rfl)).trans hg, r⟩
theorem owns_ty {base : Nat} {e : TypeId} {size n : Nat} {v : Value} {xs : List Value} (h : w.ownsRow base e size v n xs) {k : Nat} (hk : v.ownBlock = some k) : tyOf w k = some e ∧ base ≤ k := by
  rcases h.2 with ⟨rfl, _⟩ | ⟨g, cap, cur, rfl, hb, hg, r⟩
  · simp [Value.ownBlock] at hk
  · obtain rfl : g = k := by simpa [Value.ownBlock] using hk
    exact ⟨by unfold tyOf; rw [hg], hb⟩
def tT (o : Option TypeId) : Prop := o = some 85 ∨ o = some 60 ∨ o = some 63
theorem gT_tT {o : Option TypeId} (h : gT o) (k : tT o) : False := by
  rcases h with rfl | rfl | rfl | rfl <;> rcases k with k | k | k <;> exact absurd k (by decide)
theorem rT_tT {o : Option TypeId} (h : rT o) (k : tT o) : False := by
  rcases k with rfl | rfl | rfl <;> rcases h with h | h | (h | h | h | h) | (h | h) <;> exact absurd h (by decide)
end
/-- block t holds both sides -/
structure BO (w0 w : World) (t X B G : Nat) (pm : Nat → Nat × Nat × Nat) (n1 : Nat) (sa : Gs) (T Y R D c : Nat) (qb : Nat → Nat) (ql : Nat → RL) (n2 : Nat) (L : Lay) (sb : Gs) (vp vq : Value) (np nq : Nat) : Prop where
  row : Row w t 85 6 (bt6 (ptrV B) (ptrV X) vp (ptrV R) (ptrV Y) vq)
  a : GA w X B G pm n1 sa T
  b : RB w Y R D c (.slice none 0 0) qb ql n2 L sb
  p : w.ownsRow w0.heap.size 60 1 vp np (ptrs (fun i => (pm i).1) np)
  q : w.ownsRow w0.heap.size 63 1 vq nq (ptrs qb nq)
  fa : ∀ k, gfoot X B G pm n1 k → w0.heap.size ≤ k
  fb : ∀ k, rrfoot Y D R L qb ql n2 k → w0.heap.size ≤ k
  ft : w0.heap.size ≤ t
  g : w0.grownBy w none
section
variable {w w' w0 w1 : World} {t X B G : Nat} {pm : Nat → Nat × Nat × Nat} {n1 n2 np nq : Nat} {sa sb s' : Gs} {T T' : Nat} {Y R D c : Nat} {qb : Nat → Nat} {ql : Nat → RL} {L L' : Lay} {vp vq : Value}
theorem BO.nt (h : BO w0 w t X B G pm n1 sa T Y R D c qb ql n2 L sb vp vq np nq) {k : Nat} (hk : k = t ∨ vp.ownBlock = some k ∨ vq.ownBlock = some k) : tT (tyOf w k) := by
  rcases hk with rfl | hk | hk
  · exact .inl h.row.tyOf
  · exact .inr (.inl (owns_ty h.p hk).1)
  · exact .inr (.inr (owns_ty h.q hk).1)
theorem BO.na (h : BO w0 w t X B G pm n1 sa T Y R D c qb ql n2 L sb vp vq np nq) {k : Nat} (hk : k = t ∨ vp.ownBlock = some k ∨ vq.ownBlock = some k) : ¬ gfoot X B G pm n1 k := fun e => gT_tT (h.a.ty e) (h.nt hk)
theorem BO.nb (h : BO w0 w t X B G pm n1 sa T Y R D c qb ql n2 L sb vp vq np nq) {k : Nat} (hk : k = t ∨ vp.ownBlock = some k ∨ vq.ownBlock = some k) : ¬ rrfoot Y D R L qb ql n2 k := fun e => rT_tT (h.b.ty e) (h.nt hk)
theorem BO.grown (h : BO w0 w t X B G pm n1 sa T Y R D c qb ql n2 L sb vp vq np nq) (hg : w.grownBy w' none) : BO w0 w' t X B G pm n1 sa T Y R D c qb ql n2 L sb vp vq np nq :=
  ⟨h.row.chg (S := fun _ => False) (Chg.of0 hg) (fun e => e), h.a.grown hg, h.b.grown hg, owns_chg (S := fun _ => False) h.p (Chg.of0 hg) (fun _ _ e => e), owns_chg (S := fun _ => False) h.q (Chg.of0 hg) (fun _ _ e => e), h.fa, h.fb, h.ft, h.g.trans hg⟩
/-- a call of the program's grants -/
theorem BO.left (h : BO w0 w t X B G pm n1 sa T Y R D c qb ql n2 L sb vp vq np nq) (hl : GL w X B G pm n1 s' T' w') : BO w0 w' t X B G pm n1 s' T' Y R D c qb ql n2 L sb vp vq np nq :=
  ⟨h.row.chg hl.c (h.na (.inl rfl)), hl.a, h.b.chg hl.c (fun k hk => h.b.apart h.a hk), owns_chg h.p hl.c (fun k hk => h.na (.inr (.inl hk))), owns_chg h.q hl.c (fun k hk => h.na (.inr (.inr hk))), h.fa, h.fb, h.ft, hl.c.grownR h.g h.fa⟩
/-- a call of the reference -/
theorem BO.rleft {S : Nat → Prop} (h : BO w0 w t X B G pm n1 sa T Y R D c qb ql n2 L sb vp vq np nq) (hb : RB w' Y R D c (.slice none 0 0) qb ql n2 L' s') (hc : Chg S w w') (hS : ∀ k, S k → rrfoot Y D R L qb ql n2 k) (hf : ∀ k, L'.foot R k → L.foot R k ∨ w.heap.size ≤ k) : BO w0 w' t X B G pm n1 sa T Y R D c qb ql n2 L' s' vp vq np nq := by
  have hc := hc.mono hS
  refine ⟨h.row.chg hc (h.nb (.inl rfl)), h.a.chg hc (fun k hk e => h.b.apart h.a e hk), hb, owns_chg h.p hc (fun k hk => h.nb (.inr (.inl hk))), owns_chg h.q hc (fun k hk => h.nb (.inr (.inr hk))), h.fa, fun k hk => ?_, h.ft, hc.grownR h.g h.fb⟩
  rcases hk with e | e | e | e
  · exact h.fb k (.inl e)
  · exact h.fb k (.inr (.inl e))
  · rcases hf k e with e | e
    · exact h.fb k (.inr (.inr (.inl e)))
    · exact Nat.le_trans h.g.size e
  · exact h.fb k (.inr (.inr (.inr e)))
theorem BO.add (h : BO w0 w t X B G pm n1 sa T Y R D c qb ql n2 L sb vp vq np nq) (hnp : np ≤ n1) (hmem : ∀ d t i, sa.g.mem d = some (t, i) → i < n1) {b f p T0 : Nat} {Q : Mp} (hP : PMap w' b f p Q T0) (hT : T0 ≤ T) (hg : w.grownBy w' none) (hf : ∀ k, pfoot b f p k → w.heap.size ≤ k) :
    BO w0 w' t X B G (upPm pm n1 (b, f, p)) (n1 + 1) ⟨sa.M, upP sa.P n1 Q, sa.g⟩ T Y R D c qb ql n2 L sb vp vq np nq := by
  have h' := h.grown hg
  refine ⟨h'.row, h.a.add hmem hP hT hg hf, h'.b, ?_, h'.q, fun q hq => ?_, h.fb, h.ft, h'.g⟩
  · have e : ptrs (fun i => (upPm pm n1 (b, f, p) i).1) np = ptrs (fun i => (pm i).1) np := ptrs_congr fun i hi => by rw [upPm_other _ _ _ _ (by omega)]
    rw [e]
    exact h'.p
  · rcases hq with e | e | e | ⟨i, hi, hk⟩
    · exact h.fa q (.inl e)
    · exact h.fa q (.inr (.inl e))
    · exact h.fa q (.inr (.inr (.inl e)))
    · by_cases e : i = n1
      · subst e
        unfold pft at hk
        rw [upPm_same] at hk
        exact Nat.le_trans h.g.size (hf q hk)
      · unfold pft at hk
        rw [upPm_other _ _ _ _ e] at hk
        exact h.fa q (.inr (.inr (.inr ⟨i, by omega, hk⟩)))
theorem BO.radd (h : BO w0 w t X B G pm n1 sa T Y R D c qb ql n2 L sb vp vq np nq) (hnq : nq ≤ n2) (hmem : ∀ d t i, sb.g.mem d = some (t, i) → i < n2) {b : Nat} {l : RL} {Q : Mp} (hQ : RMap w' b l Q) (h1 : 1 ≤ Q.n) (hg : w.grownBy w' none) (hf : ∀ k, rfoot b l k → w.heap.size ≤ k) :
    BO w0 w' t X B G pm n1 sa T Y R D c (upN qb n2 b) (upN ql n2 l) (n2 + 1) L ⟨sb.M, upP sb.P n2 Q, sb.g⟩ vp vq np nq := by
  have h' := h.grown hg
  refine ⟨h'.row, h'.a, h.b.add hmem hQ h1 hg hf, h'.p, ?_, h.fa, fun q hq => ?_, h.ft, h'.g⟩
  · have e : ptrs (upN qb n2 b) nq = ptrs qb nq := ptrs_congr fun i hi => upN_other _ _ _ _ (by omega)
    rw [e]
    exact h'.q
  · rcases hq with e | e | e | ⟨i, hi, hk⟩
    · exact h.fb q (.inl e)
    · exact h.fb q (.inr (.inl e))
    · exact h.fb q (.inr (.inr (.inl e)))
    · by_cases e : i = n2
      · subst e
        rw [upN_same, upN_same] at hk
        exact Nat.le_trans h.g.size (hf q hk)
      · rw [upN_other _ _ _ _ e, upN_other _ _ _ _ e] at hk
        exact h.fb q (.inr (.inr (.inr ⟨i, by omega, hk⟩)))
end
end Go.Proofs.Ytibiianmpajabaa

/-
  Both sides of law06: each call of begin, and the two lists.
-/
set_option linter.unusedSimpArgs false
set_option linter.unusedVariables false
namespace Go.Proofs.Ytibiianmpajabaa
open Go.RowKit KM
set_option maxHeartbeats 1000000
set_option maxRecDepth 100000

theorem Mp.setE_n (M : Mp) (g m : Int) : (M.setE g m).1.n = M.n := by unfold Mp.setE; (repeat' split) <;> rfl
section
variable {w w' w0 w1 : World} {t X B G : Nat} {pm : Nat → Nat × Nat × Nat} {n1 n2 np nq : Nat} {sa sb s' : Gs} {T T' : Nat} {Y R D c : Nat} {qb : Nat → Nat} {ql : Nat → RL} {L L' : Lay} {vp vq : Value}
theorem BO.alloc (h : BO w0 w t X B G pm n1 sa T Y R D c qb ql n2 L sb vp vq np nq) {K : Int} (hok : sa.M.ok K) (o : Int) :
    Calls Try.prog 16 #[.pointer (some ⟨B, 0, none⟩), .int .i64 o] w fun e w' => e = .returned (.tuple #[.int .i64 (sa.M.alloc o).1, .int .i64 (sa.M.alloc o).2.1]) ∧ BO w0 w' t X B G pm n1 (sa.setM (sa.M.alloc o).2.2) T Y R D c qb ql n2 L sb vp vq np nq :=
  (Alloc_any B o w sa.M K h.a.m hok).mono fun e w' ⟨he, hm, hg⟩ => ⟨he, h.left ((GL.same h.a).mach hm hg)⟩
theorem BO.ralloc (h : BO w0 w t X B G pm n1 sa T Y R D c qb ql n2 L sb vp vq np nq) (hn : sb.M.n ≤ 256) (o : Int) :
    Calls Try.prog 65 #[.pointer (some ⟨R, 0, none⟩), .int .i64 o] w fun e w' => e = .returned (.tuple #[.int .i64 (sb.M.alloc o).1, .int .i64 (sb.M.alloc o).2.1]) ∧ ∃ L', BO w0 w' t X B G pm n1 sa T Y R D c qb ql n2 L' (sb.setM (sb.M.alloc o).2.2) vp vq np nq :=
  (rAlloc R o w sb.M L h.b.m hn).mono fun e w' ⟨he, L', hm, _, hc, hf⟩ => ⟨he, L', h.rleft (h.b.mach hm hc) hc (fun _ e => .inr (.inr (.inl e))) hf⟩
theorem BO.set (h : BO w0 w t X B G pm n1 sa T Y R D c qb ql n2 L sb vp vq np nq) (hT : T < maxLen) {i b : Nat} (hi : i < n1) (hb : (pm i).1 = b) (g m : Int) (hg : I64 g) (hm : I64 m) :
    Calls Try.prog 89 #[.pointer (some ⟨b, 0, none⟩), .int .i64 g, .int .i64 m] w fun e w' => e = .returned (.int .i64 ((sa.P i).setE g m).2) ∧ BO w0 w' t X B G pm n1 ⟨sa.M, upP sa.P i ((sa.P i).setE g m).1, sa.g⟩ (T + 1) Y R D c qb ql n2 L sb vp vq np nq := by
  subst hb
  exact (pSet_yes _ _ _ _ T g m hg hm hT w (h.a.p i hi)).mono fun e w' ⟨he, hl⟩ => ⟨he, h.left ⟨h.a.place hi (Nat.le_succ _) hl, (Chg.ofGen hl.chg).mono fun k hk => .inr (.inr (.inr ⟨i, hi, hk⟩))⟩⟩
theorem BO.rset (h : BO w0 w t X B G pm n1 sa T Y R D c qb ql n2 L sb vp vq np nq) {i b : Nat} (hi : i < n2) (hb : qb i = b) (hok : (sb.P i).ok) (g m : Int) :
    Calls Try.prog 90 #[.pointer (some ⟨b, 0, none⟩), .int .i64 g, .int .i64 m] w fun e w' => e = .returned (.int .i64 ((sb.P i).setE g m).2) ∧ BO w0 w' t X B G pm n1 sa T Y R D c qb ql n2 L ⟨sb.M, upP sb.P i ((sb.P i).setE g m).1, sb.g⟩ vp vq np nq := by
  subst hb
  exact (rSet _ _ _ g m w (h.b.q i hi) hok).mono fun e w' ⟨he, hq, hc⟩ => ⟨he, h.rleft (h.b.place hi (Mp.setE_n _ _ _) hq (Chg.ofGen hc)) (Chg.ofGen hc) (fun k e => .inr (.inr (.inr ⟨i, hi, e⟩))) fun _ e => .inl e⟩
theorem BO.join (h : BO w0 w t X B G pm n1 sa T Y R D c qb ql n2 L sb vp vq np nq) {K : Int} (hok : sa.M.ok K) (hK : K < 9223372036854775807) {i b : Nat} (hi : i < n1) (hb : (pm i).1 = b) (d m : Int) :
    Calls Try.prog 52 #[.pointer (some ⟨X, 0, none⟩), .int .i64 d, .int .i64 m, .pointer (some ⟨b, 0, none⟩)] w fun e w' => e = .returned (.int .i64 (sa.join d m i).1) ∧ BO w0 w' t X B G pm n1 (sa.join d m i).2 T Y R D c qb ql n2 L sb vp vq np nq := by
  subst hb
  exact (gJoin h.a hok hK d m i hi).mono fun e w' ⟨he, hl⟩ => ⟨he, h.left hl⟩
theorem Gs.join_P (s : Gs) (d m : Int) (i : Nat) : (s.join d m i).2.P = s.P := by unfold Gs.join; (repeat' split) <;> rfl
theorem BO.rjoin (h : BO w0 w t X B G pm n1 sa T Y R D c qb ql n2 L sb vp vq np nq) (hmem : ∀ d t i, sb.g.mem d = some (t, i) → 0 ≤ t) {K : Int} (hok : sb.M.ok K) (hK : K < 9223372036854775807) {i b : Nat} (hb : qb i = b) (d m : Int) :
    Calls Try.prog 102 #[.pointer (some ⟨Y, 0, none⟩), .int .i64 d, .int .i64 m, .pointer (some ⟨b, 0, none⟩)] w fun e w' => e = .returned (.int .i64 (sb.join d m i).1) ∧ ∃ L', BO w0 w' t X B G pm n1 sa T Y R D c qb ql n2 L' (sb.join d m i).2 vp vq np nq := by
  subst hb
  refine (rgJoin h.b.g h.b.m hmem hok hK d m i).mono fun e w' ⟨he, hl⟩ => ?_
  obtain ⟨L', hb, _, hf, hc⟩ := h.b.left hl (Gs.join_P _ _ _ _)
  exact ⟨he, L', h.rleft hb hc (fun _ e => e) hf⟩
/-- the list of the program's maps grows by one -/
theorem BO.appP (h : BO w0 w t X B G pm n1 sa T Y R D c qb ql n2 L sb vp vq np nq) {v' : Value} {b : Nat} (hb : (pm np).1 = b) (hg : w.grownBy w' vp.ownBlock) (ho : w'.ownsRow w0.heap.size 60 1 v' (np + 1) (ptrs (fun i => (pm i).1) np ++ [.pointer (some ⟨b, 0, none⟩)])) :
    BO w0 (w'.setCell ⟨t, 2, none⟩ v') t X B G pm n1 sa T Y R D c qb ql n2 L sb v' vq (np + 1) nq := by
  subst hb
  have hc : Chg (fun k => vp.ownBlock = some k) w w' := Chg.of hg fun j e => .inl e
  have hrow := h.row.chg hc (fun e => by have := (owns_ty h.p e).1; rw [h.row.tyOf] at this; exact absurd this (by decide))
  have ha := h.a.chg hc (fun k hk e => h.na (.inr (.inl e)) hk)
  have hb := h.b.chg hc (fun k hk e => h.nb (.inr (.inl e)) hk)
  have hq := owns_chg h.q hc (fun k hk e => by have h1 := (owns_ty h.p e).1; have h2 := (owns_ty h.q hk).1; rw [h1] at h2; exact absurd h2 (by decide))
  have h0 := hc.grownR h.g (fun k e => (owns_ty h.p e).2)
  have hs : Chg (fun k => k = t) w' (w'.setCell ⟨t, 2, none⟩ v') := Chg.of (grownBy_setCell w' t 2 none v') fun j e => .inl (Option.some.inj e).symm
  have ht := hrow.tyOf
  refine ⟨hrow.b2 v', ha.chg hs fun k hk e => gT_tT (ha.ty hk) (.inl (e ▸ ht)), hb.chg hs fun k hk e => rT_tT (hb.ty hk) (.inl (e ▸ ht)), ?_, owns_chg hq hs fun k hk e => ?_, h.fa, h.fb, h.ft, hs.grownR h0 fun k e => e ▸ h.ft⟩
  · rw [ptrs_snoc]
    exact owns_chg ho hs fun k hk e => by have := (owns_ty ho hk).1; rw [e, ht] at this; exact absurd this (by decide)
  · have := (owns_ty hq hk).1; rw [e, ht] at this; exact absurd this (by decide)
theorem BO.appQ (h : BO w0 w t X B G pm n1 sa T Y R D c qb ql n2 L sb vp vq np nq) {v' : Value} {b : Nat} (hb : qb nq = b) (hg : w.grownBy w' vq.ownBlock) (ho : w'.ownsRow w0.heap.size 63 1 v' (nq + 1) (ptrs qb nq ++ [.pointer (some ⟨b, 0, none⟩)])) :
    BO w0 (w'.setCell ⟨t, 5, none⟩ v') t X B G pm n1 sa T Y R D c qb ql n2 L sb vp v' np (nq + 1) := by
  subst hb
  have hc : Chg (fun k => vq.ownBlock = some k) w w' := Chg.of hg fun j e => .inl e
  have hrow := h.row.chg hc (fun e => by have := (owns_ty h.q e).1; rw [h.row.tyOf] at this; exact absurd this (by decide))
  have ha := h.a.chg hc (fun k hk e => h.na (.inr (.inr e)) hk)
  have hb := h.b.chg hc (fun k hk e => h.nb (.inr (.inr e)) hk)
  have hp := owns_chg h.p hc (fun k hk e => by have h1 := (owns_ty h.q e).1; have h2 := (owns_ty h.p hk).1; rw [h1] at h2; exact absurd h2 (by decide))
  have h0 := hc.grownR h.g (fun k e => (owns_ty h.q e).2)
  have hs : Chg (fun k => k = t) w' (w'.setCell ⟨t, 5, none⟩ v') := Chg.of (grownBy_setCell w' t 5 none v') fun j e => .inl (Option.some.inj e).symm
  have ht := hrow.tyOf
  refine ⟨hrow.b5 v', ha.chg hs fun k hk e => gT_tT (ha.ty hk) (.inl (e ▸ ht)), hb.chg hs fun k hk e => rT_tT (hb.ty hk) (.inl (e ▸ ht)), owns_chg hp hs fun k hk e => ?_, ?_, h.fa, h.fb, h.ft, hs.grownR h0 fun k e => e ▸ h.ft⟩
  · have := (owns_ty hp hk).1; rw [e, ht] at this; exact absurd this (by decide)
  · rw [ptrs_snoc]
    exact owns_chg ho hs fun k hk e => by have := (owns_ty ho hk).1; rw [e, ht] at this; exact absurd this (by decide)
end
/-! ### begin's states -/
def inn (s : Gs) (d : Nat) : Nat → Gs
  | 0 => ⟨s.M, upP s.P d (Mp.empty 8), s.g⟩
  | i + 1 => ⟨((inn s d i).M.alloc d).2.2, upP (inn s d i).P d (((inn s d i).P d).setE i (4 * (d : Int) + i)).1, (inn s d i).g⟩
def bst : Nat → Gs
  | 0 => ⟨upTo ((13 : Nat) : Int) 13, fun _ => Mp.empty 0, gst0⟩
  | d + 1 => ((inn (bst d) d 4).join d (4 * (d : Int)) d).2
theorem inn_ok {s : Gs} {K : Int} (h : s.M.ok K) (d : Nat) : ∀ i, (inn s d i).M.ok K
  | 0 => h
  | i + 1 => Mach.alloc_ok (inn_ok h d i) _
theorem inn_P (s : Gs) (d : Nat) : ∀ i, ((inn s d i).P d).ok
  | 0 => by simp only [inn, upP_same]; exact Mp.empty_ok 8 (by omega)
  | i + 1 => by simp only [inn, upP_same]; exact Mp.setE_ok (inn_P s d i) _ _
theorem inn_g (s : Gs) (d : Nat) : ∀ i, (inn s d i).g = s.g
  | 0 => rfl
  | i + 1 => inn_g s d i
theorem bst_ok : ∀ d : Nat, (bst d).M.ok d
  | 0 => upTo_ok' 13 (by omega) (by omega)
  | d + 1 => by
    have e : ((d + 1 : Nat) : Int) = (d : Int) + 1 := by omega
    rw [e]
    exact Gs.join_ok (inn_ok (bst_ok d) d 4) d (4 * (d : Int)) d
theorem bst_j0 : ((inn (bst 0) 0 4).join ((0 : Nat) : Int) (4 * ((0 : Nat) : Int)) 0).1 = 0 := by kernel_rfl
theorem bst_j1 : ((inn (bst 1) 1 4).join ((1 : Nat) : Int) (4 * ((1 : Nat) : Int)) 1).1 = 0 := by kernel_rfl
theorem bst_j2 : ((inn (bst 2) 2 4).join ((2 : Nat) : Int) (4 * ((2 : Nat) : Int)) 2).1 = 0 := by kernel_rfl
theorem bst_j (d : Nat) (h : d < 3) : ((inn (bst d) d 4).join (d : Int) (4 * (d : Int)) d).1 = 0 := by
  match d, h with
  | 0, _ => exact bst_j0
  | 1, _ => exact bst_j1
  | 2, _ => exact bst_j2
theorem bst_g1 : (bst 1).g = gst0.setMem 0 (some (0, 0)) := by kernel_rfl
theorem bst_g2 : (bst 2).g = (gst0.setMem 0 (some (0, 0))).setMem 1 (some (4, 1)) := by kernel_rfl
theorem bst_g3 : (bst 3).g = ((gst0.setMem 0 (some (0, 0))).setMem 1 (some (4, 1))).setMem 2 (some (8, 2)) := by kernel_rfl
theorem bst_mem (d : Nat) (hd : d < 4) : ∀ e t i, (bst d).g.mem e = some (t, i) → 0 ≤ t ∧ i < d := by
  intro e t i h
  have : d = 0 ∨ d = 1 ∨ d = 2 ∨ d = 3 := by omega
  rcases this with rfl | rfl | rfl | rfl
  · cases h
  · rw [bst_g1] at h
    simp only [Gst.setMem, gst0] at h
    split at h
    · cases h; omega
    · cases h
  · rw [bst_g2] at h
    simp only [Gst.setMem, gst0] at h
    split at h
    · cases h; omega
    · split at h
      · cases h; omega
      · cases h
  · rw [bst_g3] at h
    simp only [Gst.setMem, gst0] at h
    split at h
    · cases h; omega
    · split at h
      · cases h; omega
      · split at h
        · cases h; omega
        · cases h
end Go.Proofs.Ytibiianmpajabaa

/-
  law06.begin without entries: both sides, three domains.
-/
set_option linter.unusedSimpArgs false
set_option linter.unusedVariables false
namespace Go.Proofs.Ytibiianmpajabaa
open Go.RowKit KM
set_option maxHeartbeats 4000000
set_option maxRecDepth 100000

section
variable {w w' w0 w1 : World} {t X B G : Nat} {pm : Nat → Nat × Nat × Nat} {n1 n2 np nq : Nat} {sa sb s' : Gs} {T T' : Nat} {Y R D c : Nat} {qb : Nat → Nat} {ql : Nat → RL} {L L' : Lay} {vp vq : Value}
theorem BO.c0 (h : BO w0 w t X B G pm n1 sa T Y R D c qb ql n2 L sb vp vq np nq) : w.cell? ⟨t, 0, none⟩ = some (.pointer (some ⟨B, 0, none⟩)) := h.row.cell (k := 0) (by omega)
theorem BO.c1 (h : BO w0 w t X B G pm n1 sa T Y R D c qb ql n2 L sb vp vq np nq) : w.cell? ⟨t, 1, none⟩ = some (.pointer (some ⟨X, 0, none⟩)) := h.row.cell (k := 1) (by omega)
theorem BO.c2 (h : BO w0 w t X B G pm n1 sa T Y R D c qb ql n2 L sb vp vq np nq) : w.cell? ⟨t, 2, none⟩ = some vp := h.row.cell (k := 2) (by omega)
theorem BO.c3 (h : BO w0 w t X B G pm n1 sa T Y R D c qb ql n2 L sb vp vq np nq) : w.cell? ⟨t, 3, none⟩ = some (.pointer (some ⟨R, 0, none⟩)) := h.row.cell (k := 3) (by omega)
theorem BO.c4 (h : BO w0 w t X B G pm n1 sa T Y R D c qb ql n2 L sb vp vq np nq) : w.cell? ⟨t, 4, none⟩ = some (.pointer (some ⟨Y, 0, none⟩)) := h.row.cell (k := 4) (by omega)
theorem BO.c5 (h : BO w0 w t X B G pm n1 sa T Y R D c qb ql n2 L sb vp vq np nq) : w.cell? ⟨t, 5, none⟩ = some vq := h.row.cell (k := 5) (by omega)
theorem BO.preP (h : BO w0 w t X B G pm n1 sa T Y R D c qb ql n2 L sb vp vq np nq) (hg : w.grownBy w' vp.ownBlock) : w'.cell? ⟨t, 2, none⟩ = some vp ∧ w'.frozen? ⟨t, 2, none⟩ = false := by
  have hc : Chg (fun k => vp.ownBlock = some k) w w' := Chg.of hg fun j e => .inl e
  have hrow := h.row.chg hc (fun e => by have := (owns_ty h.p e).1; rw [h.row.tyOf] at this; exact absurd this (by decide))
  exact ⟨hrow.cell (k := 2) (by omega), hrow.frozen 2⟩
theorem BO.preQ (h : BO w0 w t X B G pm n1 sa T Y R D c qb ql n2 L sb vp vq np nq) (hg : w.grownBy w' vq.ownBlock) : w'.cell? ⟨t, 5, none⟩ = some vq ∧ w'.frozen? ⟨t, 5, none⟩ = false := by
  have hc : Chg (fun k => vq.ownBlock = some k) w w' := Chg.of hg fun j e => .inl e
  have hrow := h.row.chg hc (fun e => by have := (owns_ty h.q e).1; rw [h.row.tyOf] at this; exact absurd this (by decide))
  exact ⟨hrow.cell (k := 5) (by omega), hrow.frozen 5⟩
end
theorem bt_row (w : World) {w1 : World} (hg : (w.alloc (.cells #[.pointer none, .pointer none, .slice none 0 0, .pointer none, .pointer none, .slice none 0 0] 85)).grownBy w1 none) : Row w1 w.heap.size 85 6 (bt6 (.pointer none) (.pointer none) (.slice none 0 0) (.pointer none) (.pointer none) (.slice none 0 0)) :=
  Row.grown (Gen.Row.new w _ _ _ _ (by simp) fun k hk => by match k, hk with | 0, _ => rfl | 1, _ => rfl | 2, _ => rfl | 3, _ => rfl | 4, _ => rfl | 5, _ => rfl) hg (by simp)
theorem chgT (w : World) (t k : Nat) (v : Value) : Chg (fun q => q = t) w (w.setCell ⟨t, k, none⟩ v) := Chg.of (grownBy_setCell w t k none v) fun j e => .inl (Option.some.inj e).symm
theorem grownT {w0 w : World} (h : w0.grownBy w none) {t : Nat} (ht : w0.heap.size ≤ t) (k : Nat) (v : Value) : w0.grownBy (w.setCell ⟨t, k, none⟩ v) none := (chgT w t k v).grownR h fun q e => e ▸ ht
/-- both machines, before there are grants -/
structure BP (w0 w : World) (t B R : Nat) (L : Lay) (v0 v1 v3 v4 : Value) : Prop where
  row : Row w t 85 6 (bt6 v0 v1 (.slice none 0 0) v3 v4 (.slice none 0 0))
  m : PM w B (bst 0).M
  r : RM w R (bst 0).M L
  fB : w0.heap.size ≤ B
  fR : ∀ k, L.foot R k → w0.heap.size ≤ k
  ft : w0.heap.size ≤ t
  g : w0.grownBy w none
theorem RM.nt {w : World} {R t : Nat} {L : Lay} {M : Mach} {N : Nat} {X : Nat → Value} (h : RM w R M L) (ht : Row w t 85 N X) {k : Nat} (hk : L.foot R k) : k ≠ t := by
  rintro rfl
  have h1 := h.mty hk
  rw [ht.tyOf] at h1
  rcases h1 with h1 | h1 | h1 | h1 <;> exact absurd h1 (by decide)
section
variable {w0 w w1 w2 w3 w4 : World} {t B R : Nat} {L : Lay} {v0 v1 v3 v4 : Value}
theorem BP.c0 (h : BP w0 w t B R L v0 v1 v3 v4) : w.cell? ⟨t, 0, none⟩ = some v0 := h.row.cell (k := 0) (by omega)
theorem BP.c1 (h : BP w0 w t B R L v0 v1 v3 v4) : w.cell? ⟨t, 1, none⟩ = some v1 := h.row.cell (k := 1) (by omega)
theorem BP.c3 (h : BP w0 w t B R L v0 v1 v3 v4) : w.cell? ⟨t, 3, none⟩ = some v3 := h.row.cell (k := 3) (by omega)
theorem BP.of (ht : Row w1 t 85 6 (bt6 v0 v1 (.slice none 0 0) v3 v4 (.slice none 0 0))) (hm : PM w1 B (bst 0).M) (hB : w0.heap.size ≤ B) (htt : w0.heap.size ≤ t) (hg1 : w0.grownBy w1 none) {v : Value} (hg2 : (w1.setCell ⟨t, 0, none⟩ v).grownBy w2 none) (hR : RM w2 R (bst 0).M L) (hf2 : ∀ k, L.foot R k → (w1.setCell ⟨t, 0, none⟩ v).heap.size ≤ k) : BP w0 w2 t B R L v v1 v3 v4 := by
  have hne : B ≠ t := ht.pm_ne hm (by decide)
  have hs := hg1.size
  exact ⟨Row.grown (ht.b0 v) hg2 (by simp), (hm.chg (chgT w1 t 0 v) hne).chg (S := fun _ => False) (Chg.of0 hg2) (fun e => e), hR, hB, fun k hk => by have := hf2 k hk; simp at this; omega, htt, (grownT hg1 htt 0 v).trans hg2⟩
theorem BP.s3 (h : BP w0 w t B R L v0 v1 v3 v4) (v : Value) : BP w0 (w.setCell ⟨t, 3, none⟩ v) t B R L v0 v1 v v4 :=
  ⟨h.row.b3 v, h.m.chg (chgT w t 3 v) (h.row.pm_ne h.m (by decide)), h.r.chg (chgT w t 3 v) (fun k hk => h.r.nt h.row hk), h.fB, h.fR, h.ft, grownT h.g h.ft 3 v⟩
/-- the program's grants, just made -/
structure NG (w2 w3 : World) (B X G : Nat) : Prop where
  x : X = w2.heap.size + 1
  gg : G = w2.heap.size
  ht : Row w3 (w2.heap.size + 1) 110 18 (gtop B w2.heap.size (fun _ => 0) gst0)
  hm : GMap w3 w2.heap.size 0 gst0
  g : w2.grownBy w3 none
theorem BP.gNew (h : BP w0 w t B R L v0 v1 v3 v4) : Calls Try.prog 50 #[.pointer (some ⟨B, 0, none⟩)] w fun e w' => ∃ X G, e = .returned (.pointer (some ⟨X, 0, none⟩)) ∧ NG w w' B X G :=
  (gNew_yes B w (bst 0).M h.m (bst_ok 0).n1).mono fun e w' ⟨he, ht, hm, hg⟩ => ⟨_, _, he, rfl, rfl, ht, hm, hg⟩
theorem BP.row3 {X G : Nat} (h : BP w0 w2 t B R L v0 v1 v3 v4) (n : NG w2 w3 B X G) : w3.cell? ⟨t, 1, none⟩ = some v1 ∧ w3.frozen? ⟨t, 1, none⟩ = false ∧ (w3.setCell ⟨t, 1, none⟩ (ptrV X)).cell? ⟨t, 3, none⟩ = some v3 := by
  have r := Row.grown h.row n.g (by simp)
  exact ⟨r.cell (k := 1) (by omega), r.frozen 1, (r.b1 (ptrV X)).cell (k := 3) (by omega)⟩
/-- both grants are made -/
theorem BO.start {X G : Nat} {pm : Nat → Nat × Nat × Nat} {qb : Nat → Nat} {ql : Nat → RL} {e : Ending} (h : BP w0 w2 t B R L (ptrV B) v1 (ptrV R) v4) (n : NG w2 w3 B X G)
    (hn : NewG (w3.setCell ⟨t, 1, none⟩ (ptrV X)) R qb e w4) :
    ∃ Y D c, e = .returned (.pointer (some ⟨Y, 0, none⟩)) ∧ w4.cell? ⟨t, 4, none⟩ = some v4 ∧ w4.frozen? ⟨t, 4, none⟩ = false ∧
      BO w0 (w4.setCell ⟨t, 4, none⟩ (ptrV Y)) t X B G pm 0 (bst 0) 0 Y R D c qb ql 0 L (bst 0) (.slice none 0 0) (.slice none 0 0) 0 0 := by
  obtain ⟨rfl, rfl, ht, hm, g2⟩ := n
  obtain ⟨D, c, rfl, hG, hD, hg4⟩ := hn
  have hs2 := h.g.size
  have hs3 := g2.size
  have row3 := Row.grown h.row g2 (by simp)
  have c3 := chgT w3 t 1 (ptrV (w2.heap.size + 1))
  have a3 : GA w3 (w2.heap.size + 1) B w2.heap.size pm 0 (bst 0) 0 := GA.start (M := (bst 0).M) (h.m.chg (S := fun _ => False) (Chg.of0 g2) (fun e => e)) ht hm pm (fun _ => Mp.empty 0)
  have a4 := (a3.chg c3 fun k hk e => gT_tT (a3.ty hk) (.inl (e ▸ row3.tyOf))).grown hg4
  have m3 := h.r.grown g2
  have m4 := (m3.chg c3 fun k hk => m3.nt row3 hk).grown hg4
  have row4 := Row.grown (row3.b1 (ptrV (w2.heap.size + 1))) hg4 (by simp)
  have b4 : RB w4 (w3.setCell ⟨t, 1, none⟩ (ptrV (w2.heap.size + 1))).heap.size R D c (.slice none 0 0) qb ql 0 L (bst 0) := ⟨hG, m4, fun i hi => by omega, fun i hi => by omega, fun i j hi => by omega⟩
  have c4 := chgT w4 t 4 (ptrV (w3.setCell ⟨t, 1, none⟩ (ptrV (w2.heap.size + 1))).heap.size)
  have hs : (w3.setCell ⟨t, 1, none⟩ (ptrV (w2.heap.size + 1))).heap.size = w3.heap.size := by simp
  refine ⟨_, D, c, rfl, row4.cell (k := 4) (by omega), row4.frozen 4, row4.b4 _, a4.chg c4 fun k hk e => gT_tT (a4.ty hk) (.inl (e ▸ row4.tyOf)), b4.chg c4 fun k hk e => rT_tT (b4.ty hk) (.inl (e ▸ row4.tyOf)), World.ownsRow_nil _ _ _ _, World.ownsRow_nil _ _ _ _, fun k hk => ?_, fun k hk => ?_, h.ft, ?_⟩
  · rcases hk with rfl | rfl | rfl | ⟨i, hi, _⟩
    · omega
    · exact h.fB
    · omega
    · omega
  · rcases hk with rfl | rfl | hk | ⟨i, hi, _⟩
    · omega
    · omega
    · exact h.fR k hk
    · omega
  · exact grownT ((grownT (h.g.trans g2) h.ft 1 _).trans hg4) h.ft 4 _
end
def BeginP (w : World) (e : Ending) (w' : World) : Prop := ∃ t X B G pm Y R D c qb ql L vp vq, e = .returned (.tuple #[.pointer (some ⟨t, 0, none⟩), .bool true]) ∧ BO w w' t X B G pm 3 (bst 3) 12 Y R D c qb ql 3 L (bst 3) vp vq 3 3
theorem info_pp : (Try.prog.info? 60).map (fun i => (i.zero, i.size, i.bytes)) = some (some (.pointer none), 1, 8) := by kernel_rfl
theorem info_pq : (Try.prog.info? 63).map (fun i => (i.zero, i.size, i.bytes)) = some (some (.pointer none), 1, 8) := by kernel_rfl
end Go.Proofs.Ytibiianmpajabaa
