/-
  Contracts of package tenementref01: Owned, Left, Alloc, Free, Give.
-/
import Derived.Test.YtnplkifohocekaaDoorRefA
import Derived.Deep.RegionLaw
import Derived.Deep.RegionWith
set_option linter.unusedSimpArgs false
set_option linter.unusedVariables false
namespace Go.Proofs.YtnplkifohocekaaDoor
open Go.RowKit
set_option maxHeartbeats 400000

def partL (M : Mach) (o : Int) (k : Nat) : List Nat := (List.range k).filter fun j => (M.fr j).owner == o
theorem partL_all {M : Mach} {L : Lay} (h : M.n = L.n) (o : Int) : M.ownedL o = partL M o L.n := by
  unfold Mach.ownedL partL
  rw [h]; rfl
theorem partL_le (M : Mach) (o : Int) (k : Nat) : (partL M o k).length ≤ k := by
  have := List.length_filter_le (fun j => (M.fr j).owner == o) (List.range k)
  simpa [partL] using this
theorem partL_in {M : Mach} {o : Int} {k : Nat} (h : ((M.fr k).owner == o) = true) : partL M o (k + 1) = partL M o k ++ [k] := by
  simp [partL, List.range_succ, h]
theorem partL_out {M : Mach} {o : Int} {k : Nat} (h : ((M.fr k).owner == o) = false) : partL M o (k + 1) = partL M o k := by
  simp [partL, List.range_succ, h]

theorem rOwned (b : Nat) (o : Int) (w : World) (M : Mach) (L : Lay) (h : RM w b M L) (hn : M.n ≤ 256) : Calls Tryd.prog 60 #[.pointer (some ⟨b, 0, none⟩), .int .i64 o] w fun e w' => ∃ v, e = .returned v ∧ NewInts w (M.ownedL o) v w' := by
  have HR := hid h
  have hL : L.n ≤ 256 := by have := h.hn; omega
  have HP := hid (partL_all h.hn o)
  obtain ⟨i0, hi, hz0, hz1, hz2⟩ := info_parts info_int
  have Hi := hid hi; have Hz0 := hid hz0; have Hz1 := hid hz1; have Hz2 := hid hz2
  clear h hi hz0 hz1 hz2
  go_enter Tryd.func60, Tryd.ntmps60
  go_wp2
  go_loopw [5, 6] (fun v i wr => ∃ k : Nat, i = .int .i64 k ∧ k ≤ L.n ∧ wr.ownsRow w.heap.size 3 1 v (partL M o k).length (icells (partL M o k)) ∧ (v = .slice none 0 0 ↔ partL M o k = []) ∧ w.grownBy wr none) (fun _ i _ => L.n - (intOf i).toNat)
  case atStart => exact ⟨0, rfl, by omega, World.ownsRow_nil _ _ _ _, by simp [partL], World.grownBy.refl _ _⟩
  case round =>
    obtain ⟨k, rfl, hk, hrow, hnil, hg⟩ := hrel
    have HO := hid hrow; have HN := hid hnil; have HG := hid hg
    have hM := HR.out.grown hg
    have c0 := hM.slF
    have hpl := partL_le M o k
    obtain ⟨pv, cv, hv⟩ := ownsRow_slice hrow
    clear hrow hnil hg
    by_cases hlt : k < L.n
    · have hlt' : (k : Int) < L.n := by omega
      have hk0 : (0 : Int) ≤ k := by omega
      have c1 := hM.owner hlt
      have HM := hid hM
      clear hM
      subst hv
      cases ho : (M.fr k).owner == o with
      | true =>
        have HP1 := hid (partL_in ho)
        go_wp2_with (at_builtin; refine wpList_append_own _ rfl _ _ 138 rfl w.heap.size 3 i0 (.int .i64 0) 1 8 Tryd.underlying138 Hi.out Hz0.out Hz1.out Hz2.out rfl (by decide) _ _ _ rfl (HO.out.alloc _) ⟨wr.heap.size, 0, none⟩ 1 1 [.int .i64 k] rfl rfl (cell_one_new _ _ _) (by simp [Value.oneCell']) (by unfold maxLen; omega) (by omega) (by have := HG.out.size; simp; omega) ?_; intro v' wb hown' hgrow hnil'; clear hnil'; obtain ⟨g', cap', rfl⟩ := ownsRow_succ hown'; have HOb := hid hown'; have HGb := hid ((HG.out.trans (World.grownBy_alloc wr _ none)).andThen hgrow (fun j hj => .inl (HO.out.lt j hj).1)); clear hown' hgrow)
        go_roundw
        case rel => exact ⟨k + 1, by go_num, by omega, by rw [HP1.out, icells_snoc, List.length_append]; exact HOb.out, by rw [HP1.out]; simp, HGb.out⟩
        case measure => simp [intOf]; omega
      | false =>
        have HP1 := hid (partL_out ho)
        go_wp2
        go_roundw
        case rel => exact ⟨k + 1, by go_num, by omega, by rw [HP1.out]; exact HO.out, by rw [HP1.out]; exact HN.out, HG.out⟩
        case measure => simp [intOf]; omega
    · have hge : (L.n : Int) ≤ k := by omega
      obtain rfl : k = L.n := by omega
      clear hM
      go_wp2
      go_ret
      exact ⟨_, rfl, by rw [HP.out]; exact HO.out, by rw [HP.out]; exact HN.out, HG.out⟩

theorem newInts_slice {w w' : World} {l : List Nat} {v : Value} (h : NewInts w l v w') : ∃ p c, v = .slice p l.length c := ownsRow_slice h.1
/-- what a call on the ref machine leaves -/
def RLeft (b : Nat) (L : Lay) (w : World) (r : Int) (M' : Mach) (e : Ending) (w' : World) : Prop :=
  e = .returned (.int .i64 r) ∧ ∃ L', RM w' b M' L' ∧ L'.n = L.n ∧ Chg (L.foot b) w w' ∧ ∀ k, L'.foot b k → L.foot b k ∨ w.heap.size ≤ k
def RLeft2 (b : Nat) (L : Lay) (w : World) (k r : Int) (M' : Mach) (e : Ending) (w' : World) : Prop :=
  e = .returned (.tuple #[.int .i64 k, .int .i64 r]) ∧ ∃ L', RM w' b M' L' ∧ L'.n = L.n ∧ Chg (L.foot b) w w' ∧ ∀ k, L'.foot b k → L.foot b k ∨ w.heap.size ≤ k
theorem RLeft.same {b : Nat} {L : Lay} {w : World} {r : Int} {M : Mach} (h : RM w b M L) : RLeft b L w r M (.returned (.int .i64 r)) w := ⟨rfl, L, h, rfl, Chg.refl _ _, fun _ h => .inl h⟩
theorem chgF (b : Nat) (L : Lay) (w : World) (k : Nat) (v : Value) : Chg (L.foot b) w (w.setCell ⟨L.fF, k, none⟩ v) := Chg.of (grownBy_setCell w L.fF k none v) fun j e => .inl (.inr (.inl (Option.some.inj e).symm))

end Go.Proofs.YtnplkifohocekaaDoor
