/-
  Package bridge: maps.DeleteFunc of Down, learn, direct, Send.
-/
import Derived.Test.YtakofhhfdgankaaBrE
import Derived.Maps.Ext
import Derived.Laws.IdiomRangeMap
import Derived.Deep.LoopGhost
set_option linter.unusedSimpArgs false
set_option linter.unusedVariables false
namespace Go.Proofs.Ytakofhhfdgankaa.Br
open Go.RowKit Gen Bk Go.Maps
set_option maxHeartbeats 4000000

section
variable {C : Nat → Prop} {lab lab' : Nat → Nat} {w w' : World} {b g m : Nat} {lq : Nat → Lq} {S : Sw} {k : Nat} {s : Sd} {T : Nat}
/-- the closure of Down -/
theorem bDelAt (v a : Int) (B : Nat) (W : World) (kv : Value) (hc : W.cell? ⟨B, 0, none⟩ = some (.int .i64 v)) : Calls Try.prog 38 #[kv, .int .i64 a, .pointer (some ⟨B, 0, none⟩)] W fun e w' => e = .returned (.bool (decide (a = v))) ∧ W = w' := by
  by_cases h : a = v
  · subst h
    go_enter Try.func38, Try.ntmps38
    go_wp2
    go_ret
    exact ⟨by simp, rfl⟩
  · have hb : (a == v) = false := by simpa using h
    go_enter Try.func38, Try.ntmps38
    go_wp2
    go_ret
    exact ⟨by simp [h], rfl⟩
set_option maxRecDepth 1000000 in
theorem bDeleteFunc (mb n B v : Nat) (D : DataW Unit) (w : World) (hown : w.ownsMap Try.prog 5 (plainElem Try.prog 3) mb n D) (hB : w.cell? ⟨B, 0, none⟩ = some (.int .i64 v)) (hne : B ≠ mb) :
    Calls Try.prog 37 #[.map (some mb), .func (.func 38) #[] #[.pointer (some ⟨B, 0, none⟩)]] w fun e w' => e = .returned (.tuple #[]) ∧ w'.ownsMap Try.prog 5 (plainElem Try.prog 3) mb n (Lib.deleteFuncD (pdAt v) D) ∧ w.grownBy w' (some mb) := by
  have K : Keyed Try.prog 5 := Maps.int_keyed Try.underlying5
  obtain ⟨es0, rfl, hap, hkeys⟩ := hown.entries K
  have HB := hid hB
  have HN := hid hne
  have HD := hid (fun (W : World) (key val : Value) (kl : Lit) (yd : DataW Unit) (yp : List MemPlace) (hg : w.grownBy W (some mb)) (hk : keyOf Try.prog 5 key = some kl) (hv : plainElem Try.prog 3 val = some (yd, yp)) => show Calls Try.prog 38 (#[key, val] ++ #[.pointer (some ⟨B, 0, none⟩)]) W (fun e w' => e = .returned (.bool (pdAt v kl yd)) ∧ W.grownBy w' none) from by
    obtain ⟨a, rfl, e1, _⟩ := plainElem_int_inv Try.underlying3 hv
    simp only [Prod.mk.injEq] at e1
    rw [e1.1]
    refine (bDelAt v a B W key (hg.cell HB.out (by simp; exact HN.out))).mono ?_
    rintro e w' ⟨rfl, rfl⟩
    exact ⟨rfl, grownBy_refl _ _⟩)
  clear hB hne
  go_enter Try.func37, Try.ntmps37
  go_wp2_with (first
    | (at_range; refine wpList_range_own _ rfl _ 56 rfl 5 3 K Try.underlying56 (plainElem Try.prog 3) mb n _ rfl hown ?_; intro w0 hrg0 hg0 hs0)
    | go_in)
  go_frame
  go_loopw [8] (fun _ wr => ∃ (left : Lit → Bool) (cnt : Nat), wr.ranges Try.prog 5 (plainElem Try.prog 3) mb w.heap.size n (Fk (pdAt v) es0 left) left cnt ∧ w.grownBy wr (some mb))
    (fun _ wr => wr.rangeLeft mb w.heap.size)
  case atStart => exact ⟨_, _, by rw [Fk_start hkeys]; exact hrg0, grown_any hg0 _⟩
  case round =>
    obtain ⟨left, cnt, hrg, hgw⟩ := hrel
    go_wp2_with (first
      | (at_next; refine wpList_next_ranges _ rfl _ rfl 5 K (plainElem Try.prog 3) id id (fun key _ _ => ⟨key, rfl⟩) (fun v _ _ => ⟨v, rfl⟩) mb w.heap.size n _ _ _ rfl hrg ?_ ?_)
      | go_in)
    · intro _ hl0
      go_wp2
      go_end0
      exact ⟨rfl, by rw [← Fk_end hl0]; exact hrg.owns, hgw⟩
    · intro x c kl yd yp w1 cnt1 hkey hlx hv hat hrg1 hlt hg1 hs1 hen
      have hgw1 := hgw.andThen hg1 (fun j hj => by cases hj; exact Or.inl (Nat.le_refl _))
      have hc := HD.out w1 x c kl yd yp hgw1 hkey hv
      have hbl := hrg1.owns.lt
      have hrl := hrg1.lt
      cases hp : pdAt v kl yd <;> rw [hp] at hc
      · go_wp2_with (first
          | (go_at_call 38; refine hc.mono ?_; rintro e w2 ⟨rfl, hg2⟩)
          | go_in)
        have hrg2 := hrg1.kept hg2 (by simp) (by simp)
        go_roundw
        case rel => exact ⟨_, cnt1, by rw [← Fk_stays hap (K.key hkey) hlx hp hat]; exact hrg2, hgw1.andThen hg2 (fun j hj => by cases hj)⟩
        case measure => rw [hrg2.left_eq, hrg.left_eq]; exact hlt
      · go_wp2_with (first
          | (go_at_call 38; refine hc.mono ?_; rintro e w2 ⟨rfl, hg2⟩; have hrg2 := hrg1.kept hg2 (by simp) (by simp))
          | (at_delete; refine wpList_delete_ranges _ rfl _ _ 56 5 rfl 3 K Try.underlying56 (plainElem Try.prog 3) mb w.heap.size n _ _ _ rfl hrg2 _ _ rfl hkey ?_; intro w3 cnt3 hrg3 hle hturn; go_frame)
          | go_in)
        rw [strike_twice] at hrg3
        go_roundw
        case rel => exact ⟨_, cnt3, by rw [← Fk_struck hap (K.key hkey) hlx hp hat]; exact hrg3, (hgw1.andThen hg2 (fun j hj => by cases hj)).andThen hturn.grown (fun j hj => by cases hj; exact Or.inr rfl)⟩
        case measure => rw [hrg3.left_eq, hrg.left_eq]; omega
end
end Go.Proofs.Ytakofhhfdgankaa.Br
