/-
  Package path: what Text asks of each entry, on both sides.
-/
import Derived.Test.YtmnolfaejneomaaDoorPaM
import Derived.Test.YtmnolfaejneomaaDoorPaShelfB
set_option linter.unusedSimpArgs false
set_option linter.unusedVariables false
namespace Go.Proofs.YtmnolfaejneomaaDoor
open Go.RowKit
set_option maxHeartbeats 1000000
def ixV : List PD → Int → Nat → Int
  | [], _, _ => -1
  | d :: r, dom, k => if d.1 = dom then k else ixV r dom (k + 1)
def hasV (l : List PD) (dom : Int) : Bool := l.any fun d => d.1 == dom
theorem ixV_has : ∀ (l : List PD) (dom : Int) (k : Nat), decide (0 ≤ ixV l dom k) = hasV l dom
  | [], _, _ => rfl
  | d :: r, dom, k => by
    rw [ixV, hasV, List.any_cons]
    by_cases h : d.1 = dom
    · rw [if_pos h]; simp [h]
    · rw [if_neg h, ixV_has r dom (k + 1)]; simp [h, hasV]
theorem ixV_ge : ∀ (l : List PD) (dom : Int) (k : Nat), -1 ≤ ixV l dom k ∧ ixV l dom k ≤ k + l.length
  | [], _, k => ⟨Int.le_refl _, by rw [ixV]; omega⟩
  | d :: r, dom, k => by
    have := ixV_ge r dom (k + 1)
    rw [ixV]
    split
    · simp; omega
    · simp only [List.length_cons]; omega
theorem paClo (d : PD) (dom : Int) (bx : Nat) (w : World) (hb : w.cell? ⟨bx, 0, none⟩ = some (.int .i64 dom)) :
    Calls Tryd.prog 47 #[.agg #[.int .i64 d.1, .bool d.2.1, .bool d.2.2], .pointer (some ⟨bx, 0, none⟩)] w fun e w' => e = .returned (.bool (d.1 == dom)) ∧ Below w.heap.size w w' := by
  have hlt := World.block_lt_of_cell? w _ hb
  have hb' : (w.alloc (Obj.cells #[Value.int IntKind.i64 d.1, Value.bool d.2.1, Value.bool d.2.2] 56)).cell? ⟨bx, 0, none⟩ = some (.int .i64 dom) := by
    rw [((Below.refl w.heap.size w).alloc (Nat.le_refl _) _).cell (p := ⟨bx, 0, none⟩) hlt]; exact hb
  go_enter Tryd.func47, Tryd.ntmps47
  go_wp2
  go_ret
  exact ⟨rfl, (Below.refl _ w).alloc (Nat.le_refl _) _⟩
theorem paIdx (l : List PD) (p : Option Addr) (c : Nat) (dom : Int) (bx : Nat) (w : World) (hl : l.length ≤ 140737488355328) (hg : PG w p l) (hb : w.cell? ⟨bx, 0, none⟩ = some (.int .i64 dom)) :
    Calls Tryd.prog 56 #[.slice p l.length c, .func (.func 47) #[] #[.pointer (some ⟨bx, 0, none⟩)]] w fun e w' => e = .returned (.int .i64 (ixV l dom 0)) ∧ Below w.heap.size w w' := by
  have HG := hid hg
  have HBx := hid hb
  have hlt := World.block_lt_of_cell? w _ hb
  clear hg hb
  go_enter Tryd.func56, Tryd.ntmps56
  go_wp2
  go_loopw [8] (fun t wr => ∃ k : Nat, t = .int .i64 k ∧ k ≤ l.length ∧ ixV (l.drop k) dom k = ixV l dom 0 ∧ Below w.heap.size w wr) (fun t _ => l.length - (intOf t).toNat)
  case atStart => exact ⟨0, rfl, Nat.zero_le _, rfl, Below.refl _ _⟩
  case round =>
    obtain ⟨k, rfl, hk, hj, hb⟩ := hrel
    have HJ := hid hj
    have HB := hid hb
    clear hj hb
    by_cases hkn : k < l.length
    · obtain ⟨d, hd⟩ : ∃ d, l[k]? = some d := ⟨_, List.getElem?_eq_getElem hkn⟩
      obtain ⟨b, o, rfl, hlt', x0, x1, x2⟩ := (HG.out.below HB.out) k d hd
      have HD := hid (mayGo_drop hd)
      have HC := hid (paClo d dom bx wr (by rw [HB.out.cell (p := ⟨bx, 0, none⟩) hlt]; exact HBx.out))
      clear hd
      by_cases hz : d.1 = dom
      · have e1 : (d.1 == dom) = true := by simpa using hz
        have HZ := hid hz
        clear hz
        go_wp2_with (go_at_call 47; refine HC.out.mono ?_; rintro e w2 ⟨rfl, hb2⟩; have HB3 := hid hb2; clear hb2)
        go_ret
        exact ⟨by rw [← HJ.out, HD.out, ixV, if_pos HZ.out]; rfl, HB.out.trans (HB3.out.mono HB.out.size)⟩
      · have e1 : (d.1 == dom) = false := by simpa using hz
        have HZ := hid hz
        clear hz
        go_wp2_with (go_at_call 47; refine HC.out.mono ?_; rintro e w2 ⟨rfl, hb2⟩; have HB3 := hid hb2; clear hb2)
        go_roundw
        case rel => exact ⟨k + 1, by go_num, by omega, by rw [← HJ.out, HD.out, ixV, if_neg HZ.out], HB.out.trans (HB3.out.mono HB.out.size)⟩
        case measure => simp [intOf]; omega
    · have HK := hid (show k = l.length by omega)
      go_wp2
      go_ret
      exact ⟨by rw [← HJ.out, HK.out, List.drop_of_length_le (Nat.le_refl _)]; rfl, HB.out⟩
theorem paCon (l : List PD) (p : Option Addr) (c : Nat) (dom : Int) (bx : Nat) (w : World) (hl : l.length ≤ 140737488355328) (hg : PG w p l) (hb : w.cell? ⟨bx, 0, none⟩ = some (.int .i64 dom)) :
    Calls Tryd.prog 46 #[.slice p l.length c, .func (.func 47) #[] #[.pointer (some ⟨bx, 0, none⟩)]] w fun e w' => e = .returned (.bool (hasV l dom)) ∧ Below w.heap.size w w' := by
  have HC := hid (paIdx l p c dom bx w hl hg hb)
  have HV := hid (ixV_has l dom 0)
  clear hg hb
  obtain ⟨r, hr⟩ : ∃ r, ixV l dom 0 = r := ⟨_, rfl⟩
  rw [hr] at HC HV
  clear hr
  go_enter Tryd.func46, Tryd.ntmps46
  go_wp2_with (go_at_call 56; refine HC.out.mono ?_; rintro e w2 ⟨rfl, hb2⟩; have HB3 := hid hb2; clear hb2)
  go_ret
  exact ⟨by rw [← HV.out]; rfl, HB3.out⟩
theorem paHas (l : List PD) (p : Option Addr) (k c : Nat) (dom : Int) (w : World) (hk : k ≤ l.length) (hl : l.length ≤ 140737488355328) (hg : PG w p l) :
    Calls Tryd.prog 32 #[.slice p k c, .int .i64 dom] w fun e w' => e = .returned (.bool (hasV (l.take k) dom)) ∧ Below w.heap.size w w' := by
  have hb := (Below.refl w.heap.size w).alloc (Nat.le_refl _) (Obj.cells #[Value.int IntKind.i64 dom] 3)
  have hg' : PG w p (l.take k) := fun j d hj => by
    rw [List.getElem?_take] at hj
    split at hj
    · exact hg j d hj
    · cases hj
  have hlen : (l.take k).length = k := by rw [List.length_take]; omega
  have HC := hid (paCon (l.take k) p c dom w.heap.size (w.alloc (Obj.cells #[Value.int IntKind.i64 dom] 3)) (by omega) (hg'.below hb) (by simp [go_sem]))
  rw [hlen] at HC
  have HB := hid hb
  clear hb hg hg' hlen
  go_enter Tryd.func32, Tryd.ntmps32
  go_wp2_with (go_at_call 46; refine HC.out.mono ?_; rintro e w2 ⟨rfl, hb2⟩; have HB3 := hid hb2; clear hb2)
  go_ret
  exact ⟨rfl, HB.out.trans (HB3.out.mono HB.out.size)⟩
def domB (x : Int) : Bool := decide (0 ≤ x) && decide (x < 8)
theorem paDom (x : Int) (w : World) : Calls Tryd.prog 31 #[.int .i64 x] w fun e w' => e = .returned (.bool (domB x)) ∧ w = w' := by
  by_cases h0 : 0 ≤ x
  · have e0 : decide (0 ≤ x) = true := by simpa using h0
    have HV := hid (show domB x = decide (x < 8) by unfold domB; rw [e0, Bool.true_and])
    go_enter Tryd.func31, Tryd.ntmps31
    go_wp2
    go_ret
    exact ⟨by rw [HV.out]; rfl, rfl⟩
  · have e0 : decide (0 ≤ x) = false := by simpa using h0
    have HV := hid (show domB x = false by unfold domB; rw [e0, Bool.false_and])
    go_enter Tryd.func31, Tryd.ntmps31
    go_wp2
    go_ret
    exact ⟨by rw [HV.out]; rfl, rfl⟩
def letV (d : PD) : Nat := if d.2.1 = true then (if d.2.2 = true then 98 else 114) else (if d.2.2 = true then 119 else 110)
theorem paLet (d : PD) (w : World) : Calls Tryd.prog 34 #[.agg #[.int .i64 d.1, .bool d.2.1, .bool d.2.2]] w fun e w' => e = .returned (.int .i32 (letV d)) ∧ Below w.heap.size w w' := by
  obtain ⟨x, r, v⟩ := d
  cases r <;> cases v
  all_goals
    go_enter Tryd.func34, Tryd.ntmps34
    go_wp2
    go_ret
    exact ⟨rfl, (Below.refl _ w).alloc (Nat.le_refl _) _⟩
theorem rfHas (l : List PD) (p : Option Addr) (k c : Nat) (dom : Int) (w : World) (hk : k ≤ l.length) (hl : l.length ≤ 140737488355328) (hg : PG w p l) :
    Calls Tryd.prog 40 #[.slice p k c, .int .i64 dom] w fun e w' => e = .returned (.bool (hasV (l.take k) dom)) ∧ w = w' := by
  have HG := hid hg
  clear hg
  go_enter Tryd.func40, Tryd.ntmps40
  go_wp2
  go_loopw [5] (fun t wr => ∃ j : Nat, t = .int .i64 j ∧ j ≤ k ∧ hasV ((l.take k).drop j) dom = hasV (l.take k) dom ∧ wr = w) (fun t _ => k - (intOf t).toNat)
  case atStart => exact ⟨0, rfl, Nat.zero_le _, rfl, rfl⟩
  case round =>
    obtain ⟨j, rfl, hjk, hj, rfl⟩ := hrel
    have HJ := hid hj
    clear hj
    by_cases hkn : j < k
    · obtain ⟨d, hd⟩ : ∃ d, l[j]? = some d := ⟨_, List.getElem?_eq_getElem (by omega)⟩
      obtain ⟨b, o, rfl, hlt', x0, x1, x2⟩ := HG.out j d hd
      have HD := hid (mayGo_drop (show (l.take k)[j]? = some d by rw [List.getElem?_take, if_pos hkn]; exact hd))
      clear hd x1 x2
      by_cases hz : d.1 = dom
      · have e1 : (d.1 == dom) = true := by simpa using hz
        have HZ := hid hz
        clear hz
        go_wp2
        go_ret
        exact ⟨by rw [← HJ.out, HD.out, hasV, List.any_cons]; simp [HZ.out], by trivial⟩
      · have e1 : (d.1 == dom) = false := by simpa using hz
        have HZ := hid hz
        clear hz
        go_wp2
        go_roundw
        case rel => exact ⟨j + 1, by go_num, by omega, by rw [← HJ.out, HD.out, hasV, hasV, List.any_cons]; simp [HZ.out], by trivial⟩
        case measure => simp [intOf]; omega
    · have HK := hid (show j = k by omega)
      go_wp2
      go_ret
      exact ⟨by rw [← HJ.out, List.drop_of_length_le (by rw [List.length_take, HK.out]; omega)]; rfl, by trivial⟩
end Go.Proofs.YtmnolfaejneomaaDoor
