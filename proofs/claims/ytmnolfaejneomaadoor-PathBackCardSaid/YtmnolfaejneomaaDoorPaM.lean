/-
  Package path: May of both sides.
-/
import Derived.Test.YtmnolfaejneomaaDoorPaF
set_option linter.unusedSimpArgs false
set_option linter.unusedVariables false
namespace Go.Proofs.YtmnolfaejneomaaDoor
open Go.RowKit
set_option maxHeartbeats 1000000
abbrev PD := Int × Bool × Bool
/-- permissions that lie in a row somewhere -/
def PG (w : World) (p : Option Addr) (l : List PD) : Prop := ∀ j d, l[j]? = some d → ∃ b o, p = some ⟨b, o, none⟩ ∧ b < w.heap.size ∧ w.cell? ⟨b, o + j * 3, none⟩ = some (.int .i64 d.1) ∧ w.cell? ⟨b, o + j * 3 + 1, none⟩ = some (.bool d.2.1) ∧ w.cell? ⟨b, o + j * 3 + 2, none⟩ = some (.bool d.2.2)
theorem PG.below {w w' : World} {p : Option Addr} {l : List PD} (h : PG w p l) (hb : Below w.heap.size w w') : PG w' p l := fun j d hj => by
  obtain ⟨b, o, e, hlt, h0, h1, h2⟩ := h j d hj
  exact ⟨b, o, e, by have := hb.size; omega, by rw [hb.cell (p := ⟨b, _, none⟩) hlt]; exact h0, by rw [hb.cell (p := ⟨b, _, none⟩) hlt]; exact h1, by rw [hb.cell (p := ⟨b, _, none⟩) hlt]; exact h2⟩
def mayGo : List PD → Int → Bool × Bool → Bool × Bool
  | [], _, z => z
  | d :: r, dom, z => if d.1 = dom then d.2 else mayGo r dom z
def mayV (l : List PD) (dom : Int) : Bool × Bool := match l with
  | [] => (false, false)
  | d :: r => if dom = 0 ∨ dom = d.1 then (true, true) else mayGo r dom d.2
def MyPost (l : List PD) (dom : Int) (w : World) (e : Ending) (w' : World) : Prop := e = .returned (.tuple #[.bool (mayV l dom).1, .bool (mayV l dom).2]) ∧ Below w.heap.size w w'
theorem MyPost.of {l : List PD} {dom : Int} {w w' : World} {x y : Bool} (h : mayV l dom = (x, y)) (hb : Below w.heap.size w w') : MyPost l dom w (.returned (.tuple #[.bool x, .bool y])) w' := ⟨by rw [h], hb⟩
theorem below_up {B : Nat} {w w1 w2 : World} {o : Obj} (hw : B = w.heap.size) (he : w1 = w.alloc o) (hb : Below (B + 1) w1 w2) : Below B w w2 := by
  subst hw he
  exact ((Below.refl w.heap.size w).alloc (Nat.le_refl _) _).trans (hb.mono (Nat.le_succ _))
theorem below_drew' {B : Nat} {a w : World} (h : Below B a w) : Below B a w.drew := h.trans ⟨rfl, rfl, rfl, Nat.le_refl _, fun _ _ => rfl⟩
theorem mayGo_drop {r : List PD} {k : Nat} {d : PD} (h : r[k]? = some d) : r.drop k = d :: r.drop (k + 1) := by
  have hk := (List.getElem?_eq_some_iff.1 h).1
  rw [List.drop_eq_getElem_cons hk]
  rw [List.getElem?_eq_getElem hk] at h
  rw [Option.some.inj h]
theorem paMay (l : List PD) (p : Option Addr) (c : Nat) (dom : Int) (w : World) (hl : l.length ≤ 140737488355328) (hc : l.length ≤ c) (hg : PG w p l) :
    Calls Tryd.prog 24 #[.slice p l.length c, .int .i64 dom] w (MyPost l dom w) := by
  cases l with
  | nil =>
    go_enter Tryd.func24, Tryd.ntmps24
    go_wp2
    go_ret2
    exact MyPost.of rfl (Below.refl _ _)
  | cons d0 r =>
    obtain ⟨b, o, rfl, hlt, c0, c1, c2⟩ := hg 0 d0 rfl
    rw [Nat.zero_mul, Nat.add_zero] at c0 c1 c2
    have HG := hid hg
    clear hg
    simp only [List.length_cons] at hl hc ⊢
    by_cases hd : dom = 0
    · have e1 : (dom == 0) = true := by simpa using hd
      have HV := hid (show mayV (d0 :: r) dom = (true, true) by simp [mayV, hd])
      clear hd
      go_enter Tryd.func24, Tryd.ntmps24
      go_wp2
      go_ret2
      exact MyPost.of HV.out ((Below.refl _ w).alloc (Nat.le_refl _) _)
    have e1 : (dom == 0) = false := by simpa using hd
    by_cases hd' : dom = d0.1
    · have e2 : (dom == d0.1) = true := by simpa using hd'
      have HV := hid (show mayV (d0 :: r) dom = (true, true) by simp [mayV, hd'])
      clear hd hd'
      go_enter Tryd.func24, Tryd.ntmps24
      go_wp2
      go_ret2
      exact MyPost.of HV.out ((Below.refl _ w).alloc (Nat.le_refl _) _)
    have e2 : (dom == d0.1) = false := by simpa using hd'
    have HV := hid (show mayV (d0 :: r) dom = mayGo r dom d0.2 by simp [mayV, hd, hd'])
    clear hd hd'
    by_cases hr : r = []
    · subst hr
      simp only [List.length_nil, Nat.zero_add] at hl hc ⊢
      have HC := hid hc
      by_cases hc1 : c = 1
      · subst hc1
        go_enter Tryd.func24, Tryd.ntmps24
        go_wp2_with (fail)
        go_loopw [26] (fun t wr => t = .int .i64 0 ∧ wr = w.alloc (Obj.cells #[Value.int IntKind.i64 d0.1, Value.bool d0.2.1, Value.bool d0.2.2] 56)) (fun _ _ => 0)
        case atStart => exact ⟨rfl, rfl⟩
        case round =>
          obtain ⟨rfl, rfl⟩ := hrel
          go_wp2
          go_region
          go_wp2
          go_ret2
          exact MyPost.of (by rw [HV.out]; rfl) (below_drew' ((Below.refl _ w).alloc (Nat.le_refl _) _))
      · go_enter Tryd.func24, Tryd.ntmps24
        go_wp2_with (fail)
        go_loopw [26] (fun t wr => t = .int .i64 0 ∧ wr = w.alloc (Obj.cells #[Value.int IntKind.i64 d0.1, Value.bool d0.2.1, Value.bool d0.2.2] 56)) (fun _ _ => 0)
        case atStart => exact ⟨rfl, rfl⟩
        case round =>
          obtain ⟨rfl, rfl⟩ := hrel
          go_wp2
          go_region
          go_wp2
          go_ret2
          exact MyPost.of (by rw [HV.out]; rfl) (below_drew' ((Below.refl _ w).alloc (Nat.le_refl _) _))
    have hpos : 0 < r.length := List.length_pos_iff.2 hr
    have hc1 : c ≠ 1 := by omega
    clear hr
    go_enter Tryd.func24, Tryd.ntmps24
    go_wp2_with (fail)
    go_loopw [26] (fun t wr => ∃ k : Nat, t = .int .i64 k ∧ k ≤ r.length ∧ mayGo (r.drop k) dom d0.2 = mayGo r dom d0.2 ∧ Below (w.heap.size + 1) (w.alloc (Obj.cells #[Value.int IntKind.i64 d0.1, Value.bool d0.2.1, Value.bool d0.2.2] 56)) wr) (fun t _ => r.length - (intOf t).toNat)
    case atStart => exact ⟨0, rfl, Nat.zero_le _, rfl, Below.refl _ _⟩
    case round =>
      obtain ⟨k, rfl, hk, hj, hb⟩ := hrel
      have HJ := hid hj
      have HB := hid hb
      have HB0 := hid (below_up rfl rfl hb)
      have hsz := hb.size
      simp at hsz
      have z1 : wr.cell? ⟨w.heap.size, 1, none⟩ = some (.bool d0.2.1) := by rw [hb.cell (p := ⟨w.heap.size, 1, none⟩) (Nat.lt_succ_self _)]; simp [go_sem]
      have z2 : wr.cell? ⟨w.heap.size, 2, none⟩ = some (.bool d0.2.2) := by rw [hb.cell (p := ⟨w.heap.size, 2, none⟩) (Nat.lt_succ_self _)]; simp [go_sem]
      clear hj hb
      by_cases hkn : k < r.length
      · obtain ⟨d, hd⟩ : ∃ d, r[k]? = some d := ⟨_, List.getElem?_eq_getElem hkn⟩
        obtain ⟨b', o', e', hlt', x0, x1, x2⟩ := (HG.out.below HB0.out) (k + 1) d (by simpa using hd)
        cases e'
        have ea : o + (k + 1) * 3 = o + 3 + k * 3 := by omega
        rw [ea] at x0 x1 x2
        have HD := hid (mayGo_drop hd)
        clear hd ea
        by_cases hz : d.1 = dom
        · have e3 : (d.1 == dom) = true := by simpa using hz
          have HZ := hid hz
          clear hz z1 z2 c0 c1 c2
          go_wp2_with (fail)
          go_region
          go_wp2
          go_ret2
          exact MyPost.of (by rw [HV.out, ← HJ.out, HD.out, mayGo, if_pos HZ.out]) (below_drew' (HB0.out.alloc HB0.out.size _))
        · have e3 : (d.1 == dom) = false := by simpa using hz
          have HZ := hid hz
          clear hz z1 z2 c0 c1 c2
          go_wp2
          go_roundw
          case rel =>
            refine ⟨k + 1, by go_num, by omega, by rw [← HJ.out, HD.out, mayGo, if_neg HZ.out], HB.out.alloc (by simpa using HB.out.size) _⟩
          case measure => simp [intOf]; omega
      · have HK := hid (show k = r.length by omega)
        clear c0 c1 c2
        go_wp2_with (fail)
        go_region
        go_wp2
        go_ret2
        exact MyPost.of (by rw [HV.out, ← HJ.out, HK.out, List.drop_of_length_le (Nat.le_refl _)]; rfl) (below_drew' HB0.out)
theorem rfMay (l : List PD) (p : Option Addr) (c : Nat) (dom : Int) (w : World) (hl : l.length ≤ 140737488355328) (hg : PG w p l) :
    Calls Tryd.prog 25 #[.slice p l.length c, .int .i64 dom] w (MyPost l dom w) := by
  cases l with
  | nil =>
    go_enter Tryd.func25, Tryd.ntmps25
    go_wp2
    go_ret2
    exact MyPost.of rfl (Below.refl _ _)
  | cons d0 r =>
    obtain ⟨b, o, rfl, hlt, c0, c1, c2⟩ := hg 0 d0 rfl
    rw [Nat.zero_mul, Nat.add_zero] at c0 c1 c2
    have HG := hid hg
    clear hg
    simp only [List.length_cons] at hl ⊢
    by_cases hd : dom = 0
    · have e1 : (dom == 0) = true := by simpa using hd
      have HV := hid (show mayV (d0 :: r) dom = (true, true) by simp [mayV, hd])
      clear hd
      go_enter Tryd.func25, Tryd.ntmps25
      go_wp2
      go_ret2
      exact MyPost.of HV.out (Below.refl _ w)
    have e1 : (dom == 0) = false := by simpa using hd
    by_cases hd' : dom = d0.1
    · have e2 : (dom == d0.1) = true := by simpa using hd'
      have HV := hid (show mayV (d0 :: r) dom = (true, true) by simp [mayV, hd'])
      clear hd hd'
      go_enter Tryd.func25, Tryd.ntmps25
      go_wp2
      go_ret2
      exact MyPost.of HV.out (Below.refl _ w)
    have e2 : (dom == d0.1) = false := by simpa using hd'
    have HV := hid (show mayV (d0 :: r) dom = mayGo r dom d0.2 by simp [mayV, hd, hd'])
    clear hd hd'
    go_enter Tryd.func25, Tryd.ntmps25
    go_wp2_with (fail)
    go_loopw [6] (fun t wr => ∃ k : Nat, t = .int .i64 (k + 1) ∧ k ≤ r.length ∧ mayGo (r.drop k) dom d0.2 = mayGo r dom d0.2 ∧ wr = w) (fun t _ => r.length + 1 - (intOf t).toNat)
    case atStart => exact ⟨0, rfl, Nat.zero_le _, rfl, rfl⟩
    case round =>
      obtain ⟨k, rfl, hk, hj, rfl⟩ := hrel
      have HJ := hid hj
      clear hj
      by_cases hkn : k < r.length
      · obtain ⟨d, hd⟩ : ∃ d, r[k]? = some d := ⟨_, List.getElem?_eq_getElem hkn⟩
        obtain ⟨b', o', e', hlt', x0, x1, x2⟩ := HG.out (k + 1) d (by simpa using hd)
        cases e'
        have HD := hid (mayGo_drop hd)
        clear hd
        by_cases hz : d.1 = dom
        · have e3 : (d.1 == dom) = true := by simpa using hz
          have HZ := hid hz
          clear hz c0 c1 c2
          go_wp2_with (fail)
          go_region
          go_wp2
          go_ret2
          exact MyPost.of (by rw [HV.out, ← HJ.out, HD.out, mayGo, if_pos HZ.out]) (below_drew' (Below.refl _ _))
        · have e3 : (d.1 == dom) = false := by simpa using hz
          have HZ := hid hz
          clear hz c0 c1 c2
          go_wp2
          go_roundw
          case rel => exact ⟨k + 1, by go_num, by omega, by rw [← HJ.out, HD.out, mayGo, if_neg HZ.out], by trivial⟩
          case measure => simp [intOf]; omega
      · have HK := hid (show k = r.length by omega)
        go_wp2_with (fail)
        go_region
        go_wp2
        go_ret2
        exact MyPost.of (by rw [HV.out, ← HJ.out, HK.out, List.drop_of_length_le (Nat.le_refl _)]; rfl) (below_drew' (Below.refl _ _))
end Go.Proofs.YtmnolfaejneomaaDoor
