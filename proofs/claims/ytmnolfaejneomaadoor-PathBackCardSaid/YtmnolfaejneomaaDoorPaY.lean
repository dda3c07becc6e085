/-
  Package path: take, the three letters of a part.
-/
import Derived.Test.YtmnolfaejneomaaDoorPaX
import Derived.Deep.AppendLies
set_option linter.unusedSimpArgs false
set_option linter.unusedVariables false
namespace Go.Proofs.YtmnolfaejneomaaDoor
open Go.RowKit
set_option maxHeartbeats 4000000
theorem infoPe : (Tryd.prog.info? 56).map (fun i => (i.zero, i.size, i.bytes)) = some (some (.agg #[.int .i64 0, .bool false, .bool false]), 3, 16) := by kernel_rfl
theorem pcl_snoc (l : List PD) (d : PD) : pcl (l ++ [d]) = pcl l ++ [.int .i64 d.1, .bool d.2.1, .bool d.2.2] := by simp [pcl]
theorem own_ne {w : World} {B0 b : Nat} {e : TypeId} {n s : Nat} {xs : List Value} {v : Value} (h : w.ownsRow B0 e s v n xs) (hb : b < B0) : some b ≠ v.ownBlock := by
  rcases h.2 with ⟨rfl, _⟩ | ⟨g, cap, cur, rfl, hg, _⟩
  · simp [Value.ownBlock]
  · simp [Value.ownBlock]; omega
theorem PT.len_slice {w : World} {B0 : Nat} {e : TypeId} {n s : Nat} {xs : List Value} {v : Value} (h : w.ownsRow B0 e s v n xs) : ∃ p c, v = .slice p n c := by
  rcases h.2 with ⟨rfl, rfl⟩ | ⟨g, cap, cur, rfl, _⟩
  · exact ⟨_, _, rfl⟩
  · exact ⟨_, _, rfl⟩
def TkPost (b B0 : Nat) (l : List PD) (nx : PD) (w : World) (e : Ending) (w' : World) : Prop :=
  e = .returned (.tuple #[.int .i64 0, .int .i64 0]) ∧ PT w' b B0 l nx ∧ Below b w w' ∧ Lib.OthersKept 56 (some b) w w'
def TkNo (w : World) (e : Ending) (w' : World) (b : Nat) : Prop := ∃ (at_ : Int) (k : Nat), e = .returned (.tuple #[.int .i64 at_, .int .i64 k]) ∧ k ≠ 0 ∧ Below b w w'
theorem tk2_yes (b B0 : Nat) (l : List PD) (nx : PD) (a : Int) (r : Int) (w : World) (h : PT w b B0 l nx) (hm : a.tmod 3 = 2) (hr : r = 44 ∨ r = -1) :
    Calls Tryd.prog 30 #[.pointer (some ⟨b, 0, none⟩), .int .i64 a, .int .i32 r] w (TkPost b B0 l nx w) := by
  have HP := hid h
  clear h
  rcases hr with rfl | rfl
  all_goals
    go_enter Tryd.func30, Tryd.ntmps30
    go_wp2
    go_ret2
    exact ⟨rfl, HP.out, Below.refl _ _, Lib.OthersKept.refl _ _ _⟩
theorem tk2_no (b B0 : Nat) (l : List PD) (nx : PD) (a : Int) (r : Int) (w : World) (h : PT w b B0 l nx) (hm : a.tmod 3 = 2) (h1 : r ≠ 44) (h2 : r ≠ -1) :
    Calls Tryd.prog 30 #[.pointer (some ⟨b, 0, none⟩), .int .i64 a, .int .i32 r] w (TkNo w · · b) := by
  have e1 : (r == 44) = false := by simpa using h1
  have e2 : (r == -1) = false := by simpa using h2
  clear h h1 h2
  go_enter Tryd.func30, Tryd.ntmps30
  go_wp2
  go_ret2
  exact ⟨a, 90, rfl, by decide, Below.refl _ _⟩
theorem tk0_full (b B0 : Nat) (l : List PD) (nx : PD) (a : Int) (r : Int) (w : World) (h : PT w b B0 l nx) (hm : a.tmod 3 = 0) (h8 : l.length = 8) :
    Calls Tryd.prog 30 #[.pointer (some ⟨b, 0, none⟩), .int .i64 a, .int .i32 r] w (TkNo w · · b) := by
  obtain ⟨v, hh, hown, hb, hB⟩ := h
  obtain ⟨p, c, rfl⟩ := PT.len_slice hown
  obtain ⟨⟨c0, c1, c2, c3⟩, f0, f1, f2, f3⟩ := parts_cells hh
  have e1 : ((l.length : Int) == 8) = true := by simp; omega
  clear hown hh
  go_enter Tryd.func30, Tryd.ntmps30
  go_wp2
  go_ret2
  exact ⟨a, 2, rfl, by decide, Below.refl _ _⟩
theorem kept_of_below {T : TypeId} {b : Nat} {w w' : World} (h : Below w.heap.size w w') : Lib.OthersKept T (some b) w w' := fun k o hk _ _ => (h.block k (Array.getElem?_eq_some_iff.1 hk).1).trans hk
theorem own_below {w w' : World} {B0 : Nat} {e : TypeId} {s n : Nat} {xs : List Value} {v : Value} (h : w.ownsRow B0 e s v n xs) (hb : Below w.heap.size w w') : w'.ownsRow B0 e s v n xs := by
  refine ⟨h.1, ?_⟩
  rcases h.2 with h2 | ⟨g, cap, cur, rfl, hb', hg, r⟩
  · exact .inl h2
  · exact .inr ⟨g, cap, cur, rfl, hb', (hb.block g (Array.getElem?_eq_some_iff.1 hg).1).trans hg, r⟩
theorem own_setCell {w : World} {B0 b i : Nat} {e : TypeId} {s n : Nat} {xs : List Value} {v u : Value} (h : w.ownsRow B0 e s v n xs) (hb : b < B0) : (w.setCell ⟨b, i, none⟩ u).ownsRow B0 e s v n xs := by
  refine ⟨h.1, ?_⟩
  rcases h.2 with h2 | ⟨g, cap, cur, rfl, hb', hg, r⟩
  · exact .inl h2
  · exact .inr ⟨g, cap, cur, rfl, hb', (heap_setCell_other w ⟨b, i, none⟩ g u (by simp; omega)).trans hg, r⟩
theorem set3 {w : World} {b B0 : Nat} {l : List PD} {nx : PD} {v : Value} (x y : Bool) (z : Int) (hh : w.heap[b]? = some (partsO v nx)) (hown : w.ownsRow B0 56 3 v l.length (pcl l)) (hb : b < B0) (hB : B0 ≤ w.heap.size) :
    PT (((w.setCell ⟨b, 1, none⟩ (.int .i64 z)).setCell ⟨b, 2, none⟩ (.bool x)).setCell ⟨b, 3, none⟩ (.bool y)) b B0 l (z, x, y) := by
  have h1 := heap_setCell_same w b 1 _ _ (.int .i64 z) hh
  have h2 := heap_setCell_same _ b 2 _ _ (.bool x) h1
  have h3 := heap_setCell_same _ b 3 _ _ (.bool y) h2
  exact ⟨v, h3, own_setCell (own_setCell (own_setCell hown hb) hb) hb, hb, by simpa using hB⟩
theorem below_set {w : World} {b i : Nat} {v : Value} : Below b w (w.setCell ⟨b, i, none⟩ v) := ⟨rfl, rfl, rfl, by simp, fun k hk => heap_setCell_other w ⟨b, i, none⟩ k v (by simp; omega)⟩
theorem kept_set {T : TypeId} {w : World} {b i : Nat} {v : Value} : Lib.OthersKept T (some b) w (w.setCell ⟨b, i, none⟩ v) := (Lib.OthersKept.refl T (some b) w).setCell ⟨b, i, none⟩ rfl v
theorem tk0_yes (b B0 : Nat) (l : List PD) (nx : PD) (a : Int) (r : Int) (w : World) (h : PT w b B0 l nx) (hm : a.tmod 3 = 0) (h8 : l.length < 8) (x y : Bool) (hr : pmV r = some (x, y)) :
    Calls Tryd.prog 30 #[.pointer (some ⟨b, 0, none⟩), .int .i64 a, .int .i32 r] w (TkPost b B0 l (0, x, y) w) := by
  obtain ⟨v, hh, hown, hb, hB⟩ := h
  obtain ⟨p, c, rfl⟩ := PT.len_slice hown
  obtain ⟨⟨c0, c1, c2, c3⟩, f0, f1, f2, f3⟩ := parts_cells hh
  have HPm := hid (paPerm r w)
  rw [hr] at HPm
  have e1 : ((l.length : Int) == 8) = false := by simp; omega
  have HH := hid hh
  have HO := hid hown
  clear hown hh hr
  go_enter Tryd.func30, Tryd.ntmps30
  go_wp2_with (go_at_call 44; refine HPm.out.mono ?_; rintro e w2 ⟨rfl, hb2⟩; have HB2 := hid hb2; have HH2 := hid (heap_below HH.out hb2); have HO2 := hid (own_below HO.out hb2); replace c1 := (parts_cells HH2.out).1.2.1; replace c2 := (parts_cells HH2.out).1.2.2.1; replace c3 := (parts_cells HH2.out).1.2.2.2; replace f1 := (parts_cells HH2.out).2.2.1; replace f2 := (parts_cells HH2.out).2.2.2.1; replace f3 := (parts_cells HH2.out).2.2.2.2; clear hb2)
  go_ret2
  exact ⟨rfl, set3 x y 0 HH2.out HO2.out hb (Nat.le_trans hB HB2.out.size), ((HB2.out.mono (by omega)).trans (below_set.trans (below_set.trans below_set))), (kept_of_below HB2.out).trans (kept_set.trans (kept_set.trans kept_set))⟩
theorem tk0_no (b B0 : Nat) (l : List PD) (nx : PD) (a : Int) (r : Int) (w : World) (h : PT w b B0 l nx) (hm : a.tmod 3 = 0) (h8 : l.length < 8) (hr : pmV r = none) :
    Calls Tryd.prog 30 #[.pointer (some ⟨b, 0, none⟩), .int .i64 a, .int .i32 r] w (TkNo w · · b) := by
  obtain ⟨v, hh, hown, hb, hB⟩ := h
  obtain ⟨p, c, rfl⟩ := PT.len_slice hown
  obtain ⟨⟨c0, c1, c2, c3⟩, f0, f1, f2, f3⟩ := parts_cells hh
  have HPm := hid (paPerm r w)
  rw [hr] at HPm
  have e1 : ((l.length : Int) == 8) = false := by simp; omega
  have HH := hid hh
  clear hown hh hr
  go_enter Tryd.func30, Tryd.ntmps30
  go_wp2_with (go_at_call 44; refine HPm.out.mono ?_; rintro e w2 ⟨rfl, hb2⟩; have HB2 := hid hb2; have HH2 := hid (heap_below HH.out hb2); replace c1 := (parts_cells HH2.out).1.2.1; replace c2 := (parts_cells HH2.out).1.2.2.1; replace c3 := (parts_cells HH2.out).1.2.2.2; replace f1 := (parts_cells HH2.out).2.2.1; replace f2 := (parts_cells HH2.out).2.2.2.1; replace f3 := (parts_cells HH2.out).2.2.2.2; clear hb2)
  go_ret2
  exact ⟨a, 90, rfl, by decide, ((HB2.out.mono (by omega)).trans (below_set.trans (below_set.trans below_set)))⟩
end Go.Proofs.YtmnolfaejneomaaDoor
