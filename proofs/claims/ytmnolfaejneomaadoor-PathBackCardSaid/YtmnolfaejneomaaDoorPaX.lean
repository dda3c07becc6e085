/-
  Package path: Perms, letter by letter: the parts in memory.
-/
import Derived.Test.YtmnolfaejneomaaDoorPaU
import Derived.Test.YtmnolfaejneomaaDoorPaW
import Derived.Lib.OthersKept
import Derived.Laws.RangeString
import Derived.Laws.RangeAny
set_option linter.unusedSimpArgs false
set_option linter.unusedVariables false
namespace Go.Proofs.YtmnolfaejneomaaDoor
open Go.RowKit
set_option maxHeartbeats 2000000
abbrev partsO (v : Value) (nx : PD) : Obj := Obj.cells #[v, .int .i64 nx.1, .bool nx.2.1, .bool nx.2.2] 58
def PT (w : World) (b B0 : Nat) (l : List PD) (nx : PD) : Prop := ∃ v, w.heap[b]? = some (partsO v nx) ∧ w.ownsRow B0 56 3 v l.length (pcl l) ∧ b < B0 ∧ B0 ≤ w.heap.size
theorem parts_cells {w : World} {b : Nat} {v : Value} {nx : PD} (h : w.heap[b]? = some (partsO v nx)) :
    (w.cell? ⟨b, 0, none⟩ = some v ∧ w.cell? ⟨b, 1, none⟩ = some (.int .i64 nx.1) ∧ w.cell? ⟨b, 2, none⟩ = some (.bool nx.2.1) ∧ w.cell? ⟨b, 3, none⟩ = some (.bool nx.2.2)) ∧
    (w.frozen? ⟨b, 0, none⟩ = false ∧ w.frozen? ⟨b, 1, none⟩ = false ∧ w.frozen? ⟨b, 2, none⟩ = false ∧ w.frozen? ⟨b, 3, none⟩ = false) := by
  refine ⟨⟨?_, ?_, ?_, ?_⟩, ?_, ?_, ?_, ?_⟩ <;> simp [World.cell?, World.frozen?, h]
def pmV (r : Int) : Option (Bool × Bool) := if r = 110 then some (false, false) else if r = 114 then some (true, false) else if r = 119 then some (false, true) else if r = 98 then some (true, true) else none
theorem paPerm (r : Int) (w : World) : Calls Tryd.prog 44 #[.int .i32 r] w fun e w' => e = .returned (.tuple #[.agg #[.int .i64 0, .bool ((pmV r).getD (false, false)).1, .bool ((pmV r).getD (false, false)).2], .bool (pmV r).isSome]) ∧ Below w.heap.size w w' := by
  by_cases h110 : r = 110
  · subst h110
    go_enter Tryd.func44, Tryd.ntmps44
    go_wp2
    exact bodyPost_ret (v := .tuple #[.agg #[.int .i64 0, .bool false, .bool false], .bool true]) (by simp [results, Tryd.results44, go_sem]) rfl ⟨rfl, (Below.refl _ w).alloc (Nat.le_refl _) _⟩
  by_cases h114 : r = 114
  · subst h114
    go_enter Tryd.func44, Tryd.ntmps44
    go_wp2
    exact bodyPost_ret (v := .tuple #[.agg #[.int .i64 0, .bool true, .bool false], .bool true]) (by simp [results, Tryd.results44, go_sem]) rfl ⟨rfl, (Below.refl _ w).alloc (Nat.le_refl _) _⟩
  by_cases h119 : r = 119
  · subst h119
    go_enter Tryd.func44, Tryd.ntmps44
    go_wp2
    exact bodyPost_ret (v := .tuple #[.agg #[.int .i64 0, .bool false, .bool true], .bool true]) (by simp [results, Tryd.results44, go_sem]) rfl ⟨rfl, (Below.refl _ w).alloc (Nat.le_refl _) _⟩
  by_cases h98 : r = 98
  · subst h98
    go_enter Tryd.func44, Tryd.ntmps44
    go_wp2
    exact bodyPost_ret (v := .tuple #[.agg #[.int .i64 0, .bool true, .bool true], .bool true]) (by simp [results, Tryd.results44, go_sem]) rfl ⟨rfl, (Below.refl _ w).alloc (Nat.le_refl _) _⟩
  have HN := hid (show pmV r = none by unfold pmV; rw [if_neg h110, if_neg h114, if_neg h119, if_neg h98])
  rw [HN.out]
  have e110 : (r == 110) = false := by simpa using h110
  have e114 : (r == 114) = false := by simpa using h114
  have e119 : (r == 119) = false := by simpa using h119
  have e98 : (r == 98) = false := by simpa using h98
  clear h110 h114 h119 h98
  go_enter Tryd.func44, Tryd.ntmps44
  go_wp2
  exact bodyPost_ret (v := .tuple #[.agg #[.int .i64 0, .bool false, .bool false], .bool false]) (by simp [results, Tryd.results44, go_sem]) rfl ⟨rfl, (Below.refl _ w).alloc (Nat.le_refl _) _⟩
theorem paDig (r : Int) (w : World) (h0 : -1 ≤ r) (h1 : r ≤ 2147483647) : Calls Tryd.prog 45 #[.int .i32 r] w fun e w' => e = .returned (.tuple #[.int .i64 (if domB (r - 48) = true then r - 48 else 0), .bool (domB (r - 48))]) ∧ w = w' := by
  have HD := hid fun w' => paDom (r - 48) w'
  cases hd : domB (r - 48) with
  | true =>
    rw [hd] at HD
    have hd' := hid hd
    clear hd
    go_enter Tryd.func45, Tryd.ntmps45
    go_wp2_with (go_at_call 31; refine (HD.out _).mono ?_; rintro e w' ⟨rfl, rfl⟩)
    go_ret2
    exact ⟨by rfl, rfl⟩
  | false =>
    rw [hd] at HD
    have hd' := hid hd
    clear hd
    go_enter Tryd.func45, Tryd.ntmps45
    go_wp2_with (go_at_call 31; refine (HD.out _).mono ?_; rintro e w' ⟨rfl, rfl⟩)
    go_ret2
    exact ⟨by rfl, rfl⟩
end Go.Proofs.YtmnolfaejneomaaDoor
