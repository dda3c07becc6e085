/-
  Package mmu: one entry is changed.
-/
import Derived.Test.YtbbaplcfhofeeaaK11
set_option linter.unusedSimpArgs false
set_option linter.unusedVariables false
namespace Go.Proofs.Ytbbaplcfhofeeaa
open Go.RowKit
set_option maxHeartbeats 2000000

theorem row4z (w : World) : Row (w.alloc (.cells #[.int .i64 0, .int .i64 0, .int .i64 0, .int .i64 0] 62)) w.heap.size 62 4 (fun _ => .int .i64 0) :=
  ⟨_, heap_alloc_new w _, by simp, fun k hk => by match k, hk with | 0, _ => rfl | 1, _ => rfl | 2, _ => rfl | 3, _ => rfl⟩
theorem box3 (w : World) (a b c : Value) (t : TypeId) : ∃ W, w.alloc (.cells #[a, b, c] t) = W ∧ w.grownBy W none ∧ W.cell? ⟨w.heap.size, 0, none⟩ = some a ∧ W.cell? ⟨w.heap.size, 1, none⟩ = some b ∧ W.cell? ⟨w.heap.size, 2, none⟩ = some c :=
  ⟨_, rfl, World.grownBy_alloc w _ none, by simp [go_sem], by simp [go_sem], by simp [go_sem]⟩
theorem set4 {w : World} {g : Nat} {t : TypeId} {X : Nat → Value} (h : Row w g t 4 X) (a b c d : Value) :
    Row ((((w.setCell ⟨g, 0, none⟩ a).setCell ⟨g, 1, none⟩ b).setCell ⟨g, 2, none⟩ c).setCell ⟨g, 3, none⟩ d) g t 4 (fun k => [a, b, c, d].getD k undef) := by
  have h1 := h.set (k := 0) (v := a) (X' := fun q => if q = 0 then a else X q) rfl (fun j _ hj => by simp [hj])
  have h2 := h1.set (k := 1) (v := b) (X' := fun q => if q = 1 then b else if q = 0 then a else X q) rfl (fun j _ hj => by simp [hj])
  have h3 := h2.set (k := 2) (v := c) (X' := fun q => if q = 2 then c else if q = 1 then b else if q = 0 then a else X q) rfl (fun j _ hj => by simp [hj])
  have h4 := h3.set (k := 3) (v := d) (X' := fun q => if q = 3 then d else if q = 2 then c else if q = 1 then b else if q = 0 then a else X q) rfl (fun j _ hj => by simp [hj])
  exact h4.congr fun k hk => by match k, hk with | 0, _ => rfl | 1, _ => rfl | 2, _ => rfl | 3, _ => rfl
theorem set4_grown (w : World) (g : Nat) (a b c d : Value) : w.grownBy ((((w.setCell ⟨g, 0, none⟩ a).setCell ⟨g, 1, none⟩ b).setCell ⟨g, 2, none⟩ c).setCell ⟨g, 3, none⟩ d) (some g) :=
  (((grownBy_setCell w g 0 none a).trans (grownBy_setCell _ g 1 none b)).trans (grownBy_setCell _ g 2 none c)).trans (grownBy_setCell _ g 3 none d)
theorem XM.other {w0 w W : World} {B X : Nat} {M : Mach} (h : XM w0 w B X M) {g : Nat} (hg : w.grownBy W (some g)) (hb : w0.heap.size ≤ g) (hB : B ≠ g) (hX : X ≠ g) : XM w0 W B X M :=
  ⟨h.m.grown hg (by simpa using hB), hg.cell h.x (by simpa using hX), h.g.andThen hg (fun j e => by cases e; exact .inl hb), h.XB⟩
theorem row_bytes {w : World} {g n : Nat} (h : Row w g 5 4 (fun k => .int .u8 ((le4 n).getD k 0).toNat)) : ∀ k x, (le4 n)[k]? = some x → w.cell? ((⟨g, 0, none⟩ : Addr).add k) = some (.int .u8 x.toNat) := fun k x hx => by
  obtain ⟨hk, rfl⟩ := List.getElem?_eq_some_iff.1 hx
  have hk4 : k < 4 := hk
  have e : (⟨g, 0, none⟩ : Addr).add k = ⟨g, k, none⟩ := by unfold Addr.add; split <;> simp_all
  rw [e, h.cell hk4]
  simp [List.getD, List.getElem?_eq_getElem hk]
end Go.Proofs.Ytbbaplcfhofeeaa
