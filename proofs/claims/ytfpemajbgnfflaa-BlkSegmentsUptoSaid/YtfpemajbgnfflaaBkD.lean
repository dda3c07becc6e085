/-
  Package blk: the reference's PackReply; UnpackReply of both sides.
-/
import Derived.Test.YtfpemajbgnfflaaBkC
set_option linter.unusedSimpArgs false
set_option linter.unusedVariables false
namespace Go.Proofs.Ytfpemajbgnfflaa.Bk
open Go.RowKit Gen
set_option maxHeartbeats 4000000

theorem own_fresh (w : World) (l : List UInt8) (hl : l.length ≤ 16777216) : (w.alloc (.cells (bcells l).toArray 5)).ownsRow w.heap.size 5 1 (.slice (some ⟨w.heap.size, 0, none⟩) l.length l.length) l.length (bcells l) := by
  refine ⟨by rw [bcells_len, Nat.mul_one], .inr ⟨w.heap.size, l.length, (bcells l).toArray, rfl, Nat.le_refl _, heap_alloc_new w _, Nat.le_refl _, by unfold maxLen; omega, by simp [bcells_len], ?_⟩⟩
  rw [List.take_of_length_le (by simp [bcells_len])]
/-- three numbers in a block of their own -/
def triV (a b c : Value) : Nat → Value
  | 0 => a
  | 1 => b
  | _ => c
theorem rowA {w W : World} {a b c : Value} (hW : w.alloc (.cells #[a, b, c] 43) = W) : Row W w.heap.size 43 3 (triV a b c) := by
  subst hW
  exact ⟨_, heap_alloc_new w _, by simp, fun k hk => by match k, hk with | 0, _ => rfl | 1, _ => rfl | 2, _ => rfl⟩
theorem set3 {w : World} {b : Nat} {X : Nat → Value} (h : Row w b 43 3 X) (a c d : Value) : Row (((w.setCell ⟨b, 0, none⟩ a).setCell ⟨b, 1, none⟩ c).setCell ⟨b, 2, none⟩ d) b 43 3 (triV a c d) :=
  (((h.set (k := 0) (v := a) (X' := fun q => if q = 0 then a else X q) rfl (fun j _ hj => by simp [hj])).set (k := 1) (v := c) (X' := fun q => if q = 1 then c else if q = 0 then a else X q) rfl (fun j _ hj => by simp [hj])).set (k := 2) (v := d) (X' := fun q => if q = 2 then d else if q = 1 then c else if q = 0 then a else X q) rfl (fun j _ hj => by simp [hj])).congr fun k hk => by match k, hk with | 0, _ => rfl | 1, _ => rfl | 2, _ => rfl
theorem set3_grown (w : World) (b : Nat) (a c d : Value) : w.grownBy (((w.setCell ⟨b, 0, none⟩ a).setCell ⟨b, 1, none⟩ c).setCell ⟨b, 2, none⟩ d) (some b) :=
  ((grownBy_setCell w b 0 none a).trans (grownBy_setCell _ b 1 none c)).trans (grownBy_setCell _ b 2 none d)
theorem BA.len0 {w : World} {p : Option Addr} {l : List UInt8} (h : BA w p l) {k : Nat} (hk : l.length = k + 1) : ∃ b o, p = some ⟨b, o, none⟩ := h.ptr (by omega)
/-- awake -/
theorem blkAwake (w : World) : Calls Try.prog 7 #[] w fun e w' => e = .returned (.bool true) ∧ w.grownBy w' none := by
  have H := hid fun w' => bPackR_yes ⟨7, 1, 0⟩ ⟨⟨by decide, by decide⟩, ⟨by decide, by decide⟩, ⟨by decide, by decide⟩⟩ w' rfl
  simp only [Rp.val] at H
  go_enter Try.func7, Try.ntmps7
  go_wp2_with (go_at_call 11; refine (H.out _).mono ?_; rintro e w1 ⟨v, rfl, hn⟩; obtain ⟨p, c, rfl, ha, hc, _⟩ := hn.ba; obtain ⟨b, o, rfl⟩ := ha.ptr (by decide); have c0 : w1.cell? ⟨b, o, none⟩ = some (.int .u8 7) := ha.at (k := 0) (by decide); rw [show (rpB ⟨7, 1, 0⟩).length = 8 from rfl]; have HG := hid hn.2; clear hn ha hc)
  go_ret
  exact ⟨rfl, HG.out⟩
end Go.Proofs.Ytfpemajbgnfflaa.Bk
