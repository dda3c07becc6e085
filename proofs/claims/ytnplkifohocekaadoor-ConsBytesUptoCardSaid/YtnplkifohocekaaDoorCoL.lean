/-
  Package cons, the laws' shared part: bytes appended to own ones; the program computes; the tables as the row lists them; how long what came in may be.
-/
import Derived.Test.YtnplkifohocekaaDoorCoE
import Derived.Test.YtnplkifohocekaaDoorCards
import Derived.Test.YtnplkifohocekaaDoorTie
import Derived.Deep.DeepHandedRow
import Derived.Lib.LaidU8
import Derived.Lay
import Derived.Lib.AppendZerosOnto
set_option linter.unusedSimpArgs false
set_option linter.unusedVariables false
namespace Go.Proofs.YtnplkifohocekaaDoor.Co
open Go.RowKit Go.Lib Go.Proofs.YtnplkifohocekaaDoor.Bk Go.ChangeShapes Go.WideShapes Go.ChangeAt Go.Deep
set_option maxHeartbeats 4000000
/-- append of any bytes to own ones -/
theorem run_append_ba (w : World) (base : Nat) (v : Value) (n : Nat) (xs : List Value) (hown : w.ownsRow base 5 1 v n xs) (p : Option Addr) (l : List UInt8) (c : Nat) (hc : p = none → c = 0) (h : BA w p l) (hm : n + l.length ≤ 16777216) (hbase : base ≤ w.heap.size) :
    ∃ v' w', (∀ ty, (Builtin.append_ #[22, 22] ty #[v, .slice p l.length c]).run Tryd.prog w = .ok v' w') ∧ w'.ownsRow base 5 1 v' (n + l.length) (xs ++ bcells l) ∧ w.grownBy w' v.ownBlock := by
  obtain ⟨i0, hi, hz0, hz1, hz2⟩ := info_parts info_u8
  cases p with
  | none =>
    obtain rfl := h.of_none
    obtain rfl := hc rfl
    exact ⟨v, w, fun ty => run_append_owned_none (P := Tryd.prog) (w := w) base 22 ty 5 i0 1 Tryd.underlying22 hi v n xs hown, by simpa [bcells_nil] using hown, Gen.grownBy_refl _ _⟩
  | some a =>
    obtain ⟨v', w', hr, ho, hg, _⟩ := run_append_own (P := Tryd.prog) w base 22 22 5 i0 (.int .u8 0) 1 1 Tryd.underlying22 hi hz0 hz1 hz2 rfl (by decide) v n xs hown a l.length c (bcells l) (by rw [bcells_len, Nat.mul_one]) (news_ba h) (bcells_one l) (by unfold maxLen; omega) (by omega) hbase
    refine ⟨v', w', fun ty => ?_, ho, hg⟩
    obtain ⟨v2, w2, hr2, _⟩ := run_append_own (P := Tryd.prog) w base 22 ty 5 i0 (.int .u8 0) 1 1 Tryd.underlying22 hi hz0 hz1 hz2 rfl (by decide) v n xs hown a l.length c (bcells l) (by rw [bcells_len, Nat.mul_one]) (news_ba h) (bcells_one l) (by unfold maxLen; omega) (by omega) hbase
    rw [← hr]
    rfl
theorem below_grown {w w' : World} (h : w.grownBy w' none) : Below w.heap.size w w' := ⟨h.os, h.tape, h.output, h.size, fun k hk => h.block k hk (by simp)⟩
theorem grown_below {w w' : World} (h : Below w.heap.size w w') : w.grownBy w' none := ⟨h.os, h.tape, h.output, h.size, fun k hk _ => h.block k hk⟩
/-- the program computes at all -/
theorem show_two : showV [97, 10] = [97, 92, 120, 48, 97] := by
  rw [showV_cons (by simp), show pieceV [97, 10] = [97] by decide, show stepV [97, 10] = 1 by decide]
  show [97] ++ showV [10] = _
  rw [showV_cons (by simp), show pieceV [10] = [92, 120, 48, 97] by decide, show stepV [10] = 1 by decide]
  show _ ++ (_ ++ showV []) = _
  rw [showV_nil]
  rfl
set_option maxRecDepth 100000 in
theorem lAwake (w : World) (hT : Lib.Utf8Tabs 0 1 w) : Calls Tryd.prog 11 #[] w fun e w' => e = .returned (.bool true) ∧ Below w.heap.size w w' := by
  obtain ⟨W1, hW1⟩ : ∃ W1, w.alloc (Obj.cells #[.int .u8 97, .int .u8 10] 5) = W1 := ⟨_, rfl⟩
  have HB1 := hid (show Below w.heap.size w W1 from hW1 ▸ (Below.refl _ w).alloc (Nat.le_refl _) _)
  have HBA := show BA W1 (some ⟨w.heap.size, 0, none⟩) [97, 10] from fun k hk => by
    refine ⟨_, _, rfl, ?_⟩
    rw [← hW1]
    rcases (show k = 0 ∨ k = 1 by simp at hk; omega) with rfl | rfl <;> simp
  have HS := bShow [97, 10] (some ⟨w.heap.size, 0, none⟩) 2 W1 (by decide) HBA (Utf8Tabs_below hT HB1.out)
  rw [show_two] at HS
  have HX := hid (show Calls Tryd.prog 9 #[.slice (some ⟨w.heap.size, 0, none⟩) 2 2] W1 fun e w' => e = .returned (.string ⟨#[97, 92, 120, 48, 97]⟩) ∧ Below W1.heap.size W1 w' from HS)
  clear HS HBA hT
  go_enter Tryd.func11, Tryd.ntmps11
  go_wp2_with (go_at_call 9; (with_reducible refine HX.out.mono ?_); rintro e W2 ⟨rfl, hb2⟩; have HB2 := hid hb2; clear hb2)
  go_ret
  exact ⟨rfl, HB1.out.trans (HB2.out.mono HB1.out.size)⟩
theorem tabs_of {W : World} {l : List (String × DataW Unit)} (h : laidMet Tryd.prog l W) (h1 : ("unicode/utf8.acceptRanges", Rows.laid_unicode_utf8_acceptRanges) ∈ l) (h2 : ("unicode/utf8.first", Rows.laid_unicode_utf8_first) ∈ l) : Lib.Utf8Tabs 0 1 W :=
  utf8Tabs_of_reads (ρ := Tryd.lays197_ren) { Tryd.lays197 with } ⟨by kernel_rfl, by kernel_rfl, by kernel_rfl, by kernel_rfl, by kernel_rfl, by kernel_rfl, by kernel_rfl⟩
    ((show Rows.laid_unicode_utf8_first = Lib.firstData by kernel_rfl) ▸ Lib.laidMet.reads h h2) ((show (Rows.laid_unicode_utf8_acceptRanges : DataW Unit) = Lib.acceptData by kernel_rfl) ▸ Lib.laidMet.reads h h1)
theorem one_le {H : Type} (d : DataW H) : 1 ≤ Rows.uptoBulk d := by
  cases d with
  | lit l => cases l <;> simp [Rows.uptoBulk]
  | nil => simp [Rows.uptoBulk]
  | ptr d => simp [Rows.uptoBulk]
  | slice elems spare => simp [Rows.uptoBulk]
  | agg parts => simp [Rows.uptoBulk]
  | iface t d => simp [Rows.uptoBulk]
  | map entries => simp [Rows.uptoBulk]
  | held h => simp [Rows.uptoBulk]
theorem part_le {H : Type} {d : DataW H} {l : List (DataW H)} (h : d ∈ l) : Rows.uptoBulk d ≤ Rows.uptoBulkAll l := by
  induction l with
  | nil => cases h
  | cons x r ih =>
    simp only [Rows.uptoBulkAll]
    cases List.mem_cons.1 h with
    | inl e => subst e; omega
    | inr e => have := ih e; omega
theorem length_le {H : Type} (l : List (DataW H)) : l.length ≤ Rows.uptoBulkAll l := by
  induction l with
  | nil => simp [Rows.uptoBulkAll]
  | cons x r ih => have := one_le x; simp only [Rows.uptoBulkAll, List.length_cons]; omega
/-- a slice that came in is no longer than what came in is great -/
theorem small_len {H : Type} {enc : TypeId × Value → H} {W : World} {t e : TypeId} (ht : Tryd.prog.underlying t = some (.slice e)) {p : Option Addr} {n c : Nat} {d : DataW H} {p0 : List MemPlace} (hk : Rows.uptoBulk d ≤ 1048576)
    (h : DataW.Trod enc Tryd.prog W 0 (fun _ => true) true t (.slice p n c) d p0) : n ≤ 1048576 := by
  obtain ⟨fuel, h⟩ := h
  rcases DataW.trod_slice ht h with ⟨hcs, _⟩ | ⟨a, len, cap, elems, rest, m, _, hcs, hx, _, _, _, hlen, _⟩
  · cases hcs
    omega
  · cases hcs
    simp only [Prod.mk.injEq] at hx
    rw [hx.1] at hk
    have h2 := length_le (elems.map (·.1))
    simp only [Rows.uptoBulk, List.length_map] at hk h2
    omega
end Go.Proofs.YtnplkifohocekaaDoor.Co
