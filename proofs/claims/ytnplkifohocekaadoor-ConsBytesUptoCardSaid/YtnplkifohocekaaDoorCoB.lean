/-
  Package cons: the bytes of a text told by their digits.
-/
import Derived.Test.YtnplkifohocekaaDoorCoA
import Derived.LoopTactic
set_option linter.unusedSimpArgs false
set_option linter.unusedVariables false
namespace Go.Proofs.YtnplkifohocekaaDoor.Co
open Go.RowKit Go.Lib
set_option maxHeartbeats 2000000
/-- the bytes of a text, converted: a row of its own -/
theorem conv_bytes (s : ByteArray) (w : World) : ∃ c cr W, (convert 9 22 (.string s)).run Tryd.prog w = .ok (.slice (some ⟨w.heap.size, 0, none⟩) s.size c) W ∧
    W = w.drew.alloc (.cells cr 5 (cr.size, cr.size + 1)) ∧ ∀ k, k < s.size → cr[k]? = some (.int .u8 (s.data.toList.getD k 0).toNat) := by
  refine ⟨_, _, _, run_bytes_of_string w 9 22 5 s Tryd.underlying9 Tryd.underlying22 Tryd.underlying5, rfl, fun k hk => ?_⟩
  rw [bytesRow_at s _ k hk]
  have : s.data.toList.getD k 0 = s.data[k] := by rw [List.getD_eq_getElem?_getD, Array.getElem?_toList, Array.getElem?_eq_getElem hk]; rfl
  rw [this]
theorem Wrote.trans {B b : Nat} {bs cs ds : List UInt8} {w u v : World} (h : Wrote B b cs w u) (k : Wrote B b ds u v) : Wrote B b ds w v := ⟨k.isb, h.be.trans k.be, h.oth.trans k.oth, h.odd.trans k.odd⟩
theorem Wrote.cast {B b : Nat} {bs cs : List UInt8} {w u : World} (h : Wrote B b cs w u) (e : cs = bs) : Wrote B b bs w u := e ▸ h
theorem take_flat {l : List UInt8} {k : Nat} (h : k < l.length) : (l.take (k + 1)).flatMap hexV = (l.take k).flatMap hexV ++ hexV (l.getD k 0) := by
  rw [List.take_add_one, List.flatMap_append, List.getElem?_eq_getElem h]
  simp [List.getD, List.getElem?_eq_getElem h]
theorem dig_at (x n : Nat) (h : n < 16) (W : World) : (Instr.index 9 (.string ⟨#[48, 49, 50, 51, 52, 53, 54, 55, 56, 57, 97, 98, 99, 100, 101, 102]⟩) (.int .u8 (n : Int))).run Tryd.prog W = .ok (.int .u8 (digV n).toNat) W := by
  rw [run_index_string W 9 _ .u8 n Tryd.underlying9]
  rcases (show n = 0 ∨ n = 1 ∨ n = 2 ∨ n = 3 ∨ n = 4 ∨ n = 5 ∨ n = 6 ∨ n = 7 ∨ n = 8 ∨ n = 9 ∨ n = 10 ∨ n = 11 ∨ n = 12 ∨ n = 13 ∨ n = 14 ∨ n = 15 by omega) with rfl | rfl | rfl | rfl | rfl | rfl | rfl | rfl | rfl | rfl | rfl | rfl | rfl | rfl | rfl | rfl <;> rfl
set_option maxRecDepth 100000 in
theorem bHide (B b : Nat) (bs : List UInt8) (s : ByteArray) (w : World) (h : IsB B b bs w) (hlen : bs.length + 4 * s.size ≤ 140737488355328) (h0 : s.size ≤ 8796093022208) (hBw : B ≤ w.heap.size) :
    Calls Tryd.prog 28 #[.pointer (some ⟨b, 0, none⟩), .string s] w fun e w' => e = .returned (.tuple #[]) ∧ Wrote B b (bs ++ s.data.toList.flatMap hexV) w w' := by
  obtain ⟨c, cr, W0, hcv, hW0, hcr⟩ := conv_bytes s w
  have HW := hid hW0
  have HC := hid hcr
  have HB := hid h
  clear hW0 hcr h
  have hsz : (s.size : Int) ≤ 8796093022208 := by omega
  go_enter Tryd.func28, Tryd.ntmps28
  go_wp2
  go_loopw [9] (fun t wr => ∃ k : Nat, t = .int .i64 k ∧ k ≤ s.size ∧ Wrote B b (bs ++ (s.data.toList.take k).flatMap hexV) W0 wr) (fun t _ => s.size - (Lib.intOf t).toNat)
  case atStart =>
    refine ⟨0, rfl, Nat.zero_le _, ?_, Below.refl _ _, Lib.OthersKept.refl _ _ _, OddKept.refl _⟩
    rw [HW.out]
    simpa using Lib.IsBuilderF.alloc (w := w.drew) HB.out _
  case round =>
    obtain ⟨k, rfl, hk, hwr⟩ := hrel
    have HR := hid hwr
    clear hwr
    by_cases hkn : k < s.size
    · obtain ⟨x, hx⟩ : ∃ x, s.data.toList.getD k 0 = x := ⟨_, rfl⟩
      have HX := hid hx
      have hR : wr.heap[w.heap.size]? = some (Obj.cells cr 5 (cr.size, cr.size + 1)) := HR.out.odd _ _ (by rw [HW.out]; exact (MapKept.heap_alloc w.drew _).1)
      have hc : wr.cell? ⟨w.heap.size, k, none⟩ = some (.int .u8 x.toNat) := by
        have := HC.out k hkn
        rw [hx] at this
        rw [Lib.cell_of_heap hR]
        exact this
      clear hR hx
      have hx256 : (x.toNat : Int) < 256 := by have := UInt8.toNat_lt x; omega
      have hx0 : (0 : Int) ≤ x.toNat := by omega
      obtain ⟨d1, hd1⟩ : ∃ d, digV (x.toNat / 16) = d := ⟨_, rfl⟩
      obtain ⟨d2, hd2⟩ : ∃ d, digV (x.toNat % 16) = d := ⟨_, rfl⟩
      have hi1 := hid (dig_at x.toNat (x.toNat / 16) (by omega))
      have hi2 := hid (dig_at x.toNat (x.toNat % 16) (by omega))
      rw [hd1] at hi1
      rw [hd2] at hi2
      have HD := hid (show hexV x = [92, 120, d1, d2] by unfold hexV; rw [hd1, hd2])
      clear hd1 hd2
      have i1 : ∀ W, (Instr.index 9 (.string ⟨#[48, 49, 50, 51, 52, 53, 54, 55, 56, 57, 97, 98, 99, 100, 101, 102]⟩) (.int .u8 ((x.toNat : Int) / 16))).run Tryd.prog W = .ok (.int .u8 d1.toNat) W := fun W => by have := hi1.out W; simpa using this
      have i2 : ∀ W, (Instr.index 9 (.string ⟨#[48, 49, 50, 51, 52, 53, 54, 55, 56, 57, 97, 98, 99, 100, 101, 102]⟩) (.int .u8 ((x.toNat : Int) % 16))).run Tryd.prog W = .ok (.int .u8 d2.toNat) W := fun W => by have := hi2.out W; simpa using this
      have hl1 : ((s.data.toList.take k).flatMap hexV).length + 4 ≤ 4 * s.size := by rw [flat4, List.length_take]; omega
      have HZ := hid (show B ≤ wr.heap.size from by have h1 := HR.out.be.size; have h2 : W0.heap.size = w.heap.size + 1 := by rw [HW.out]; simp; 
                                                    omega)
      have S1 := hid (bWS B b _ ⟨#[92, 120]⟩ wr HR.out.isb (by rw [List.length_append]; show _ + 2 ≤ _; omega) HZ.out)
      go_wp2_with (first
        | (go_at_call 29; (with_reducible refine S1.out.mono ?_); rintro e W1 ⟨rfl, t1⟩; have T1 := hid t1; have S2 := hid (bWB B b _ d1 W1 T1.out.isb (by simp only [List.length_append, List.length_cons, List.length_nil]; omega) (Nat.le_trans HZ.out T1.out.be.size)); clear t1)
        | (go_at_call 53; (with_reducible refine S2.out.mono ?_); rintro e W2 ⟨rfl, t2⟩; have T2 := hid t2; have S3 := hid (bWB B b _ d2 W2 T2.out.isb (by simp only [List.length_append, List.length_cons, List.length_nil]; omega) (Nat.le_trans (Nat.le_trans HZ.out T1.out.be.size) T2.out.be.size)); clear t2)
        | (go_at_call 53; (with_reducible refine S3.out.mono ?_); rintro e W3 ⟨rfl, t3⟩; have T3 := hid t3; clear t3))
      refine ⟨⟨k + 1, by go_num, by omega, (((HR.out.trans (bs := []) T1.out).trans (bs := []) T2.out).trans (bs := []) T3.out).cast ?_⟩, by simp [Lib.intOf]; omega⟩
      rw [take_flat (by rw [Array.length_toList]; exact hkn), HX.out, HD.out]
      simp
    · have HK := hid (show k = s.size by omega)
      go_wp2
      go_end0
      refine ⟨rfl, ?_⟩
      have h1 := HR.out
      rw [HK.out, List.take_of_length_le (by rw [Array.length_toList]; exact Nat.le_refl _)] at h1
      refine ⟨h1.isb, ?_, ?_, ?_⟩
      · exact Below.trans (by rw [HW.out]; exact ((Below.refl B w).drew).alloc hBw _) h1.be
      · exact Lib.OthersKept.trans (by rw [HW.out]; exact ((Lib.OthersKept.refl _ _ w).drew).alloc _) h1.oth
      · exact OddKept.trans (by rw [HW.out]; exact ((OddKept.refl w).drew).alloc _) h1.odd
end Go.Proofs.YtnplkifohocekaaDoor.Co
