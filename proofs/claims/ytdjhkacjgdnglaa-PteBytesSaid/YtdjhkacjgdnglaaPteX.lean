/-
  Package tenementlaw04: put.
-/
import Derived.Test.YtdjhkacjgdnglaaPteV
import Derived.Test.YtdjhkacjgdnglaaPteW
import Derived.Test.YtdjhkacjgdnglaaPteH
import Derived.Test.YtdjhkacjgdnglaaPteJ
import Derived.Test.YtdjhkacjgdnglaaStr
namespace Go.Proofs.Ytdjhkacjgdnglaa
open Go.RowKit Go.ChangeShapes Go.WideShapes Go.ChangeAt Go.Deep
set_option maxHeartbeats 2000000

set_option maxRecDepth 100000 in
theorem pPut (B : Nat) (t : Int) (i x : Nat) (w : World) (M : Mach) (T : Int) (hM : PM w B M) (hok : M.ok T) (hi : i ≤ 64) (hx : x < 4294967296) : Calls Try.prog 39 #[.pointer (some ⟨B, 0, none⟩), .int .i64 t, .int .i64 i, .int .u32 x] w fun e w' => e = .returned (.tuple #[]) ∧ PM w' B (M.write t ((4 * i : Nat) : Int) (b4 x)).2 ∧ w.grownBy w' (some B) := by
  have hz := hM.lt
  have hL0 : ∀ k, (Lay.mk 0 0 0 0 0 (fun _ => 0) (fun _ => 0)).foot 0 k → k < w.heap.size := by
    rintro k (e | e | e | ⟨j, hj, _⟩)
    · omega
    · simp only at e; omega
    · simp only at e; omega
    · exact absurd hj (Nat.not_lt_zero _)
  have HI := hid ((in_b4 w x hx).late (b := 0) (L := ⟨0, 0, 0, 0, 0, fun _ => 0, fun _ => 0⟩) hM.lt hL0 4 (b4_len x) 4)
  have HW := hid (fun W (hg : w.grownBy W none) (hv : IsBytes W B (.slice (some ⟨w.heap.size, 0, none⟩) 4 4) (b4 x)) => Write_any B t ((4 * i : Nat) : Int) (.slice (some ⟨w.heap.size, 0, none⟩) 4 4) (b4 x) W M T (hM.grown hg (by simp)) hok (by omega) hv (by rw [b4_len]; omega))
  rw [show ((4 * i : Nat) : Int) = 4 * (i : Int) by omega] at HW ⊢
  clear hM hok
  go_enter Try.func39, Try.ntmps39
  go_wp2_with (go_at_call 18; refine (HW.out _ (World.grownBy_alloc _ _ _) HI.out.1).mono ?_; rintro e w3 ⟨rfl, h3, g3⟩; have HM3 := hid h3; have HG3 := hid (grown_anyl (World.grownBy_alloc w _ none) g3); clear h3 g3)
  go_end0
  exact ⟨rfl, HM3.out, HG3.out⟩
section
variable {H : Type} {enc : TypeId × Value → H} {w : World}
theorem came_room {v : Value} (h : Flat.Came enc Try.prog w 0 (fun _ => true) true 31 v) : ∃ pa l cap, v = .slice pa (List.length (α := UInt8) l) cap ∧ InBytes w pa l ∧ l.length ≤ 140737488351232 ∧ l.length ≤ cap := by
  have hb := h.ints Try.underlying31 Try.underlying5 (by kernel_rfl)
  obtain ⟨fuel, y, h, _⟩ := h
  obtain ⟨p, len, cap, e, hl, _, _⟩ := hb
  rw [u8_bytes, Nat.mul_one] at hl
  unfold reachBytes at hl
  rcases open_ints Try.underlying31 Try.underlying5 (by kernel_rfl) h with ⟨hcs, hy⟩ | ⟨x, len', c, zs, hcs, _, hl', hm, hz, hy, hcell, hwz⟩
  · simp only [List.cons.injEq, and_true] at hcs
    subst hcs
    exact ⟨none, [], 0, rfl, .inl rfl, by simp, by simp⟩
  · simp only [List.cons.injEq, and_true] at hcs
    subst hcs
    injection e with _ e2
    subst e2
    have hlz : len' ≤ zs.length := by rw [hz]; split <;> omega
    exact ⟨some x, asBytes zs len', c, by rw [asBytes_len _ _ hlz], asBytes_in hlz hcell hwz, by rw [asBytes_len _ _ hlz]; omega, by rw [asBytes_len _ _ hlz]; omega⟩
end
end Go.Proofs.Ytdjhkacjgdnglaa
