/-
  The ring's script as it came in, opened. No walk here.
-/
import Derived.Test.YtgnihllnjaagcaaVOpen
set_option linter.unusedSimpArgs false
set_option linter.unusedVariables false
namespace Go.Proofs.Ytgnihllnjaagcaa
open Go.RowKit Go.ChangeShapes Go.WideShapes Go.ChangeAt Go.Deep
set_option maxHeartbeats 1000000

/-- the calls that came in -/
def ROpsIn (w : World) (pa : Option Addr) (len : Nat) : Prop := ∀ j, j < len → ∃ b o x off bp l bc pp ps pc, pa = some ⟨b, o, none⟩ ∧ b < w.heap.size ∧ w.cell? ⟨b, o + j * 4, none⟩ = some (.int .i64 x) ∧ w.cell? ⟨b, o + j * 4 + 1, none⟩ = some (.int .i64 off) ∧
  w.cell? ⟨b, o + j * 4 + 2, none⟩ = some (.slice bp (List.length (α := UInt8) l) bc) ∧ w.cell? ⟨b, o + j * 4 + 3, none⟩ = some (.slice pp (List.length (α := PokeV) ps) pc) ∧ InBytes w bp l ∧ l.length ≤ 140737488351232 ∧ PokesIn w pp ps ∧ ps.length ≤ 9223372036854775807 ∧ off ≤ 9223372036854775807
theorem rop_flat : Flat.isFlat Try.prog 69 [3, 3, 31, 42] = true := by kernel_rfl
theorem open_rops {H : Type} {enc : TypeId × Value → H} {w : World} {v : Value} (h : Flat.Came enc Try.prog w 0 (fun _ => true) true 59 v) : ∃ pa len cap, v = .slice pa len cap ∧ len ≤ 140737488355328 ∧ ROpsIn w pa len := by
  obtain ⟨p, len, cap, rfl, hr, hl, hs⟩ := Flat.open_flats Try.underlying59 rop_flat (by simp) h
  have hb : Try.prog.bytesOf 69 = 64 := by kernel_rfl
  rw [hb] at hr
  unfold reachBytes at hr
  refine ⟨p, len, cap, rfl, by omega, fun i hi => ?_⟩
  obtain ⟨b, off, rfl, hb, hc⟩ := hs i hi
  obtain ⟨v0, c0, k0⟩ := hc 0 _ rfl
  obtain ⟨v1, c1, k1⟩ := hc 1 _ rfl
  obtain ⟨v2, c2, k2⟩ := hc 2 _ rfl
  obtain ⟨v3, c3, k3⟩ := hc 3 _ rfl
  obtain ⟨x, rfl, hx⟩ := k0.int Try.underlying3
  obtain ⟨a, rfl, ha⟩ := k1.int Try.underlying3
  obtain ⟨qa, l, qc, rfl, hi, hll⟩ := came_bytes k2
  obtain ⟨pa, ps, pc, rfl, hpl, hp⟩ := open_pokes k3
  exact ⟨b, off, x, a, qa, l, qc, pa, ps, pc, rfl, hb, c0, c1, c2, c3, hi, hll, hp, hpl, (bounds_i64 ha).2⟩
end Go.Proofs.Ytgnihllnjaagcaa
