/-
  What came in, opened: entries of tables. No walk here.
-/
import Derived.Test.YtdjhkacjgdnglaaPteI
import Derived.Test.YtdjhkacjgdnglaaPteC
namespace Go.Proofs.Ytdjhkacjgdnglaa
open Go.RowKit Go.ChangeShapes Go.WideShapes Go.ChangeAt Go.Deep
set_option maxHeartbeats 1000000

section
variable {H : Type} {enc : TypeId × Value → H} {w : World}
theorem put_flat : Flat.isFlat Try.prog 123 [3, 3, 44] = true := by kernel_rfl
theorem open_puts {v : Value} (h : Flat.Came enc Try.prog w 0 (fun _ => true) true 43 v) : ∃ pa ps cap, v = .slice pa (List.length (α := PutV) ps) cap ∧ ps.length ≤ 9223372036854775807 ∧ PutsIn w pa ps := by
  obtain ⟨p, len, cap, rfl, _, hl, hs⟩ := Flat.open_flats Try.underlying43 put_flat (by simp) h
  obtain ⟨ss, hss, hp⟩ := exists_list (fun (j : Nat) (s : PutV) => ∃ sb off, p = some ⟨sb, off, none⟩ ∧ sb < w.heap.size ∧
      w.cell? ⟨sb, off + j * 3, none⟩ = some (.int .i64 s.t) ∧ w.cell? ⟨sb, off + j * 3 + 1, none⟩ = some (.int .i64 s.i) ∧ w.cell? ⟨sb, off + j * 3 + 2, none⟩ = some (.int .u32 s.v) ∧ s.v < 4294967296) len (fun i hi => by
    obtain ⟨b, off, rfl, hb, hc⟩ := hs i hi
    obtain ⟨v0, c0, k0⟩ := hc 0 _ rfl
    obtain ⟨v1, c1, k1⟩ := hc 1 _ rfl
    obtain ⟨v2, c2, k2⟩ := hc 2 _ rfl
    obtain ⟨x, rfl, _⟩ := k0.int Try.underlying3
    obtain ⟨a, rfl, _⟩ := k1.int Try.underlying3
    obtain ⟨n, rfl, wf⟩ := k2.int Try.underlying44
    obtain ⟨k, rfl, hk⟩ := u32_nat wf
    exact ⟨⟨x, a, k⟩, b, off, rfl, hb, c0, c1, c2, hk⟩)
  subst hss
  exact ⟨p, ss, cap, rfl, by unfold maxLen at hl; omega, hp⟩
end
theorem u8_nat {n : Int} (h : (Lit.int .u8 n).wf = true) : ∃ k : Nat, n = k ∧ k < 256 := by
  simp only [Lit.wf, Bool.and_eq_true, decide_eq_true_eq] at h
  have h1 : IntKind.u8.min = 0 := rfl
  have h2 : IntKind.u8.max = 255 := rfl
  rw [h1, h2] at h
  exact ⟨n.toNat, by omega, by omega⟩
end Go.Proofs.Ytdjhkacjgdnglaa
