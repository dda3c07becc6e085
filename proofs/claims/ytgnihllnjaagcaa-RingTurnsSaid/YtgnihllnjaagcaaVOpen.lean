/-
  What came in, opened: frames' beginnings, rewrites. No walk here.
-/
import Derived.Test.YtgnihllnjaagcaaBegin
import Derived.Test.YtgnihllnjaagcaaBytesIn
set_option linter.unusedSimpArgs false
set_option linter.unusedVariables false
namespace Go.Proofs.Ytgnihllnjaagcaa
open Go.RowKit Go.ChangeShapes Go.WideShapes Go.ChangeAt Go.Deep
set_option maxHeartbeats 1000000

section
variable {H : Type} {enc : TypeId × Value → H} {w : World}
theorem start_flat : Flat.isFlat Try.prog 141 [3, 3, 31] = true := by kernel_rfl
theorem open_starts {v : Value} (h : Flat.Came enc Try.prog w 0 (fun _ => true) true 41 v) : ∃ pa ss cap, v = .slice pa (List.length (α := StartV) ss) cap ∧ ss.length ≤ 9223372036854775807 ∧ StartsIn w pa ss := by
  obtain ⟨p, len, cap, rfl, _, hl, hs⟩ := Flat.open_flats Try.underlying41 start_flat (by simp) h
  obtain ⟨ss, hss, hp⟩ := exists_list (fun (j : Nat) (s : StartV) => ∃ sb off qa cap, p = some ⟨sb, off, none⟩ ∧ sb < w.heap.size ∧
      w.cell? ⟨sb, off + j * 3, none⟩ = some (.int .i64 s.owner) ∧ w.cell? ⟨sb, off + j * 3 + 1, none⟩ = some (.int .i64 s.kind) ∧ w.cell? ⟨sb, off + j * 3 + 2, none⟩ = some (.slice qa s.l.length cap) ∧ InBytes w qa s.l ∧ s.l.length ≤ 140737488351232) len (fun i hi => by
    obtain ⟨b, off, rfl, hb, hc⟩ := hs i hi
    obtain ⟨v0, c0, k0⟩ := hc 0 _ rfl
    obtain ⟨v1, c1, k1⟩ := hc 1 _ rfl
    obtain ⟨v2, c2, k2⟩ := hc 2 _ rfl
    obtain ⟨x, rfl, _⟩ := k0.int Try.underlying3
    obtain ⟨a, rfl, _⟩ := k1.int Try.underlying3
    obtain ⟨qa, l, qc, rfl, hi, hl⟩ := came_bytes k2
    exact ⟨⟨x, a, l⟩, b, off, qa, qc, rfl, hb, c0, c1, c2, hi, hl⟩)
  subst hss
  exact ⟨p, ss, cap, rfl, by unfold maxLen at hl; omega, hp⟩
theorem poke_flat : Flat.isFlat Try.prog 143 [3, 3, 3, 31] = true := by kernel_rfl
theorem open_pokes {v : Value} (h : Flat.Came enc Try.prog w 0 (fun _ => true) true 42 v) : ∃ pa l cap, v = .slice pa (List.length (α := PokeV) l) cap ∧ l.length ≤ 9223372036854775807 ∧ PokesIn w pa l := by
  obtain ⟨p, len, cap, rfl, _, hl, hs⟩ := Flat.open_flats Try.underlying42 poke_flat (by simp) h
  obtain ⟨l, hss, hp⟩ := exists_list (fun (j : Nat) (s : PokeV) => ∃ b off qa cap, p = some ⟨b, off, none⟩ ∧ b < w.heap.size ∧
      w.cell? ⟨b, off + j * 4, none⟩ = some (.int .i64 s.t) ∧ w.cell? ⟨b, off + j * 4 + 1, none⟩ = some (.int .i64 s.i) ∧ w.cell? ⟨b, off + j * 4 + 2, none⟩ = some (.int .i64 s.off) ∧ w.cell? ⟨b, off + j * 4 + 3, none⟩ = some (.slice qa s.l.length cap) ∧ PokeV.fits s ∧ InBytes w qa s.l) len (fun i hi => by
    obtain ⟨b, off, rfl, hb, hc⟩ := hs i hi
    obtain ⟨v0, c0, k0⟩ := hc 0 _ rfl
    obtain ⟨v1, c1, k1⟩ := hc 1 _ rfl
    obtain ⟨v2, c2, k2⟩ := hc 2 _ rfl
    obtain ⟨v3, c3, k3⟩ := hc 3 _ rfl
    obtain ⟨x, rfl, hx⟩ := k0.int Try.underlying3
    obtain ⟨a, rfl, ha⟩ := k1.int Try.underlying3
    obtain ⟨o, rfl, ho⟩ := k2.int Try.underlying3
    obtain ⟨qa, l, qc, rfl, hi, hl⟩ := came_bytes k3
    exact ⟨⟨x, a, o, l⟩, b, off, qa, qc, rfl, hb, c0, c1, c2, c3, ⟨hx, ha, ho, hl⟩, hi⟩)
  subst hss
  exact ⟨p, l, cap, rfl, by unfold maxLen at hl; omega, hp⟩
theorem PokesIn.fits {pa : Option Addr} {l : List PokeV} (h : PokesIn w pa l) : ∀ p ∈ l, p.fits := fun p hp => by
  obtain ⟨j, hj, rfl⟩ := List.getElem_of_mem hp
  obtain ⟨_, _, _, _, _, _, _, _, _, _, hf, _⟩ := h j hj
  exact hf
end
end Go.Proofs.Ytgnihllnjaagcaa
