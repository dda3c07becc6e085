/-
  Package path: a slice of permissions that came in.
-/
import Derived.Test.YtmnolfaejneomaaDoorPaM
import Derived.Test.YtmnolfaejneomaaDoorOpen
set_option linter.unusedSimpArgs false
set_option linter.unusedVariables false
namespace Go.Proofs.YtmnolfaejneomaaDoor
open Go.ChangeShapes Go.WideShapes Go.ChangeAt Go.RowKit Go.Deep
theorem flatPerm : Flat.isFlat Tryd.prog 56 [3, 4, 4] = true := by kernel_rfl
theorem came_cap {H : Type} {enc : TypeId × Value → H} {w : World} {p : Option Addr} {len cap : Nat} (h : Flat.Came enc Tryd.prog w 0 (fun _ => true) true 30 (.slice p len cap)) : len ≤ cap := by
  obtain ⟨fuel, x, h, _⟩ := h
  rcases open_slice Tryd.underlying30 h with ⟨hcs, _⟩ | ⟨a, len', cap', m, n, D, Pl, hcs, _, hl, _⟩
  · simp only [List.cons.injEq, Value.slice.injEq, and_true] at hcs
    omega
  · simp only [List.cons.injEq, Value.slice.injEq, and_true] at hcs
    omega
theorem came_perms {H : Type} {enc : TypeId × Value → H} {W : World} {v : Value} (h : Flat.Came enc Tryd.prog W 0 (fun _ => true) true 30 v) :
    ∃ (l : List PD) (p : Option Addr) (c : Nat), v = .slice p l.length c ∧ l.length * 16 ≤ 140737488355328 ∧ l.length ≤ c ∧ PG W p l ∧ ∀ d ∈ l, (Lit.int .i64 d.1).wf = true := by
  have h0 := h
  obtain ⟨p, len, cap, rfl, hb, hml, hs⟩ := Flat.open_flats Tryd.underlying30 flatPerm (by decide) h
  have hcap : len ≤ cap := came_cap h0
  rw [show Tryd.prog.bytesOf 56 = 16 by kernel_rfl] at hb
  have h' : ∀ i : Nat, ∃ d : PD, i < len → (∃ b o, p = some ⟨b, o, none⟩ ∧ b < W.heap.size ∧ W.cell? ⟨b, o + i * 3, none⟩ = some (.int .i64 d.1) ∧ W.cell? ⟨b, o + i * 3 + 1, none⟩ = some (.bool d.2.1) ∧ W.cell? ⟨b, o + i * 3 + 2, none⟩ = some (.bool d.2.2)) ∧ (Lit.int .i64 d.1).wf = true := fun i => by
    by_cases hi : i < len
    · obtain ⟨b, o, e, hlt, hf⟩ := hs i hi
      obtain ⟨v0, h0, k0⟩ := hf 0 3 rfl
      obtain ⟨v1, h1, k1⟩ := hf 1 4 rfl
      obtain ⟨v2, h2, k2⟩ := hf 2 4 rfl
      obtain ⟨n, rfl, hn⟩ := k0.int Tryd.underlying3
      obtain ⟨x, rfl⟩ := k1.bool Tryd.underlying4
      obtain ⟨y, rfl⟩ := k2.bool Tryd.underlying4
      exact ⟨(n, x, y), fun _ => ⟨⟨b, o, e, hlt, h0, h1, h2⟩, hn⟩⟩
    · exact ⟨(0, false, false), fun h => absurd h hi⟩
  obtain ⟨f, hf⟩ := Classical.axiomOfChoice h'
  have hlen : ((List.range len).map f).length = len := by simp
  refine ⟨(List.range len).map f, p, cap, by rw [hlen], by rw [hlen]; unfold reachBytes at hb; omega, by rw [hlen]; exact hcap, fun j d hj => ?_, fun d hd => ?_⟩
  · have hlt : j < len := by have := (List.getElem?_eq_some_iff.1 hj).1; simpa using this
    have : d = f j := by simp [hlt] at hj; exact hj.symm
    rw [this]
    exact (hf j hlt).1
  · simp only [List.mem_map, List.mem_range] at hd
    obtain ⟨i, hi, rfl⟩ := hd
    exact (hf i hi).2
end Go.Proofs.YtmnolfaejneomaaDoor
