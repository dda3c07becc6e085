/-
  Package blk: 'append(b, make([]byte, m)...)' of own bytes.
-/
import Derived.Test.YtfpemajbgnfflaaBkL
import Derived.Lib.AppendZerosOnto
set_option linter.unusedSimpArgs false
set_option linter.unusedVariables false
namespace Go.Proofs.Ytfpemajbgnfflaa.Bk
open Go.RowKit Gen
set_option maxHeartbeats 1000000

theorem zeros_cells (m : Nat) : (Builtin.zeroCells (Value.cells (.int .u8 0)) m).toList = bcells (List.replicate m 0) := by
  apply List.ext_getElem?
  intro j
  rw [bcells_get, List.getElem?_replicate]
  simp only [Builtin.zeroCells, Value.cells]
  by_cases h : j < m <;> simp [h, Nat.mod_one]
theorem bz_len (m : Nat) : (bcells (List.replicate m 0)).length = m := by rw [bcells_len]; simp
theorem run_append_zeros (w : World) (base : Nat) (v : Value) (n m : Nat) (xs : List Value) (hown : w.ownsRow base 5 1 v n xs) (hm : n + m ≤ 16777216) (hbase : base ≤ w.heap.size) :
    ∃ v' w', (∀ ty, (Builtin.append_ #[22, 3] ty #[v, .int .i64 (m : Int)]).run Try.prog w = .ok v' w') ∧ w'.ownsRow base 5 1 v' (n + m) (xs ++ bcells (List.replicate m 0)) ∧ w.grownBy w' v.ownBlock := by
  obtain ⟨i, hi, hz, hsize, hby⟩ := info_parts info_u8
  have hlen : (xs ++ bcells (List.replicate m 0)).length = (n + m) * 1 := by rw [List.length_append, hown.1, bz_len]; omega
  have hw : IntKind.i64.wrap (m : Int) = m := by rw [IntKind.wrap_i64]; omega
  have h48i : ¬ (281474976710656 < (m : Int) * (i.bytes : Int)) := by rw [hby]; omega
  have hneg : ¬ ((m : Int) < 0) := by omega
  rcases Nat.eq_zero_or_pos m with rfl | hm0
  · have hw0 : IntKind.i64.wrap (0 : Int) = 0 := by rw [IntKind.wrap_i64]; rfl
    rcases hown.2 with ⟨rfl, rfl⟩ | ⟨g, cap, cur, rfl, hbg, hg, hnc, hcm, hcs, htake⟩
    · refine ⟨.slice none 0 0, w, fun ty => ?_, by simpa [bcells_nil] using hown, grownBy_refl _ _⟩
      simp [Builtin.append_, run_underlying Try.underlying22, run_underlying Try.underlying3, sizeOf, typeInfo, zeroValue, hi, hz, asInt, asIntOf, hw0]
    · refine ⟨.slice (some ⟨g, 0, none⟩) n cap, w, fun ty => ?_, by simpa [bcells_nil] using hown, grownBy_refl _ _⟩
      have hroom : n + 0 ≤ cap := by omega
      simp [Builtin.append_, run_underlying Try.underlying22, run_underlying Try.underlying3, sizeOf, typeInfo, zeroValue, hi, hz, asInt, asIntOf, hw0, hnc, storeCells]
  · have grown : ∀ (old : Nat), old < n + m → ∀ (row : Option Nat),
        (w.drew.alloc (.cells (xs.toArray ++ Builtin.zeroCells (Value.cells (.int .u8 0)) m ++ Builtin.zeroCells (Value.cells (.int .u8 0)) (grownCap w (n + m) old 5 - (n + m))) 5)).ownsRow base 5 1
          (.slice (some ⟨w.heap.size, 0, none⟩) (n + m) (grownCap w (n + m) old 5)) (n + m) (xs ++ bcells (List.replicate m 0)) ∧
        w.grownBy (w.drew.alloc (.cells (xs.toArray ++ Builtin.zeroCells (Value.cells (.int .u8 0)) m ++ Builtin.zeroCells (Value.cells (.int .u8 0)) (grownCap w (n + m) old 5 - (n + m))) 5)) row := by
      intro old ho row
      have hge := grownCap_ge w (n + m) old 5
      have hcm : grownCap w (n + m) old 5 ≤ maxLen := grownCap_le_maxLen w (n + m) old 5 (by unfold maxLen; omega)
      refine ⟨⟨hlen, .inr ⟨w.heap.size, _, _, rfl, hbase, heap_alloc_new w.drew _, hge, hcm, ?_, ?_⟩⟩, ⟨rfl, rfl, rfl, by simp, fun k hk _ => (World.grownBy_alloc w.drew _ none).block k hk (by simp)⟩⟩
      · have h1 := hown.1
        simp only [Array.size_append, List.size_toArray, size_zeroCells, h1, Value.cells]
        simp
        omega
      · simp only [Array.toList_append, List.append_assoc, zeros_cells]
        rw [← List.append_assoc, ← hlen]
        exact List.take_left
    rcases hown.2 with ⟨rfl, rfl⟩ | ⟨g, cap, cur, rfl, hbg, hg, hnc, hcm, hcs, htake⟩
    · have hx : xs = [] := List.eq_nil_of_length_eq_zero (by simpa using hown.1)
      subst hx
      have hr := fun ty => Lib.run_append_grow_zeros (P := Try.prog) w 22 3 ty 5 i (.int .u8 0) .i64 .i64 Try.underlying22 Try.underlying3 hi hz none 0 0 [] (run_firstCells_none w.drew i.size 0 0 0) m hm0 (by omega) (by omega) (by omega) (by rw [hby]; omega) (by rw [nextslicecap_zero (by omega), hby]; omega)
      have hgr := grown 0 (by omega) (Value.ownBlock (.slice none 0 0))
      exact ⟨_, _, hr, hgr.1, hgr.2⟩
    · by_cases hroom : n + m ≤ cap
      · have hfit : n * 1 + (bcells (List.replicate m 0)).length ≤ cur.size := by rw [bz_len, hcs]; omega
        have hst := run_storeCells_at Try.prog g (n * 1) 5 (bcells (List.replicate m 0)) 0 cur w hg (by simpa using hfit) (bcells_one _)
        simp only [Nat.add_zero] at hst
        have hr : ∀ ty, (Builtin.append_ #[22, 3] ty #[.slice (some ⟨g, 0, none⟩) n cap, .int .i64 (m : Int)]).run Try.prog w = .ok (.slice (some ⟨g, 0, none⟩) (n + m) cap) (w.setRow g (cur.toList.take (n * 1) ++ bcells (List.replicate m 0) ++ cur.toList.drop (n * 1 + (bcells (List.replicate m 0)).length)).toArray) := fun ty => by
          have hne : m ≠ 0 := by omega
          have hzc := zeros_cells m
          simp [Builtin.append_, run_underlying Try.underlying22, run_underlying Try.underlying3, sizeOf, typeInfo, zeroValue, hi, hz, hsize, asInt, asIntOf, hw, hneg, h48i, hne, hroom, Addr.add_lit, hzc]
          simp only [Nat.mul_one] at hst
          rw [hst]
          simp [Result.andThen]
        refine ⟨_, _, hr, ⟨hlen, .inr ⟨g, cap, _, rfl, hbg, setRow_heap w g cur _ 5 _ hg, hroom, hcm, ?_, ?_⟩⟩, ⟨rfl, rfl, rfl, by simp, fun k _ hk => setRow_other w g k _ (fun e => hk (by simp [Value.ownBlock, e]))⟩⟩
        · simp only [List.size_toArray, List.length_append, List.length_take, List.length_drop, Array.length_toList]
          omega
        · rw [htake, ← hlen]
          exact List.take_left
      · have holds : ∀ j u, xs[j]? = some u → w.cell? ((⟨g, 0, none⟩ : Addr).add j) = some u := hown.cells (g := g) rfl
        have hold := run_firstCells_some (P := Try.prog) w.drew i.size n ⟨g, 0, none⟩ n cap xs (by rw [hown.1, hsize]) (fun j u hj => holds j u hj)
        have hr := fun ty => Lib.run_append_grow_zeros (P := Try.prog) w 22 3 ty 5 i (.int .u8 0) .i64 .i64 Try.underlying22 Try.underlying3 hi hz (some ⟨g, 0, none⟩) n cap xs hold m hm0 (by omega) (by omega) (by omega) (by rw [hby]; omega) (growslice_fits (by omega) (by rw [hby]; omega))
        have hgr := grown cap (by omega) (Value.ownBlock (.slice (some ⟨g, 0, none⟩) n cap))
        exact ⟨_, _, hr, hgr.1, hgr.2⟩
end Go.Proofs.Ytfpemajbgnfflaa.Bk
