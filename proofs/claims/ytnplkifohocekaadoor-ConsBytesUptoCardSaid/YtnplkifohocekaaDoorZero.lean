/-
  The zero values of a frame and of a machine; a frame as cells; a frame stored whole.
-/
import Derived.Test.YtnplkifohocekaaDoorRows
import Derived.Test.YtnplkifohocekaaDoorSpec
import Derived.Test.YtnplkifohocekaaDoorTables
import Derived.WalkKit
set_option linter.unusedSimpArgs false
set_option linter.unusedVariables false
namespace Go.Proofs.YtnplkifohocekaaDoor
open Go.RowKit

def isZ64 : Value → Bool
  | .int .i64 (.ofNat 0) => true
  | _ => false
def isZ8 : Value → Bool
  | .int .u8 (.ofNat 0) => true
  | _ => false
theorem isZ64_eq {v : Value} (h : isZ64 v = true) : v = .int .i64 0 := by
  unfold isZ64 at h; split at h
  · rfl
  · cases h
theorem isZ8_eq {v : Value} (h : isZ8 v = true) : v = .int .u8 0 := by
  unfold isZ8 at h; split at h
  · rfl
  · cases h
def eat (p : Value → Bool) : Nat → List Value → Option (List Value)
  | 0, l => some l
  | n + 1, v :: l => match p v with | true => eat p n l | false => none
  | _ + 1, [] => none
theorem eat_spec {p : Value → Bool} : ∀ (n : Nat) (l r : List Value), eat p n l = some r → ∃ a, l = a ++ r ∧ a.length = n ∧ ∀ v ∈ a, p v = true
  | 0, l, r, h => ⟨[], by simp [eat] at h; simp [h], rfl, by simp⟩
  | n + 1, v :: l, r, h => by
    cases hp : p v with
    | false => simp [eat, hp] at h
    | true =>
      simp only [eat, hp] at h
      obtain ⟨a, ha, hl, hv⟩ := eat_spec n l r h
      exact ⟨v :: a, by simp [ha], by simp [hl], by simp; exact ⟨hp, hv⟩⟩
  | n + 1, [], r, h => by simp [eat] at h
def eatFr (l : List Value) : Option (List Value) := match eat isZ64 4 l with | some r => eat isZ8 256 r | none => none
def zeroFr : Fr := ⟨0, 0, 0, 0, fun _ => 0⟩
def Fr.cells (f : Fr) : Array Value := ⟨(List.range 260).map f.cell⟩
theorem Fr.size_cells (f : Fr) : f.cells.size = 260 := by simp [Fr.cells]
theorem Fr.get_cells (f : Fr) (r : Nat) (h : r < 260) : f.cells[r]? = some (f.cell r) := by simp [Fr.cells, h]
theorem Fr.one_cell (f : Fr) (r : Nat) : (f.cell r).oneCell' = true := by
  unfold Fr.cell; split <;> rfl
theorem Fr.all_one (f : Fr) : ∀ v ∈ f.cells.toList, v.oneCell' = true := by
  intro v hv
  simp only [Fr.cells, List.mem_map] at hv
  obtain ⟨r, _, rfl⟩ := hv
  exact f.one_cell r

theorem eatFr_spec {l r : List Value} (h : eatFr l = some r) : l = zeroFr.cells.toList ++ r := by
  unfold eatFr at h
  split at h
  · rename_i r1 h1
    obtain ⟨a, rfl, hl, hv⟩ := eat_spec _ _ _ h1
    obtain ⟨c, rfl, hl2, hv2⟩ := eat_spec _ _ _ h
    rw [← List.append_assoc]
    congr 1
    apply List.ext_getElem?
    intro k
    by_cases hk : k < 4
    · rw [List.getElem?_append_left (by omega)]
      have hg := List.getElem?_eq_getElem (l := a) (i := k) (by omega)
      rw [hg, isZ64_eq (hv _ (List.getElem_mem (by omega)))]
      have := zeroFr.get_cells k (by omega)
      simp only [Array.getElem?_toList, this]
      match k, hk with | 0, _ => rfl | 1, _ => rfl | 2, _ => rfl | 3, _ => rfl
    · by_cases hk2 : k < 260
      · rw [List.getElem?_append_right (by omega)]
        have hg := List.getElem?_eq_getElem (l := c) (i := k - a.length) (by omega)
        rw [hg, isZ8_eq (hv2 _ (List.getElem_mem (by omega)))]
        have := zeroFr.get_cells k (by omega)
        simp only [Array.getElem?_toList, this]
        match k, hk with | k + 4, _ => rfl
      · rw [List.getElem?_eq_none (by simp; omega), List.getElem?_eq_none (by simp [zeroFr.size_cells]; omega)]
  · cases h
attribute [irreducible] Fr.cells

/-- a machine whose frames are all one frame -/
def flatMach (n : Int) (f : Fr) : Mach := ⟨n, fun _ => f⟩
theorem okZero55_eq : (match (Tryd.prog.info? 115).bind (·.zero) with | some (.agg cs) => (match eatFr cs.toList with | some [] => true | _ => false) | _ => false) = true := by kernel_rfl
set_option maxRecDepth 100000 in
theorem zero55 : (Tryd.prog.info? 115).bind (·.zero) = some (.agg zeroFr.cells) := by
  have h := okZero55_eq
  split at h
  · rename_i cs hc
    split at h
    · rename_i h1
      have := eatFr_spec h1
      rw [hc]
      congr 2
      apply Array.toList_inj.1
      simpa using this
    · cases h
  · cases h
set_option maxRecDepth 100000 in
theorem zero58 : (Tryd.prog.info? 128).bind (·.zero) = some (.agg (flatMach 0 zeroFr).cells) := by
  obtain ⟨t, ht, hz⟩ : ∃ t, Tryd.src.types[128]? = some t ∧ ∃ cs, t.zero = some (.agg cs) := ⟨_, rfl, _, rfl⟩
  obtain ⟨cs, hz⟩ := hz
  have e58 := zero_named (p := Tryd.src) wfTypes (u := 127) ht hz (by have : Tryd.src.types[128]?.map (·.desc) = some (.named "tenement/phys.Machine" 127) := rfl; rw [ht] at this; simpa using this)
  obtain ⟨t7, ht7, cs7, hz7⟩ : ∃ t, Tryd.src.types[127]? = some t ∧ ∃ cs, t.zero = some (.agg cs) := ⟨_, rfl, _, rfl⟩
  have e57 := zero_struct (p := Tryd.src) wfTypes ht7 hz7 (fs := _) (by have : Tryd.src.types[127]?.map (·.desc) = some (.struct #[{ name := "size", type := 3, offset := 0, embedded := false, tag := "", pkgPath := "tenement/phys", byteOffset := 0 }, { name := "frames", type := 126, offset := 1, embedded := false, tag := "", pkgPath := "tenement/phys", byteOffset := 8 }]) := rfl; rw [ht7] at this; simpa using this)
  obtain ⟨t6, ht6, cs6, hz6⟩ : ∃ t, Tryd.src.types[126]? = some t ∧ ∃ cs, t.zero = some (.agg cs) := ⟨_, rfl, _, rfl⟩
  have e56 := zero_array (p := Tryd.src) wfTypes (n := 256) (e := 115) ht6 hz6 (by have : Tryd.src.types[126]?.map (·.desc) = some (.array 256 115) := rfl; rw [ht6] at this; simpa using this) (s := 260) rfl (by decide)
  have p55 : partZero Tryd.src.toTables 115 = zeroFr.cells.toList := partZero_of (show (Tryd.src.info? 115).bind (·.zero) = _ from zero55) (by decide)
  have p3 : partZero Tryd.src.toTables 3 = [.int .i64 0] := rfl
  have p56 : partZero Tryd.src.toTables 126 = cs6.toList := by simp [partZero, ht6, hz6, Value.cells]
  have p57 : partZero Tryd.src.toTables 127 = cs7.toList := by simp [partZero, ht7, hz7, Value.cells]
  simp only [List.map_cons, List.map_nil, List.flatMap_cons, List.flatMap_nil, List.append_nil, p3, p56] at e57
  rw [p57, e57, e56, p55] at e58
  have hcs : cs = (flatMach 0 zeroFr).cells := by
    have hl : cs.toList.length = 1 + 256 * 260 := by
      rw [e58, List.length_append, List.length_singleton, length_flatten_rep _ 260 (by rw [Array.length_toList, zeroFr.size_cells])]
    refine Mach.cells_ext (by rw [← Array.length_toList, hl, cellsN_eq]) fun k hk => ?_
    rw [← Array.getElem?_toList, e58]
    cases k with
    | zero => rfl
    | succ k =>
      rw [cellsN_eq] at hk
      rw [List.getElem?_append_right (by simp), List.length_singleton, Nat.add_sub_cancel]
      rw [getElem?_flatten_rep zeroFr.cells.toList 260 (by rw [Array.length_toList, zeroFr.size_cells]) 256 k (by omega), Array.getElem?_toList, zeroFr.get_cells (k % 260) (by omega)]
      rfl
  rw [← hcs]
  show (Tryd.src.types[128]?).bind (·.zero) = _
  rw [ht]
  exact hz
theorem size58 : (Tryd.prog.info? 128).map (·.size) = some cellsN := by rw [cellsN_eq]; kernel_rfl
theorem size55 : (Tryd.prog.info? 115).map (·.size) = some 260 := by kernel_rfl

end Go.Proofs.YtnplkifohocekaaDoor
