/-
  Slices of structs whose fields are one cell each, that came in, opened; for any program. No walk here.
-/
import Derived.WalkKit
import Derived.ProofKit
import Derived.Below
import Derived.Deep.Slices
import Derived.Deep.Fields
import Derived.ChangeSame
import Derived.SizedLaws
set_option linter.unusedSimpArgs false
set_option linter.unusedVariables false
namespace Go.Proofs.YtbbaplcfhofeeaaGreat.Flat
open Go.RowKit Go.ChangeShapes Go.WideShapes Go.ChangeAt Go.Deep

/-- a struct of fields of one cell each, of these types -/
def isFlat (P : Program) (te : TypeId) (tys : List TypeId) : Bool :=
  match P.underlying te with
  | some (.struct fs) => (fs.toList.map (·.type) == tys) && (fs.toList.map (·.offset) == List.range tys.length) && (P.cellsOf te == tys.length) && tys.all (fun t => P.cellsOf t == 1)
  | _ => false
theorem isFlat_is {P : Program} {te : TypeId} {tys : List TypeId} (h : isFlat P te tys = true) : ∃ fs, P.underlying te = some (.struct fs) ∧ fs.toList.map (·.type) = tys ∧ fs.toList.map (·.offset) = List.range tys.length ∧ P.cellsOf te = tys.length ∧ ∀ t ∈ tys, P.cellsOf t = 1 := by
  unfold isFlat at h
  split at h
  · rename_i fs hu
    simp only [Bool.and_eq_true, beq_iff_eq, List.all_eq_true] at h
    exact ⟨fs, hu, h.1.1.1, h.1.1.2, h.1.2, h.2⟩
  · cases h

section
variable {H : Type} {enc : TypeId × Value → H} {P : Program} {w : World} {base : Nat} {spare : Nat → Bool} {held : Bool}

/-- one value that came in, of type t, no part of which is over-long -/
def Came (enc : TypeId × Value → H) (P : Program) (w : World) (base : Nat) (spare : Nat → Bool) (held : Bool) (t : TypeId) (v : Value) : Prop :=
  ∃ fuel y, DataW.trod enc P w base spare held fuel t [v] = some y ∧ ∀ n ∈ y.1.weights P t, n ≤ reachBytes

/-- a struct's cells -/
theorem open_flat {te : TypeId} {tys : List TypeId} (hfl : isFlat P te tys = true) {fuel : Nat} {a : Addr} {cs : List Value} {y : DataW H × List MemPlace} (hc : w.cells? base a tys.length = some cs)
    (h : DataW.trod enc P w base spare held fuel te cs = some y) (hsz : ∀ n ∈ y.1.weights P te, n ≤ reachBytes) :
    ∀ j t, tys[j]? = some t → ∃ v, w.cell? (a.add j) = some v ∧ Came enc P w base spare held t v := by
  intro j t hj
  obtain ⟨fs, hu, hty, hof, hce, hone⟩ := isFlat_is hfl
  obtain ⟨xs, n, rfl, hy, hcl, hxl, hf⟩ := DataW.trod_struct hu h
  obtain ⟨_, hcs, hat⟩ := World.cells?_some hc
  have hlen : fs.size = tys.length := by rw [← hty]; simp
  obtain ⟨hjl, rfl⟩ := List.getElem?_eq_some_iff.1 hj
  have hg : fs[j]? = some (fs[j]'(by omega)) := Array.getElem?_eq_getElem (by omega)
  have hft : (fs[j]'(by omega)).type = tys[j] := by
    have : (fs.toList.map (·.type))[j]? = tys[j]? := by rw [hty]
    rw [List.getElem?_map, Array.getElem?_toList, hg, hj] at this
    simpa using this
  have hfo : (fs[j]'(by omega)).offset = j := by
    have : (fs.toList.map (·.offset))[j]? = (List.range tys.length)[j]? := by rw [hof]
    rw [List.getElem?_map, Array.getElem?_toList, hg, List.getElem?_range hjl] at this
    simpa using this
  have ht := hf j _ hg
  rw [hft, hfo, hone _ (List.getElem_mem hjl)] at ht
  have hjc : j < cs.length := by omega
  have htk : (cs.drop j).take 1 = [cs[j]] := by
    rw [List.drop_eq_getElem_cons hjc]; rfl
  rw [htk] at ht
  have hjx : j < xs.length := by omega
  rw [List.getElem?_eq_getElem hjx] at ht
  refine ⟨cs[j], ?_, n, xs[j], ht, fun k hk => hsz k ?_⟩
  · rw [hat j hjl, List.getElem?_eq_getElem hjc]
  · rw [hy]
    simp only [DataW.weights, hu]
    refine DataW.weights_mem_each (j := j) (t := tys[j]) (d := xs[j].1) ?_ ?_ k hk
    · rw [hty]; exact hj
    · rw [List.getElem?_map, List.getElem?_eq_getElem hjx]; rfl
theorem all_mem {e : TypeId} : ∀ {l : List (DataW H)} {d : DataW H}, d ∈ l → ∀ n ∈ d.weights P e, n ∈ DataW.weightsAll P e l
  | x :: r, d, hd, n, hn => by
    simp only [DataW.weightsAll, List.mem_append]
    rcases List.mem_cons.1 hd with rfl | hd
    · exact .inl hn
    · exact .inr (all_mem hd n hn)

/-- a slice of structs: each struct's cells -/
theorem open_flats {ts te : TypeId} {tys : List TypeId} (hs : P.underlying ts = some (.slice te)) (hfl : isFlat P te tys = true) (hpos : 0 < tys.length) {v : Value} (h : Came enc P w base spare held ts v) :
    ∃ p len cap, v = .slice p len cap ∧ len * P.bytesOf te ≤ reachBytes ∧ len ≤ maxLen ∧
      ∀ i, i < len → ∃ b off, p = some ⟨b, off, none⟩ ∧ b < w.heap.size ∧ ∀ j t, tys[j]? = some t → ∃ v, w.cell? ⟨b, off + i * tys.length + j, none⟩ = some v ∧ Came enc P w base spare held t v := by
  obtain ⟨fuel, x, h, hsz⟩ := h
  obtain ⟨fs, hu, hty, hof, hce, hone⟩ := isFlat_is hfl
  rcases open_slice hs h with ⟨hcs, _⟩ | ⟨a, len, cap, m, n, D, Pl, hcs, _, hl, hm, hmm, hx, hi⟩
  · simp only [List.cons.injEq, and_true] at hcs
    exact ⟨none, 0, 0, hcs, by simp [reachBytes], by unfold maxLen; omega, fun i hi => by omega⟩
  · simp only [List.cons.injEq, and_true] at hcs
    have hml : len ≤ m := by rw [hmm]; split <;> omega
    refine ⟨some a, len, cap, hcs, ?_, by omega, fun i hil => ?_⟩
    · have := hsz ((((List.range len).map D).length + ((List.range (m - len)).map fun j => D (len + j)).length) * P.bytesOf te) (by rw [hx]; simp [DataW.weights, hs])
      simp only [List.length_map, List.length_range] at this
      exact Nat.le_trans (Nat.mul_le_mul_right _ (by omega)) this
    · have one : ∀ i, i < len → ∀ j t, tys[j]? = some t → ∃ v, w.cell? ((a.add (i * tys.length)).add j) = some v ∧ Came enc P w base spare held t v := fun i hil => by
        obtain ⟨cs', hc, ht⟩ := hi i (by omega)
        rw [hce] at hc
        exact open_flat hfl hc ht (fun n hn => hsz n (by
          rw [hx]
          simp only [DataW.weights, hs, List.mem_cons, List.mem_append]
          exact .inr (.inl (all_mem (List.mem_map.2 ⟨i, List.mem_range.2 hil, rfl⟩) n hn))))
      obtain ⟨v0, hv0, _⟩ := one 0 (by omega) 0 tys[0] (List.getElem?_eq_getElem hpos)
      obtain ⟨b, off, spot⟩ := a
      have ea : ∀ (o j : Nat) (s : Option Nat), (⟨b, o, s⟩ : Addr).add 0 = ⟨b, o, s⟩ := fun o j s => by simp [Addr.add]
      obtain rfl : spot = none := by
        simp only [Nat.zero_mul, ea _ 0] at hv0
        exact World.cell?_spot hv0
      have eb : ∀ (o j : Nat), (⟨b, o, none⟩ : Addr).add j = ⟨b, o + j, none⟩ := fun o j => by unfold Addr.add; split <;> simp_all
      refine ⟨b, off, rfl, ?_, fun j t hj => ?_⟩
      · simp only [eb] at hv0
        exact World.block_lt_of_cell? w _ hv0
      · obtain ⟨v, hv, hc⟩ := one i hil j t hj
        simp only [eb] at hv
        exact ⟨v, hv, hc⟩

theorem Came.int {t : TypeId} {k : IntKind} (ht : P.underlying t = some (.int k)) {v : Value} (h : Came enc P w base spare held t v) : ∃ n, v = .int k n ∧ (Lit.int k n).wf = true := by
  obtain ⟨fuel, y, h, _⟩ := h
  obtain ⟨n, e, _, hw⟩ := DataW.trod_int ht h
  exact ⟨n, by simpa using e, hw⟩
theorem Came.bool {t : TypeId} (ht : P.underlying t = some .bool) {v : Value} (h : Came enc P w base spare held t v) : ∃ b, v = .bool b := by
  obtain ⟨fuel, y, h, _⟩ := h
  obtain ⟨n, e, _⟩ := DataW.trod_bool ht h
  exact ⟨n, by simpa using e⟩
theorem Came.string {t : TypeId} (ht : P.underlying t = some .string) {v : Value} (h : Came enc P w base spare held t v) : ∃ s : ByteArray, v = .string s ∧ s.size ≤ maxLen := by
  obtain ⟨fuel, y, h, _⟩ := h
  obtain ⟨n, e, _, hs⟩ := DataW.trod_string ht h
  exact ⟨n, by simpa using e, hs⟩
/-- a slice of integers of one kind -/
theorem Came.ints {ts te : TypeId} {k : IntKind} (hs : P.underlying ts = some (.slice te)) (he : P.underlying te = some (.int k)) (hone : P.cellsOf te = 1) {v : Value} (h : Came enc P w base spare held ts v) :
    ∃ p len cap, v = .slice p len cap ∧ len * P.bytesOf te ≤ reachBytes ∧ len ≤ maxLen ∧
      ∀ i, i < len → ∃ b off n, p = some ⟨b, off, none⟩ ∧ b < w.heap.size ∧ w.cell? ⟨b, off + i, none⟩ = some (.int k n) ∧ (Lit.int k n).wf = true := by
  obtain ⟨fuel, x, h, hsz⟩ := h
  rcases open_slice hs h with ⟨hcs, _⟩ | ⟨a, len, cap, m, n, D, Pl, hcs, _, hl, hm, hmm, hx, hi⟩
  · simp only [List.cons.injEq, and_true] at hcs
    exact ⟨none, 0, 0, hcs, by simp [reachBytes], by unfold maxLen; omega, fun i hi => by omega⟩
  · simp only [List.cons.injEq, and_true] at hcs
    have hml : len ≤ m := by rw [hmm]; split <;> omega
    refine ⟨some a, len, cap, hcs, ?_, by omega, fun i hil => ?_⟩
    · have := hsz ((((List.range len).map D).length + ((List.range (m - len)).map fun j => D (len + j)).length) * P.bytesOf te) (by rw [hx]; simp [DataW.weights, hs])
      simp only [List.length_map, List.length_range] at this
      exact Nat.le_trans (Nat.mul_le_mul_right _ (by omega)) this
    · have one : ∀ i, i < len → ∃ n, w.cell? (a.add i) = some (.int k n) ∧ (Lit.int k n).wf = true := fun i hil => by
        obtain ⟨cs', hc, ht⟩ := hi i (by omega)
        rw [hone] at hc
        obtain ⟨_, hcl, hat⟩ := World.cells?_some hc
        obtain ⟨n, rfl, _, hw⟩ := DataW.trod_int he ht
        have := hat 0 (by omega)
        have e0 : (a.add (i * 1)).add 0 = a.add i := by simp [Addr.add]
        rw [e0] at this
        exact ⟨n, this, hw⟩
      obtain ⟨v0, hv0, _⟩ := one 0 (by omega)
      obtain ⟨b, off, spot⟩ := a
      obtain rfl : spot = none := by
        have : w.cell? (⟨b, off, spot⟩ : Addr) = some (.int k v0) := by simpa [Addr.add] using hv0
        exact World.cell?_spot this
      have eb : ∀ (o j : Nat), (⟨b, o, none⟩ : Addr).add j = ⟨b, o + j, none⟩ := fun o j => by unfold Addr.add; split <;> simp_all
      obtain ⟨n, hn, hw⟩ := one i hil
      rw [eb] at hn hv0
      exact ⟨b, off, n, rfl, World.block_lt_of_cell? w _ hn, hn, hw⟩
end
end Go.Proofs.YtbbaplcfhofeeaaGreat.Flat
