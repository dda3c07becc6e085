/-
  A struct that came in by value, whose fields are one cell each, opened; for any program. No walk here.
-/
import Derived.Test.YtoeohbiofmcdeaaOpen
set_option linter.unusedSimpArgs false
set_option linter.unusedVariables false
namespace Go.Proofs.Ytoeohbiofmcdeaa.Flat
open Go.RowKit Go.ChangeShapes Go.WideShapes Go.ChangeAt Go.Deep
section
variable {H : Type} {enc : TypeId × Value → H} {P : Program} {w : World} {base : Nat} {spare : Nat → Bool} {held : Bool}
theorem open_agg {te : TypeId} {tys : List TypeId} (hfl : isFlat P te tys = true) {r : Reach} {b0 : Nat} {v : Value} (hv : Value.okWide P w r b0 te v) {d : DataW H} {ps : List MemPlace} (h : DataW.Trod enc P w base spare held te v d ps) (hsz : ∀ n ∈ d.weights P te, n ≤ reachBytes) :
    ∃ l : List Value, v = .agg l.toArray ∧ l.length = tys.length ∧ ∀ (j : Nat) (t : TypeId), tys[j]? = some t → ∃ u : Value, l[j]? = some u ∧ Came enc P w base spare held t u := by
  obtain ⟨fs, hu, hty, hof, hce, hone⟩ := isFlat_is hfl
  obtain ⟨cs, rfl, hcsz⟩ := okWide_struct hu hv
  obtain ⟨fuel, h⟩ := h
  obtain ⟨xs, n, _, hy, hcl, hxl, hf⟩ := DataW.trod_struct hu h
  have hlen : fs.size = tys.length := by rw [← hty]; simp
  refine ⟨cs.toList, by simp, by simpa using hcsz.trans hce, ?_⟩
  intro j t hj
  obtain ⟨hjl, rfl⟩ := List.getElem?_eq_some_iff.1 hj
  have hg : fs[j]? = some (fs[j]'(by omega)) := Array.getElem?_eq_getElem (by omega)
  have hft : (fs[j]'(by omega)).type = tys[j] := by
    have : (fs.toList.map (·.type))[j]? = tys[j]? := by rw [hty]
    rw [List.getElem?_map, Array.getElem?_toList, hg, hj] at this
    simpa using this
  have hfo : (fs[j]'(by omega)).offset = j := by
    have : (fs.toList.map (·.offset))[j]? = (List.range tys.length)[j]? := by rw [hof]
    rw [List.getElem?_map, Array.getElem?_toList, hg, List.getElem?_range hjl] at this
    simpa using this
  have ht := hf j _ hg
  rw [hft, hfo, hone _ (List.getElem_mem hjl)] at ht
  have hjc : j < cs.toList.length := by simp; omega
  have htk : ((Value.agg cs).cells.toList.drop j).take 1 = [cs.toList[j]] := by
    show (cs.toList.drop j).take 1 = _
    rw [List.drop_eq_getElem_cons hjc]; rfl
  rw [htk] at ht
  have hjx : j < xs.length := by omega
  rw [List.getElem?_eq_getElem hjx] at ht
  simp only [Prod.mk.injEq] at hy
  refine ⟨cs.toList[j], List.getElem?_eq_getElem hjc, n, xs[j], ht, fun k hk => hsz k ?_⟩
  rw [hy.1]
  simp only [DataW.weights, hu]
  refine DataW.weights_mem_each (j := j) (t := tys[j]) (d := xs[j].1) ?_ ?_ k hk
  · rw [hty]; exact hj
  · rw [List.getElem?_map, List.getElem?_eq_getElem hjx]; rfl
end
end Go.Proofs.Ytoeohbiofmcdeaa.Flat
