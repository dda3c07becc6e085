/-
  Slices of structs with structs in them, that came in, opened; for any program. No walk here.
-/
import Derived.Test.YtibiianmpajabaaOpen
import Derived.Test.YtibiianmpajabaaJ4
import Derived.Test.YtibiianmpajabaaBytesIn
set_option linter.unusedSimpArgs false
set_option linter.unusedVariables false
namespace Go.Proofs.Ytibiianmpajabaa.Flat
open Go.RowKit Go.ChangeShapes Go.WideShapes Go.ChangeAt Go.Deep
section
variable {H : Type} {enc : TypeId × Value → H} {P : Program} {w : World} {base : Nat} {spare : Nat → Bool} {held : Bool}
/-- cells that came in as a value of type t -/
def CameAt (enc : TypeId × Value → H) (P : Program) (w : World) (base : Nat) (spare : Nat → Bool) (held : Bool) (t : TypeId) (cs : List Value) : Prop :=
  ∃ fuel y, DataW.trod enc P w base spare held fuel t cs = some y ∧ ∀ n ∈ y.1.weights P t, n ≤ reachBytes
/-- a field of a struct -/
theorem CameAt.field {te : TypeId} {fs : Array Field} (hu : P.underlying te = some (.struct fs)) {cs : List Value} (h : CameAt enc P w base spare held te cs) {j : Nat} {f : Field} (hj : fs[j]? = some f) :
    CameAt enc P w base spare held f.type ((cs.drop f.offset).take (P.cellsOf f.type)) := by
  obtain ⟨fuel, y, h, hsz⟩ := h
  obtain ⟨xs, n, rfl, hy, hcl, hxl, hf⟩ := DataW.trod_struct hu h
  have ht := hf j f hj
  have hjs := (Array.getElem?_eq_some_iff.1 hj).1
  have hjx : j < xs.length := by omega
  rw [List.getElem?_eq_getElem hjx] at ht
  refine ⟨n, xs[j], ht, fun k hk => hsz k ?_⟩
  rw [hy]
  simp only [DataW.weights, hu]
  refine DataW.weights_mem_each (j := j) (t := f.type) (d := xs[j].1) ?_ ?_ k hk
  · rw [List.getElem?_map, Array.getElem?_toList, hj]; rfl
  · rw [List.getElem?_map, List.getElem?_eq_getElem hjx]; rfl
theorem CameAt.one {t : TypeId} {v : Value} (h : CameAt enc P w base spare held t [v]) : Came enc P w base spare held t v := h
/-- a slice of structs of K cells each -/
theorem open_wides {ts te : TypeId} {K : Nat} (hs : P.underlying ts = some (.slice te)) (hce : P.cellsOf te = K) (hpos : 0 < K) {v : Value} (h : Came enc P w base spare held ts v) :
    ∃ p len cap, v = .slice p len cap ∧ len * P.bytesOf te ≤ reachBytes ∧ len ≤ maxLen ∧
      ∀ i, i < len → ∃ b off cs, p = some ⟨b, off, none⟩ ∧ b < w.heap.size ∧ cs.length = K ∧ (∀ j, j < K → w.cell? ⟨b, off + i * K + j, none⟩ = cs[j]?) ∧ CameAt enc P w base spare held te cs := by
  obtain ⟨fuel, x, h, hsz⟩ := h
  rcases open_slice hs h with ⟨hcs, _⟩ | ⟨a, len, cap, m, n, D, Pl, hcs, _, hl, hm, hmm, hx, hi⟩
  · simp only [List.cons.injEq, and_true] at hcs
    exact ⟨none, 0, 0, hcs, by simp [reachBytes], by unfold maxLen; omega, fun i hi => by omega⟩
  · simp only [List.cons.injEq, and_true] at hcs
    have hml : len ≤ m := by rw [hmm]; split <;> omega
    refine ⟨some a, len, cap, hcs, ?_, by omega, fun i hil => ?_⟩
    · have := hsz ((((List.range len).map D).length + ((List.range (m - len)).map fun j => D (len + j)).length) * P.bytesOf te) (by rw [hx]; simp [DataW.weights, hs])
      simp only [List.length_map, List.length_range] at this
      exact Nat.le_trans (Nat.mul_le_mul_right _ (by omega)) this
    · have one : ∀ i, i < len → ∃ cs : List Value, cs.length = K ∧ (∀ j, j < K → w.cell? ((a.add (i * K)).add j) = cs[j]?) ∧ CameAt enc P w base spare held te cs := fun i hil => by
        obtain ⟨cs', hc, ht⟩ := hi i (by omega)
        rw [hce] at hc
        obtain ⟨_, hcl, hat⟩ := World.cells?_some hc
        exact ⟨cs', hcl, hat, _, _, ht, fun n hn => hsz n (by
          rw [hx]
          simp only [DataW.weights, hs, List.mem_cons, List.mem_append]
          exact .inr (.inl (all_mem (List.mem_map.2 ⟨i, List.mem_range.2 hil, rfl⟩) n hn)))⟩
      obtain ⟨cs0, hl0, hv0, _⟩ := one 0 (by omega)
      have hv0 := hv0 0 hpos
      rw [List.getElem?_eq_getElem (by omega)] at hv0
      obtain ⟨b, off, spot⟩ := a
      have ea : ∀ (o j : Nat) (s : Option Nat), (⟨b, o, s⟩ : Addr).add 0 = ⟨b, o, s⟩ := fun o j s => by simp [Addr.add]
      obtain rfl : spot = none := by
        simp only [Nat.zero_mul, ea _ 0] at hv0
        exact World.cell?_spot hv0
      have eb : ∀ (o j : Nat), (⟨b, o, none⟩ : Addr).add j = ⟨b, o + j, none⟩ := fun o j => by unfold Addr.add; split <;> simp_all
      simp only [eb] at hv0
      obtain ⟨cs, hcl, hat, hc⟩ := one i hil
      refine ⟨b, off, cs, rfl, World.block_lt_of_cell? w _ hv0, hcl, fun j hj => ?_, hc⟩
      have := hat j hj
      simp only [eb] at this
      exact this
end
end Go.Proofs.Ytibiianmpajabaa.Flat

/-
  A struct that came in by value, whose fields are one cell each, opened; for any program. No walk here.
-/
set_option linter.unusedSimpArgs false
set_option linter.unusedVariables false
namespace Go.Proofs.Ytibiianmpajabaa.Flat
open Go.RowKit Go.ChangeShapes Go.WideShapes Go.ChangeAt Go.Deep
section
variable {H : Type} {enc : TypeId × Value → H} {P : Program} {w : World} {base : Nat} {spare : Nat → Bool} {held : Bool}
theorem open_agg {te : TypeId} {tys : List TypeId} (hfl : isFlat P te tys = true) {r : Reach} {b0 : Nat} {v : Value} (hv : Value.okWide P w r b0 te v) {d : DataW H} {ps : List MemPlace} (h : DataW.Trod enc P w base spare held te v d ps) (hsz : ∀ n ∈ d.weights P te, n ≤ reachBytes) :
    ∃ l : List Value, v = .agg l.toArray ∧ l.length = tys.length ∧ ∀ (j : Nat) (t : TypeId), tys[j]? = some t → ∃ u : Value, l[j]? = some u ∧ Came enc P w base spare held t u := by
  obtain ⟨fs, hu, hty, hof, hce, hone⟩ := isFlat_is hfl
  obtain ⟨cs, rfl, hcsz⟩ := okWide_struct hu hv
  obtain ⟨fuel, h⟩ := h
  obtain ⟨xs, n, _, hy, hcl, hxl, hf⟩ := DataW.trod_struct hu h
  have hlen : fs.size = tys.length := by rw [← hty]; simp
  refine ⟨cs.toList, by simp, by simpa using hcsz.trans hce, ?_⟩
  intro j t hj
  obtain ⟨hjl, rfl⟩ := List.getElem?_eq_some_iff.1 hj
  have hg : fs[j]? = some (fs[j]'(by omega)) := Array.getElem?_eq_getElem (by omega)
  have hft : (fs[j]'(by omega)).type = tys[j] := by
    have : (fs.toList.map (·.type))[j]? = tys[j]? := by rw [hty]
    rw [List.getElem?_map, Array.getElem?_toList, hg, hj] at this
    simpa using this
  have hfo : (fs[j]'(by omega)).offset = j := by
    have : (fs.toList.map (·.offset))[j]? = (List.range tys.length)[j]? := by rw [hof]
    rw [List.getElem?_map, Array.getElem?_toList, hg, List.getElem?_range hjl] at this
    simpa using this
  have ht := hf j _ hg
  rw [hft, hfo, hone _ (List.getElem_mem hjl)] at ht
  have hjc : j < cs.toList.length := by simp; omega
  have htk : ((Value.agg cs).cells.toList.drop j).take 1 = [cs.toList[j]] := by
    show (cs.toList.drop j).take 1 = _
    rw [List.drop_eq_getElem_cons hjc]; rfl
  rw [htk] at ht
  have hjx : j < xs.length := by omega
  rw [List.getElem?_eq_getElem hjx] at ht
  simp only [Prod.mk.injEq] at hy
  refine ⟨cs.toList[j], List.getElem?_eq_getElem hjc, n, xs[j], ht, fun k hk => hsz k ?_⟩
  rw [hy.1]
  simp only [DataW.weights, hu]
  refine DataW.weights_mem_each (j := j) (t := tys[j]) (d := xs[j].1) ?_ ?_ k hk
  · rw [hty]; exact hj
  · rw [List.getElem?_map, List.getElem?_eq_getElem hjx]; rfl
end
end Go.Proofs.Ytibiianmpajabaa.Flat

/-
  Entries that came in.
-/
set_option linter.unusedSimpArgs false
set_option linter.unusedVariables false
namespace Go.Proofs.Ytibiianmpajabaa
open Go.RowKit Go.ChangeShapes Go.WideShapes Go.ChangeAt KM
set_option maxHeartbeats 1000000
set_option maxRecDepth 100000
section
variable {H : Type} {enc : TypeId × Value → H} {w : World}
theorem list7 {α : Type} {l : List α} (h : l.length = 7) : ∃ a b c d e f g, l = [a, b, c, d, e, f, g] := by
  match l, h with
  | [a, b, c, d, e, f, g], _ => exact ⟨a, b, c, d, e, f, g, rfl⟩
theorem list10 {α : Type} {l : List α} (h : l.length = 10) : ∃ a b c d e f g i j k, l = [a, b, c, d, e, f, g, i, j, k] := by
  match l, h with
  | [a, b, c, d, e, f, g, i, j, k], _ => exact ⟨a, b, c, d, e, f, g, i, j, k, rfl⟩
theorem fields_entry : ∃ fs : Array Field, Try.prog.underlying 79 = some (.struct fs) ∧ fs.map (fun f => (f.type, f.offset)) = #[(3, 0), (3, 1), (77, 2), (5, 9)] := ⟨_, Try.underlying79, by kernel_rfl⟩
theorem fields_grant : ∃ fs : Array Field, Try.prog.underlying 77 = some (.struct fs) ∧ fs.map (fun f => (f.type, f.offset)) = #[(3, 0), (4, 1), (4, 2), (3, 3), (3, 4), (3, 5), (3, 6)] := ⟨_, Try.underlying77, by kernel_rfl⟩
theorem cells_entry : Try.prog.cellsOf 79 = 10 ∧ Try.prog.cellsOf 77 = 7 ∧ Try.prog.cellsOf 3 = 1 ∧ Try.prog.cellsOf 4 = 1 ∧ Try.prog.cellsOf 5 = 1 := ⟨by kernel_rfl, by kernel_rfl, by kernel_rfl, by kernel_rfl, by kernel_rfl⟩
theorem field_of {fs : Array Field} {l : Array (TypeId × Nat)} (h : fs.map (fun f => (f.type, f.offset)) = l) {j : Nat} {t : TypeId} {o : Nat} (hj : l[j]? = some (t, o)) : ∃ f, fs[j]? = some f ∧ f.type = t ∧ f.offset = o := by
  rw [← h, Array.getElem?_map] at hj
  cases hf : fs[j]? with
  | none => rw [hf] at hj; cases hj
  | some f =>
    rw [hf] at hj
    simp only [Option.map_some, Option.some.injEq, Prod.mk.injEq] at hj
    exact ⟨f, rfl, hj⟩
abbrev CAt (enc : TypeId × Value → H) (w : World) (t : TypeId) (cs : List Value) : Prop := Flat.CameAt enc Try.prog w 0 (fun _ => true) true t cs
theorem field_at {te : TypeId} {l : Array (TypeId × Nat)} (hx : ∃ fs : Array Field, Try.prog.underlying te = some (.struct fs) ∧ fs.map (fun f => (f.type, f.offset)) = l) {cs : List Value} (h : CAt enc w te cs) {j : Nat} {t : TypeId} {o : Nat} (hj : l[j]? = some (t, o)) : CAt enc w t ((cs.drop o).take (Try.prog.cellsOf t)) := by
  obtain ⟨fs, hu, hm⟩ := hx
  obtain ⟨f, hf, rfl, rfl⟩ := field_of hm hj
  exact h.field hu hf
/-- a grant's cells -/
theorem came_grant {cs : List Value} (h : CAt enc w 77 cs) (hl : cs.length = 7) : ∃ g : GV, cs = [.int .i64 g.k, .bool g.ro, .bool g.sub, .int .i64 g.dom, .int .i64 g.gpfn, .int .i64 g.off, .int .i64 g.len] := by
  obtain ⟨a, b, c, d, e, f, g, rfl⟩ := list7 hl
  obtain ⟨-, -, ci, cb, -⟩ := cells_entry
  have k0 := field_at fields_grant h (j := 0) rfl
  have k1 := field_at fields_grant h (j := 1) rfl
  have k2 := field_at fields_grant h (j := 2) rfl
  have k3 := field_at fields_grant h (j := 3) rfl
  have k4 := field_at fields_grant h (j := 4) rfl
  have k5 := field_at fields_grant h (j := 5) rfl
  have k6 := field_at fields_grant h (j := 6) rfl
  rw [ci] at k0 k3 k4 k5 k6
  rw [cb] at k1 k2
  obtain ⟨n0, rfl, _⟩ := k0.one.int Try.underlying3
  obtain ⟨n1, rfl⟩ := k1.one.bool Try.underlying4
  obtain ⟨n2, rfl⟩ := k2.one.bool Try.underlying4
  obtain ⟨n3, rfl, _⟩ := k3.one.int Try.underlying3
  obtain ⟨n4, rfl, _⟩ := k4.one.int Try.underlying3
  obtain ⟨n5, rfl, _⟩ := k5.one.int Try.underlying3
  obtain ⟨n6, rfl, _⟩ := k6.one.int Try.underlying3
  exact ⟨⟨n0, n1, n2, n3, n4, n5, n6⟩, rfl⟩
theorem came_entry {cs : List Value} (h : CAt enc w 79 cs) (hl : cs.length = 10) : ∃ e : Ent, cs = [.int .i64 e.d, .int .i64 e.r, .int .i64 e.g.k, .bool e.g.ro, .bool e.g.sub, .int .i64 e.g.dom, .int .i64 e.g.gpfn, .int .i64 e.g.off, .int .i64 e.g.len, .int .u8 e.fl.toNat] := by
  obtain ⟨a, b, c0, c1, c2, c3, c4, c5, c6, d, rfl⟩ := list10 hl
  obtain ⟨-, cg, ci, -, cu⟩ := cells_entry
  have k0 := field_at fields_entry h (j := 0) rfl
  have k1 := field_at fields_entry h (j := 1) rfl
  have k2 := field_at fields_entry h (j := 2) rfl
  have k3 := field_at fields_entry h (j := 3) rfl
  rw [ci] at k0 k1
  rw [cg] at k2
  rw [cu] at k3
  obtain ⟨g, hg⟩ := came_grant k2 rfl
  obtain ⟨n0, rfl, _⟩ := k0.one.int Try.underlying3
  obtain ⟨n1, rfl, _⟩ := k1.one.int Try.underlying3
  obtain ⟨n3, rfl, w3⟩ := k3.one.int Try.underlying5
  have hb := bounds_u8 w3
  have hx : (UInt8.ofNat n3.toNat).toNat = n3.toNat := UInt8.toNat_ofNat_of_lt' (show n3.toNat < 256 by omega)
  simp only [List.drop_succ_cons, List.drop_zero, List.take_succ_cons, List.take_zero, List.cons.injEq, and_true] at hg
  obtain ⟨rfl, rfl, rfl, rfl, rfl, rfl, rfl⟩ := hg
  refine ⟨⟨n0, n1, g, UInt8.ofNat n3.toNat⟩, ?_⟩
  simp only [hx, Int.toNat_of_nonneg hb.1]
/-- the entries that came in -/
theorem came_ents {v : Value} (h : Flat.Came enc Try.prog w 0 (fun _ => true) true 94 v) : ∃ (pa : Option Addr) (l : List Ent) (cap : Nat), v = .slice pa l.length cap ∧ Ents w pa l ∧ l.length ≤ 140737488351232 := by
  obtain ⟨p, len, cap, rfl, hby, _, hc⟩ := Flat.open_wides Try.underlying94 cells_entry.1 (by decide) h
  obtain ⟨l, hol, hp⟩ := exists_list (fun i (e : Ent) => ∃ b off, p = some ⟨b, off, none⟩ ∧ b < w.heap.size ∧ ∀ j, j < 10 → w.cell? ⟨b, off + i * 10 + j, none⟩ = [Value.int .i64 e.d, .int .i64 e.r, .int .i64 e.g.k, .bool e.g.ro, .bool e.g.sub, .int .i64 e.g.dom, .int .i64 e.g.gpfn, .int .i64 e.g.off, .int .i64 e.g.len, .int .u8 e.fl.toNat][j]?) len fun i hi => by
    obtain ⟨b, off, cs, e, hb, hcl, hat, hcm⟩ := hc i hi
    obtain ⟨x, rfl⟩ := came_entry hcm hcl
    exact ⟨x, b, off, e, hb, hat⟩
  have hb : 1 ≤ Try.prog.bytesOf 79 := of_decide_eq_true (by kernel_rfl)
  have hl : len ≤ 140737488351232 := Nat.le_trans (Nat.le_mul_of_pos_right _ hb) (by unfold reachBytes at hby; exact hby)
  subst hol
  refine ⟨p, l, cap, rfl, fun i hi => ?_, hl⟩
  obtain ⟨b, off, e, hb, hat⟩ := hp i hi
  exact ⟨b, off, e, hb, hat 0 (by decide), hat 1 (by decide), hat 2 (by decide), hat 3 (by decide), hat 4 (by decide), hat 5 (by decide), hat 6 (by decide), hat 7 (by decide), hat 8 (by decide), hat 9 (by decide)⟩
end
end Go.Proofs.Ytibiianmpajabaa
