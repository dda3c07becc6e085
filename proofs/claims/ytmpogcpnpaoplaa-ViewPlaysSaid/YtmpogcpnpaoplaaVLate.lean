/-
  Rewrites that lie in a row of the call's own; calls that came in. No walk here.
-/
import Derived.Test.YtmpogcpnpaoplaaVStr
import Derived.Deep.AppendLies
namespace Go.Proofs.Ytmpogcpnpaoplaa
open Go.RowKit Go.ChangeShapes Go.WideShapes Go.ChangeAt Go.Deep
set_option maxHeartbeats 1000000

structure RawP where
  p : PokeV
  qa : Option Addr
  qc : Nat
def RawP.cells (r : RawP) : List Value := [.int .i64 r.p.t, .int .i64 r.p.i, .int .i64 r.p.off, .slice r.qa r.p.l.length r.qc]
def rcells (rs : List RawP) : List Value := rs.flatMap RawP.cells
theorem rcells_len (rs : List RawP) : (rcells rs).length = rs.length * 4 := by
  induction rs with
  | nil => rfl
  | cons x l ih => simp only [rcells, List.flatMap_cons, List.length_append, RawP.cells, List.length_cons, List.length_nil] at ih ⊢; omega
theorem rcells_app (a b : List RawP) : rcells (a ++ b) = rcells a ++ rcells b := by simp [rcells]
theorem rcells_one (rs : List RawP) : ∀ u ∈ rcells rs, u.oneCell' = true := by
  intro u hu
  simp only [rcells, List.mem_flatMap, RawP.cells] at hu
  obtain ⟨q, _, hu⟩ := hu
  simp only [List.mem_cons, List.not_mem_nil, or_false] at hu
  rcases hu with rfl | rfl | rfl | rfl <;> rfl
theorem rcells_get (rs : List RawP) (j : Nat) (hj : j < rs.length) (r : Nat) (hr : r < 4) : (rcells rs)[j * 4 + r]? = (rs[j].cells)[r]? := by
  induction rs generalizing j with
  | nil => simp at hj
  | cons x l ih =>
    have hx : x.cells.length = 4 := rfl
    simp only [rcells, List.flatMap_cons]
    cases j with
    | zero => rw [List.getElem?_append_left (by omega)]; simp
    | succ j =>
      rw [List.getElem?_append_right (by omega), hx, show (j + 1) * 4 + r - 4 = j * 4 + r by omega]
      simpa [rcells] using ih j (by simpa using hj)
/-- a rewrite as it came in -/
structure RawP.At (w : World) (pa : Option Addr) (j : Nat) (r : RawP) : Prop where
  fits : r.p.fits
  bytes : InBytes w r.qa r.p.l
  lies : ∃ b off, pa = some ⟨b, off, none⟩ ∧ b < w.heap.size ∧ ∀ q, q < 4 → w.cell? ⟨b, off + j * 4 + q, none⟩ = (r.cells)[q]?
theorem raws_of {w : World} {pa : Option Addr} {l : List PokeV} (h : PokesIn w pa l) : ∃ rs : List RawP, rs.map (·.p) = l ∧ ∀ j (h : j < rs.length), rs[j].At w pa j := by
  obtain ⟨rs, hl, hp⟩ := exists_list (fun (j : Nat) (r : RawP) => l[j]? = some r.p ∧ r.At w pa j) l.length fun i hi => by
    obtain ⟨b, off, qa, cap, e, hb, d0, d1, d2, d3, hf, hin⟩ := h i hi
    refine ⟨⟨l[i], qa, cap⟩, List.getElem?_eq_getElem hi, hf, hin, b, off, e, hb, fun q hq => ?_⟩
    match q, hq with
    | 0, _ => exact d0
    | 1, _ => exact d1
    | 2, _ => exact d2
    | 3, _ => exact d3
  refine ⟨rs, List.ext_getElem? fun j => ?_, fun j hj => (hp j hj).2⟩
  by_cases hj : j < rs.length
  · rw [List.getElem?_map, List.getElem?_eq_getElem hj, (hp j hj).1]; rfl
  · rw [List.getElem?_eq_none (by simpa using hj), List.getElem?_eq_none (by omega)]
/-- a row of rewrites reads as rewrites that came in -/
theorem pokes_row {w : World} {base : Nat} {v : Value} {rs : List RawP} (h : w.ownsRow base 62 4 v rs.length (rcells rs)) (hf : ∀ r ∈ rs, r.p.fits ∧ InBytes w r.qa r.p.l) : ∃ q c, v = .slice q (rs.map (·.p)).length c ∧ PokesIn w q (rs.map (·.p)) := by
  obtain ⟨q, c, rfl⟩ := ownsRow_slice h
  refine ⟨q, c, by simp, fun j hj => ?_⟩
  have hj' : j < rs.length := by simpa using hj
  obtain ⟨n, hn⟩ : ∃ n, rs.length = n + 1 := ⟨rs.length - 1, by omega⟩
  have h' := h
  rw [hn] at h'
  obtain ⟨g, c', e, hb, hr⟩ := ownsRow_row h'
  injection e with e
  subst e
  have hc : ∀ r, r < 4 → w.cell? ⟨g, j * 4 + r, none⟩ = (rs[j].cells)[r]? := fun r hr' => by
    rw [hr.cell (by omega)]
    have := rcells_get rs j hj' r hr'
    have hl : r < rs[j].cells.length := hr'
    rw [List.getElem?_eq_getElem hl] at this ⊢
    simp [List.getD, this]
  obtain ⟨f1, f2⟩ := hf rs[j] (List.getElem_mem hj')
  refine ⟨g, 0, rs[j].qa, rs[j].qc, rfl, hr.lt, ?_, ?_, ?_, ?_, by simpa using f1, by simpa using f2⟩
  · have := hc 0 (by omega); rw [Nat.zero_add]; simpa [RawP.cells] using this
  · have := hc 1 (by omega); rw [Nat.zero_add]; simpa [RawP.cells] using this
  · have := hc 2 (by omega); rw [Nat.zero_add]; simpa [RawP.cells] using this
  · have := hc 3 (by omega); rw [Nat.zero_add]; simpa [RawP.cells] using this
/-- the rewrite, not ahead of read n -/
def RawP.late (n : Nat) (r : RawP) : RawP := if r.p.t < n then { r with p := { r.p with t := n } } else r
theorem RawP.late_t (n : Nat) (r : RawP) : (n : Int) ≤ (r.late n).p.t := by
  unfold RawP.late; split
  · simp
  · omega
theorem due_late {n : Nat} {k : Nat} (hk : k < n) (rs : List RawP) : due ((rs.map (RawP.late n)).map (·.p)) (k : Int) = [] := by
  unfold due
  rw [List.filter_eq_nil_iff]
  intro p hp
  simp only [List.mem_map] at hp
  obtain ⟨_, ⟨r, _, rfl⟩, rfl⟩ := hp
  have := r.late_t n
  simp; omega
theorem info_poke : (Try.prog.info? 62).map (fun i => (i.zero, i.size, i.bytes)) = some (some (.agg #[.int .i64 0, .int .i64 0, .int .i64 0, .slice none 0 0]), 4, 48) := by kernel_rfl
/-- calls that came in -/
structure VOp where
  i : Int
  off : Int
  n : Int
def VOpsIn (w : World) (pa : Option Addr) (len : Nat) : Prop := ∀ j, j < len → ∃ b o x i off n v, pa = some ⟨b, o, none⟩ ∧ b < w.heap.size ∧ w.cell? ⟨b, o + j * 5, none⟩ = some (.int .i64 x) ∧ w.cell? ⟨b, o + j * 5 + 1, none⟩ = some (.int .i64 i) ∧ w.cell? ⟨b, o + j * 5 + 2, none⟩ = some (.int .i64 off) ∧
  w.cell? ⟨b, o + j * 5 + 3, none⟩ = some (.int .i64 n) ∧ w.cell? ⟨b, o + j * 5 + 4, none⟩ = some v ∧ (∃ p l c, v = .slice p (List.length (α := UInt8) l) c ∧ InBytes w p l ∧ l.length ≤ 140737488351232) ∧ (Lit.int .i64 x).wf = true ∧ (Lit.int .i64 i).wf = true ∧ (Lit.int .i64 off).wf = true ∧ (Lit.int .i64 n).wf = true
theorem vop_flat : Flat.isFlat Try.prog 56 [3, 3, 3, 3, 31] = true := by kernel_rfl
theorem open_vops {H : Type} {enc : TypeId × Value → H} {w : World} {v : Value} (h : Flat.Came enc Try.prog w 0 (fun _ => true) true 45 v) : ∃ pa len cap, v = .slice pa len cap ∧ len ≤ 140737488355328 ∧ VOpsIn w pa len := by
  obtain ⟨p, len, cap, rfl, hr, hl, hs⟩ := Flat.open_flats Try.underlying45 vop_flat (by simp) h
  have hb : Try.prog.bytesOf 56 = 56 := by kernel_rfl
  rw [hb] at hr
  unfold reachBytes at hr
  refine ⟨p, len, cap, rfl, by omega, fun i hi => ?_⟩
  obtain ⟨b, off, rfl, hb, hc⟩ := hs i hi
  obtain ⟨v0, c0, k0⟩ := hc 0 _ rfl
  obtain ⟨v1, c1, k1⟩ := hc 1 _ rfl
  obtain ⟨v2, c2, k2⟩ := hc 2 _ rfl
  obtain ⟨v3, c3, k3⟩ := hc 3 _ rfl
  obtain ⟨v4, c4, k4⟩ := hc 4 _ rfl
  obtain ⟨x, rfl, hx⟩ := k0.int Try.underlying3
  obtain ⟨a, rfl, ha⟩ := k1.int Try.underlying3
  obtain ⟨o, rfl, ho⟩ := k2.int Try.underlying3
  obtain ⟨n, rfl, hn⟩ := k3.int Try.underlying3
  obtain ⟨qa, l, qc, rfl, hi, hll⟩ := came_bytes k4
  exact ⟨b, off, x, a, o, n, _, rfl, hb, c0, c1, c2, c3, c4, ⟨qa, l, qc, rfl, hi, hll⟩, hx, ha, ho, hn⟩
end Go.Proofs.Ytmpogcpnpaoplaa
