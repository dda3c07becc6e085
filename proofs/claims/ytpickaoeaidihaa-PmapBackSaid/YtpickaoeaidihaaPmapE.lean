/-
  Package p2m: what List and Hole tell of a map; calls that came in. No walk here.
-/
import Derived.Test.YtpickaoeaidihaaPmapD
import Derived.Test.YtpickaoeaidihaaOpen
import Derived.OpenShut
namespace Go.Proofs.Ytpickaoeaidihaa
open Go.RowKit Gen
set_option maxHeartbeats 400000

theorem Mp.listP_get (M : Mp) (n k : Nat) (h : k < (M.listP n).length) : ∃ (g : Nat) (m : Int), (M.listP n)[k] = ((g : Int), m) ∧ g < n ∧ M.fr g = some m := by
  have := List.getElem_mem h
  unfold Mp.listP at this
  rw [List.mem_filterMap] at this
  obtain ⟨g, hg, e⟩ := this
  simp only [Option.map_eq_some_iff] at e
  obtain ⟨m, hm, e⟩ := e
  exact ⟨g, m, e.symm, by simpa using hg, hm⟩
theorem Mp.listP_pw (M : Mp) (n : Nat) : (M.listP n).Pairwise (fun a b => a.1 < b.1) := by
  unfold Mp.listP
  rw [List.pairwise_filterMap]
  refine List.pairwise_lt_range.imp fun {a b} h x hx y hy => ?_
  simp only [Option.map_eq_some_iff] at hx hy
  obtain ⟨m, _, rfl⟩ := hx
  obtain ⟨m', _, rfl⟩ := hy
  simpa using h
theorem Mp.listP_lt (M : Mp) (n i : Nat) (h : i + 1 < (M.listP n).length) : (M.listP n)[i].1 < (M.listP n)[i + 1].1 :=
  List.pairwise_iff_getElem.1 (M.listP_pw n) i (i + 1) (by omega) h (by omega)
theorem Mp.listP_ge (M : Mp) (n i : Nat) (h : i < (M.listP n).length) : (i : Int) ≤ (M.listP n)[i].1 := by
  induction i with
  | zero =>
    obtain ⟨g, m, e, _⟩ := M.listP_get n 0 h
    rw [e]; simp
  | succ i ih =>
    have := M.listP_lt n i h
    have := ih (by omega)
    omega
theorem Mp.listP_grow (M : Mp) (k d : Nat) : (M.listP k).length ≤ (M.listP (k + d)).length ∧ (M.listP (k + d)).length ≤ (M.listP k).length + d := by
  induction d with
  | zero => simp
  | succ d ih =>
    rw [show k + (d + 1) = (k + d) + 1 by omega]
    cases h : M.fr ((k + d : Nat) : Int) with
    | none => rw [Mp.listP_none h]; omega
    | some m => rw [Mp.listP_some h]; simp; omega
theorem Mp.listP_all (M : Mp) (k : Nat) (h : ∀ j : Nat, j < k → (M.fr j).isSome = true) : (M.listP k).length = k := by
  induction k with
  | zero => rfl
  | succ k ih =>
    have h1 := h k (by omega)
    obtain ⟨m, hm⟩ := Option.isSome_iff_exists.1 h1
    rw [Mp.listP_some hm]
    simp [ih fun j hj => h j (by omega)]
/-- what Hole and List tell of one another -/
theorem Mp.hole_cases (M : Mp) : (∃ k : Nat, k < M.n ∧ M.holeE = ((k : Int), 0) ∧ k ≤ (M.listP M.n).length ∧ (M.listP M.n).length < M.n ∧ ∀ h : k < (M.listP M.n).length, (k : Int) < (M.listP M.n)[k].1) ∨ (M.holeE = (0, 6) ∧ (M.listP M.n).length = M.n) := by
  by_cases hf : ∃ k : Nat, k < M.n ∧ (M.fr k).isSome = false
  · left
    obtain ⟨k, hk⟩ := hf
    -- the least
    have : ∃ k : Nat, (k < M.n ∧ (M.fr k).isSome = false) ∧ ∀ j : Nat, j < k → (M.fr j).isSome = true := by
      induction k using Nat.strongRecOn with
      | _ k ih =>
        by_cases h : ∃ j : Nat, j < k ∧ (M.fr j).isSome = false
        · obtain ⟨j, hj, h2⟩ := h
          exact ih j hj ⟨by omega, h2⟩
        · refine ⟨k, hk, fun j hj => ?_⟩
          cases e : (M.fr j).isSome with
          | true => rfl
          | false => exact absurd ⟨j, hj, e⟩ h
    obtain ⟨k, ⟨hk, hn⟩, hb⟩ := this
    have hnone : M.fr k = none := by cases e : M.fr k <;> simp_all
    have h1 := M.listP_all k hb
    have h2 := M.listP_grow k (M.n - k)
    have h3 := Mp.listP_none hnone
    have h4 := M.listP_grow (k + 1) (M.n - (k + 1))
    rw [show k + (M.n - k) = M.n by omega] at h2
    rw [show k + 1 + (M.n - (k + 1)) = M.n by omega, h3] at h4
    refine ⟨k, hk, Mp.holeE_at hk hb hn, by omega, by omega, fun h => ?_⟩
    have h5 := M.listP_ge M.n k h
    obtain ⟨g, m, e, _, hg⟩ := M.listP_get M.n k h
    rw [e] at h5 ⊢
    simp only at h5 ⊢
    by_cases hkg : (k : Int) = g
    · rw [← hkg, hnone] at hg; cases hg
    · omega
  · right
    have hb : ∀ j : Nat, j < M.n → (M.fr j).isSome = true := fun j hj => by
      cases e : (M.fr j).isSome with
      | true => rfl
      | false => exact absurd ⟨j, hj, e⟩ hf
    exact ⟨Mp.holeE_none hb, M.listP_all M.n hb⟩
/-- the cells of a list -/
theorem pairs_cells {W : World} {base : Nat} {v : Value} {l : List (Int × Int)} (h : W.ownsRow base 43 2 v l.length (pcells l)) {k : Nat} (hk : k < l.length) :
    ∃ g c, v = .slice (some ⟨g, 0, none⟩) l.length c ∧ base ≤ g ∧ W.cell? ⟨g, k * 2, none⟩ = some (.int .i64 l[k].1) ∧ W.cell? ⟨g, k * 2 + 1, none⟩ = some (.int .i64 l[k].2) := by
  obtain ⟨e0, e1⟩ := pcells_get l k hk
  obtain ⟨g, c, u, rfl, hb, _, hu, hc⟩ := own_cell h (j := k * 2) (by omega)
  obtain ⟨g', c', u', hv, _, _, hu', hc'⟩ := own_cell h (j := k * 2 + 1) (by omega)
  cases hv
  rw [e0] at hu; rw [e1] at hu'
  cases hu; cases hu'
  exact ⟨g, c, rfl, hb, hc, hc'⟩

/-- a row of calls that came in -/
def PScript (w : World) (p : Option Addr) (len : Nat) : Prop := ∀ i, i < len → ∃ b off x a c, p = some ⟨b, off, none⟩ ∧ b < w.heap.size ∧ w.cell? ⟨b, off + i * 3, none⟩ = some (.int .i64 x) ∧ w.cell? ⟨b, off + i * 3 + 1, none⟩ = some (.int .i64 a) ∧ w.cell? ⟨b, off + i * 3 + 2, none⟩ = some (.int .i64 c) ∧ I64 x ∧ I64 a ∧ I64 c
theorem pop_flat : Flat.isFlat Try.prog 31 [3, 3, 3] = true := by kernel_rfl
theorem pop_bytes : Try.prog.bytesOf 31 = 24 := by kernel_rfl
theorem open_pscript {H : Type} {enc : TypeId × Value → H} {w : World} {v : Value} (h : Flat.Came enc Try.prog w 0 (fun _ => true) true 22 v) :
    ∃ p len cap, v = .slice p len cap ∧ len ≤ 140737488351232 ∧ PScript w p len := by
  obtain ⟨p, len, cap, rfl, hl, _, hs⟩ := Flat.open_flats Try.underlying22 pop_flat (by simp) h
  refine ⟨p, len, cap, rfl, ?_, fun i hi => ?_⟩
  · rw [pop_bytes] at hl
    unfold reachBytes at hl
    omega
  · obtain ⟨b, off, rfl, hb, hc⟩ := hs i hi
    obtain ⟨v0, c0, k0⟩ := hc 0 _ rfl
    obtain ⟨v1, c1, k1⟩ := hc 1 _ rfl
    obtain ⟨v2, c2, k2⟩ := hc 2 _ rfl
    obtain ⟨x, rfl, hx⟩ := k0.int Try.underlying3
    obtain ⟨a, rfl, ha⟩ := k1.int Try.underlying3
    obtain ⟨c, rfl, hc⟩ := k2.int Try.underlying3
    exact ⟨b, off, x, a, c, rfl, hb, c0, c1, c2, hx, ha, hc⟩
end Go.Proofs.Ytpickaoeaidihaa
