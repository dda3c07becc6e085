/-
  Package blk: bytes in memory, bytes that came in, own bytes, bytes as strings. In a namespace of its own, so that any seat may hold it beside other texts.
-/
import Derived.Test.YtnplkifohocekaaDoorRows
import Derived.Test.YtnplkifohocekaaDoorOpen
import Derived.Test.YtnplkifohocekaaDoorLift
import Derived.Test.YtnplkifohocekaaDoorGen
import Derived.ProofKit
import Derived.OpenShut
import Derived.WalkKit
import Derived.WalkSpells
import Derived.WalkLawsBesides
import Derived.Handy
import Derived.BigQuiet
import Derived.Maps.AppendAt
import Derived.Maps.OwnOps
import Derived.Lib.Hide
import Derived.Lib.SliceRun
import Derived.Lib.SlBytesConst
import Derived.Deep.QuietTactic
import Derived.Deep.AppendLies
import Derived.Laws.Rows
import Derived.Laws.IdiomStrings
import Derived.Laws.OwnMore
import Derived.Laws.AppendOwnNone
set_option linter.unusedSimpArgs false
set_option linter.unusedVariables false
namespace Go.Proofs.YtnplkifohocekaaDoor.Bk
open Go.RowKit Go.Lib Go.ChangeShapes Go.WideShapes Go.ChangeAt Go.Deep
set_option maxHeartbeats 1000000

theorem grownBy_drewN (w : World) (n : Nat) (row : Option Nat) : w.grownBy (w.drewN n) row := ⟨rfl, rfl, rfl, Nat.le_refl _, fun _ _ _ => rfl⟩
/-- bytes as cells -/
def bcells (l : List UInt8) : List Value := l.map fun x => .int .u8 x.toNat
theorem bcells_len (l : List UInt8) : (bcells l).length = l.length := by simp [bcells]
theorem bcells_get (l : List UInt8) (k : Nat) : (bcells l)[k]? = l[k]?.map fun x => .int .u8 x.toNat := by simp [bcells]
theorem bcells_at {l : List UInt8} {k : Nat} (h : k < l.length) : (bcells l)[k]? = some (.int .u8 (l.getD k 0).toNat) := by
  rw [bcells_get, List.getElem?_eq_getElem h]; simp [List.getD, List.getElem?_eq_getElem h]
theorem bcells_one (l : List UInt8) : ∀ v ∈ bcells l, v.oneCell' = true := by
  intro v hv
  simp only [bcells, List.mem_map] at hv
  obtain ⟨x, _, rfl⟩ := hv
  rfl
theorem bcells_app (a b : List UInt8) : bcells (a ++ b) = bcells a ++ bcells b := by simp [bcells]
theorem bcells_nil : bcells [] = [] := rfl
theorem bcells_cons (x : UInt8) (l : List UInt8) : bcells (x :: l) = .int .u8 x.toNat :: bcells l := rfl
attribute [irreducible] bcells
/-- the bytes l stand from p on -/
def BA (w : World) (p : Option Addr) (l : List UInt8) : Prop := ∀ k, k < l.length → ∃ b o, p = some ⟨b, o, none⟩ ∧ w.cell? ⟨b, o + k, none⟩ = some (.int .u8 (l.getD k 0).toNat)
theorem BA.grown {w w' : World} {p : Option Addr} {l : List UInt8} (h : BA w p l) (hg : w.grownBy w' none) : BA w' p l := fun k hk => by
  obtain ⟨b, o, e, hc⟩ := h k hk
  exact ⟨b, o, e, hg.cell hc (by simp)⟩
theorem BA.nil (w : World) (p : Option Addr) : BA w p [] := fun k hk => by simp at hk
theorem BA.of_none {w : World} {l : List UInt8} (h : BA w none l) : l = [] := by
  cases l with
  | nil => rfl
  | cons x l => obtain ⟨_, _, e, _⟩ := h 0 (by simp); cases e
theorem BA.at {w : World} {b o : Nat} {l : List UInt8} (h : BA w (some ⟨b, o, none⟩) l) {k : Nat} (hk : k < l.length) : w.cell? ⟨b, o + k, none⟩ = some (.int .u8 (l.getD k 0).toNat) := by
  obtain ⟨_, _, e, hc⟩ := h k hk
  cases e
  exact hc
theorem BA.ptr {w : World} {p : Option Addr} {l : List UInt8} (h : BA w p l) (hl : 0 < l.length) : ∃ b o, p = some ⟨b, o, none⟩ := by
  obtain ⟨b, o, e, _⟩ := h 0 hl
  exact ⟨b, o, e⟩
/-- a part of the bytes -/
theorem BA.sub {w : World} {b o : Nat} {l : List UInt8} (h : BA w (some ⟨b, o, none⟩) l) (i n : Nat) (hi : i + n ≤ l.length) : BA w (some ⟨b, o + i, none⟩) ((l.drop i).take n) := fun k hk => by
  rw [List.length_take, List.length_drop] at hk
  refine ⟨b, o + i, rfl, ?_⟩
  rw [Nat.add_assoc, h.at (by omega)]
  congr 4
  simp [List.getD, List.getElem?_take, show k < n by omega]
/-- a slice of bytes of its own -/
def NewB (w : World) (l : List UInt8) (v : Value) (w' : World) : Prop := w'.ownsRow w.heap.size 5 1 v l.length (bcells l) ∧ w.grownBy w' none
theorem own_ba {w' : World} {base : Nat} {l : List UInt8} {v : Value} (h : w'.ownsRow base 5 1 v l.length (bcells l)) : ∃ p c, v = .slice p l.length c ∧ BA w' p l ∧ l.length ≤ c ∧ (p = none → c = 0) := by
  have hh := h
  rcases hh.2 with ⟨rfl, h0⟩ | ⟨g, cap, cur, rfl, hb, hg, hc, _⟩
  · have : l = [] := List.eq_nil_of_length_eq_zero h0
    subst this
    exact ⟨none, 0, rfl, BA.nil _ _, Nat.le_refl _, fun _ => rfl⟩
  · refine ⟨_, _, rfl, fun k hk => ⟨g, 0, rfl, ?_⟩, hc, (fun e => by cases e)⟩
    rw [Nat.zero_add, h.cellAt k (by omega), bcells_at hk]
theorem own_lower {base base' : Nat} {W : World} {e : TypeId} {size n : Nat} {v : Value} {xs : List Value} (h : W.ownsRow base e size v n xs) (hb : base' ≤ base) : W.ownsRow base' e size v n xs := by
  obtain ⟨h1, h2⟩ := h
  refine ⟨h1, ?_⟩
  rcases h2 with h2 | ⟨g, cap, cur, e1, h3, r⟩
  · exact .inl h2
  · exact .inr ⟨g, cap, cur, e1, Nat.le_trans hb h3, r⟩
theorem own_grown {w w' : World} {B : Nat} {e : TypeId} {s n : Nat} {xs : List Value} {v : Value} (h : w.ownsRow B e s v n xs) (hg : w.grownBy w' none) : w'.ownsRow B e s v n xs := by
  refine ⟨h.1, ?_⟩
  rcases h.2 with h2 | ⟨g, cap, cur, rfl, hb', hg', r⟩
  · exact .inl h2
  · exact .inr ⟨g, cap, cur, rfl, hb', (hg.block g (Array.getElem?_eq_some_iff.1 hg').1 (by simp)).trans hg', r⟩
theorem own_nil (w : World) (base : Nat) : w.ownsRow base 5 1 (.slice none 0 0) 0 (bcells []) := by
  have := World.ownsRow_nil w base 5 1
  rw [bcells_nil]; exact this
theorem NewB.first {w0 w w' : World} {l : List UInt8} {v : Value} (hg : w0.grownBy w none) (h : NewB w l v w') : NewB w0 l v w' := ⟨own_lower h.1 hg.size, hg.trans h.2⟩
theorem NewB.ba {w w' : World} {l : List UInt8} {v : Value} (h : NewB w l v w') : ∃ p c, v = .slice p l.length c ∧ BA w' p l ∧ l.length ≤ c ∧ (p = none → c = 0) := own_ba h.1
/-- grown past what an own row's append did -/
theorem own_then {w W W' : World} {base : Nat} {e : TypeId} {s n : Nat} {xs : List Value} {v : Value} (hg : w.grownBy W none) (h : W.ownsRow base e s v n xs) (hb : w.heap.size ≤ base) (hx : W.grownBy W' v.ownBlock) : w.grownBy W' none :=
  hg.andThen hx (fun j hj => .inl (Nat.le_trans hb (h.lt j hj).1))
theorem own_keep {W W' : World} {base k o : Nat} {e : TypeId} {sz n : Nat} {xs : List Value} {v u : Value} (h : W.ownsRow base e sz v n xs) (hk : k < base) (hg : W.grownBy W' v.ownBlock) (hc : W.cell? ⟨k, o, none⟩ = some u) : W'.cell? ⟨k, o, none⟩ = some u := by
  have hlt := World.block_lt_of_cell? W _ hc
  have hne : some k ≠ v.ownBlock := fun e => by
    have := (h.lt k e.symm).1
    omega
  rw [World.cell?_of_block (a := ⟨k, o, none⟩) (hg.block k hlt hne)]
  exact hc
theorem info_u8 : (Tryd.prog.info? 5).map (fun i => (i.zero, i.size, i.bytes)) = some (some (.int .u8 0), 1, 1) := by kernel_rfl
theorem u8_size : (Tryd.prog.info? 5).map (·.size) = some 1 := by kernel_rfl
theorem u8_bytes : Tryd.prog.bytesOf 5 = 1 := by kernel_rfl
theorem news_ba {w : World} {a : Addr} {l : List UInt8} (h : BA w (some a) l) : ∀ j u, (bcells l)[j]? = some u → w.cell? (a.add j) = some u := by
  intro j u hu
  have hj := (List.getElem?_eq_some_iff.1 hu).1
  rw [bcells_len] at hj
  obtain ⟨g, o, e, hc⟩ := h j hj
  cases e
  have e : (⟨g, o, none⟩ : Addr).add j = ⟨g, o + j, none⟩ := by unfold Addr.add; split <;> simp_all
  rw [e, hc]
  rw [bcells_get] at hu
  simpa [List.getD, List.getElem?_eq_getElem hj] using hu
theorem own_made0 (w : World) : (w.alloc (.cells #[] 5)).ownsRow w.heap.size 5 1 (.slice (some ⟨w.heap.size, 0, none⟩) 0 0) 0 (bcells []) := by
  rw [bcells_nil]
  exact ⟨by simp, .inr ⟨w.heap.size, 0, #[], rfl, Nat.le_refl _, heap_alloc_new w _, Nat.le_refl _, by decide, by simp, by simp⟩⟩
theorem alloc_le (w : World) (o : Obj) : w.heap.size ≤ (w.alloc o).heap.size := (World.grownBy_alloc w o none).size
theorem make_z (w : World) (n : Nat) (hn : n ≤ 16777216) : ∃ w', (Instr.makeSlice 22 (.int .i64 n) (.int .i64 n)).run Tryd.prog w = .ok (.slice (some ⟨w.heap.size, 0, none⟩) n n) w' ∧
    w'.ownsRow w.heap.size 5 1 (.slice (some ⟨w.heap.size, 0, none⟩) n n) n (bcells (List.replicate n 0)) ∧ w.grownBy w' none := by
  obtain ⟨i0, hi, hz0, hz1, hz2⟩ := info_parts info_u8
  obtain ⟨w', h1, h2, h3⟩ := run_makeSlice_full w w.heap.size 22 5 i0 (.int .u8 0) 1 Tryd.underlying22 hi hz0 hz1 .i64 .i64 n (by omega) (by rw [hz2]; omega) (by unfold maxLen; omega) (Nat.le_refl _)
  refine ⟨w', h1, ?_, h3⟩
  have e : (madeCells (Value.cells (.int .u8 0)) (n * 1)).toList = bcells (List.replicate n 0) := by
    apply List.ext_getElem?
    intro j
    rw [bcells_get, List.getElem?_replicate]
    simp only [madeCells, Value.cells]
    by_cases h : j < n <;> simp [h, Nat.mod_one]
  rw [e] at h2
  exact h2
theorem exists_list {α : Type} (P : Nat → α → Prop) : ∀ n, (∀ i, i < n → ∃ a, P i a) → ∃ l : List α, l.length = n ∧ ∀ i (h : i < l.length), P i l[i]
  | 0, _ => ⟨[], rfl, fun i h => by simp at h⟩
  | n + 1, h => by
    obtain ⟨l, hl, hp⟩ := exists_list P n fun i hi => h i (by omega)
    obtain ⟨a, ha⟩ := h n (by omega)
    refine ⟨l ++ [a], by simp [hl], fun i hi => ?_⟩
    by_cases e : i < l.length
    · rw [List.getElem_append_left e]; exact hp i e
    · have : i = n := by simp at hi; omega
      subst this
      rw [List.getElem_append_right (by omega)]
      simpa using ha
section
variable {H : Type} {enc : TypeId × Value → H} {w : World}
theorem came_cap {v : Value} {t e : TypeId} (ht : Tryd.prog.underlying t = some (.slice e)) (h : Flat.Came enc Tryd.prog w 0 (fun _ => true) true t v) : ∃ p len cap, v = .slice p len cap ∧ (p = none → cap = 0) ∧ len ≤ cap := by
  obtain ⟨fuel, y, h, _⟩ := h
  rcases open_slice ht h with ⟨hcs, _⟩ | ⟨a, len, cap, m, n, D, Pl, hcs, _, hl, _⟩
  · simp only [List.cons.injEq, and_true] at hcs
    exact ⟨none, 0, 0, hcs, fun _ => rfl, Nat.le_refl _⟩
  · simp only [List.cons.injEq, and_true] at hcs
    exact ⟨_, _, _, hcs, (fun e => by cases e), hl⟩
theorem came_bytes {v : Value} (h : Flat.Came enc Tryd.prog w 0 (fun _ => true) true 22 v) : ∃ pa l cap, v = .slice pa (List.length (α := UInt8) l) cap ∧ BA w pa l ∧ l.length ≤ 140737488351232 ∧ (pa = none → cap = 0) ∧ l.length ≤ cap := by
  obtain ⟨p0, len0, cap0, e0, hn0, hc0⟩ := came_cap Tryd.underlying22 h
  obtain ⟨p, len, cap, rfl, hl, _, hc⟩ := h.ints Tryd.underlying22 Tryd.underlying5 (by kernel_rfl)
  injection e0 with e1 e2 e3
  subst e1 e2 e3
  rw [u8_bytes, Nat.mul_one] at hl
  unfold reachBytes at hl
  obtain ⟨l, hll, hp⟩ := exists_list (fun i (x : UInt8) => ∃ b off, p = some ⟨b, off, none⟩ ∧ w.cell? ⟨b, off + i, none⟩ = some (.int .u8 x.toNat)) len fun i hi => by
    obtain ⟨b, off, n, e, _, hn, hw⟩ := hc i hi
    have hb := bounds_u8 hw
    have h256 : n.toNat < 256 := by omega
    have hx : (UInt8.ofNat n.toNat).toNat = n.toNat := UInt8.toNat_ofNat_of_lt' h256
    refine ⟨UInt8.ofNat n.toNat, b, off, e, ?_⟩
    rw [hn, hx, Int.toNat_of_nonneg hb.1]
  subst hll
  refine ⟨p, l, cap, rfl, fun k hk => ?_, by omega, hn0, hc0⟩
  obtain ⟨b, off, e, h2⟩ := hp k hk
  exact ⟨b, off, e, by rw [h2]; simp [List.getD, List.getElem?_eq_getElem hk]⟩
end
/-- bytes as a string -/
theorem conv_empty (w : World) (pa : Option Addr) (cap : Nat) : (convert 22 9 (.slice pa 0 cap)).run Tryd.prog w = .ok (.string ⟨#[]⟩) w := by
  cases pa with
  | none => rw [run_convert_bytes_string w 22 9 5 none 0 cap Tryd.underlying22 Tryd.underlying5 Tryd.underlying9]; simp [Conv.bytesToString]; rfl
  | some a => exact run_convert_bytes_back w 22 9 5 a cap [] Tryd.underlying22 Tryd.underlying5 Tryd.underlying9 (fun j hj => by simp at hj)
theorem BA.string {w : World} {l : List UInt8} {p : Option Addr} (h : BA w p l) (c : Nat) : (convert 22 9 (.slice p l.length c)).run Tryd.prog w = .ok (.string ⟨l.toArray⟩) w := by
  cases l with
  | nil => exact conv_empty w p c
  | cons x l =>
    obtain ⟨b, o, rfl, _⟩ := h 0 (by simp)
    refine run_convert_bytes_back w 22 9 5 ⟨b, o, none⟩ c (x :: l) Tryd.underlying22 Tryd.underlying5 Tryd.underlying9 (fun j hj => ?_)
    obtain ⟨b', o', e, hc⟩ := h j hj
    cases e
    have e : (⟨b, o, none⟩ : Addr).add j = ⟨b, o + j, none⟩ := by unfold Addr.add; split <;> simp_all
    rw [e, hc]
    simp [List.getD, List.getElem?_eq_getElem hj]
/-- 's[lo:hi]' with numbers -/
theorem run_cut (w : World) (q o len c lo hi : Nat) (h1 : lo ≤ hi) (h2 : hi ≤ len) (hc : len ≤ c) (hne : lo < c) :
    (Instr.slice 22 (.slice (some ⟨q, o, none⟩) len c) (some (.int .i64 (lo : Int))) (some (.int .i64 (hi : Int))) none).run Tryd.prog w = .ok (.slice (some ⟨q, o + lo, none⟩) (hi - lo) (c - lo)) w := by
  have i5 := u8_size
  cases h5 : Tryd.prog.info? 5 with
  | none => rw [h5] at i5; cases i5
  | some x =>
  rw [h5] at i5
  simp only [Option.map_some, Option.some.injEq] at i5
  have hel : Tryd.prog.elem 22 = 5 := by kernel_rfl
  have hs := run_slice_lh (P := Tryd.prog) w 22 (some ⟨q, o, none⟩) len c (by rw [hel]; exact Tryd.underlying22) .i64 .i64 (lo : Int) (hi : Int) (by omega) (by omega) (by omega)
  rw [hs, hel]
  have h3 : ¬ c = lo := by omega
  have e : (⟨q, o, none⟩ : Addr).add lo = ⟨q, o + lo, none⟩ := by unfold Addr.add; split <;> simp_all
  simp [sizeOf, typeInfo, h5, i5, sliced, h3, e, Result.andThen]
/-- an integer of Go's int -/
def I64 (n : Int) : Prop := -9223372036854775808 ≤ n ∧ n ≤ 9223372036854775807
theorem I64.wf {n : Int} (h : (Lit.int .i64 n).wf = true) : I64 n := bounds_i64 h
end Go.Proofs.YtnplkifohocekaaDoor.Bk
