/-
  Bytes that came in, new bytes. No walk here.
-/
import Derived.Test.YtnplkifohocekaaDoorPhysJ
import Derived.OpenShut
set_option linter.unusedSimpArgs false
set_option linter.unusedVariables false
namespace Go.Proofs.YtnplkifohocekaaDoor
open Go.RowKit
set_option maxHeartbeats 400000

theorem bcells_at {w : World} {g : Nat} {l : List UInt8} {fr : Nat × Nat} (h : w.heap[g]? = some (.cells (bcells l).toArray 5 fr)) (k : Nat) (hk : k < l.length) :
    w.cell? ⟨g, k, none⟩ = some (.int .u8 (l.getD k 0).toNat) := by
  rw [cell_of_row w g k _ _ _ h, List.getElem?_toArray, bcells_get, List.getElem?_eq_getElem hk]
  simp [List.getD, List.getElem?_eq_getElem hk]
theorem part_len (f : Fr) (o n : Nat) : (f.part o n).length = n := by simp [Fr.part]
theorem part_get (f : Fr) (o n k : Nat) (h : k < n) : (f.part o n).getD k 0 = f.bs (o + k) := by
  simp [Fr.part, List.getD, h]
/-- what New bytes are, where there is one at least -/
theorem newBytes_pos {w w' : World} {l : List UInt8} {v : Value} (h : NewBytes w l v w') (hl : 0 < l.length) :
    ∃ b, v = .slice (some ⟨b, 0, none⟩) l.length l.length ∧ w.heap.size ≤ b ∧ (∀ k, k < l.length → w'.cell? ⟨b, k, none⟩ = some (.int .u8 (l.getD k 0).toNat)) ∧ w.grownBy w' none := by
  rcases h with ⟨_, rfl, _⟩ | ⟨b, hv, hb, hr, hg⟩
  · simp at hl
  · exact ⟨b, hv, hb, fun k hk => bcells_at hr k hk, hg⟩
theorem sizedPart (f : Fr) : (f.part 0 256).length = 256 := part_len _ _ _

/-- bytes that came in -/
def InBytes (w : World) (pa : Option Addr) (l : List UInt8) : Prop :=
  l = [] ∨ ∃ b o, pa = some ⟨b, o, none⟩ ∧ b < w.heap.size ∧ ∀ k, k < l.length → w.cell? ⟨b, o + k, none⟩ = some (.int .u8 (l.getD k 0).toNat)
theorem InBytes.is {w : World} {pa : Option Addr} {cap : Nat} {l : List UInt8} (h : InBytes w pa l) (B : Nat) (hB : w.heap.size ≤ B) : IsBytes w B (.slice pa l.length cap) l := by
  rcases h with rfl | ⟨b, o, rfl, hb, hc⟩
  · exact .inl ⟨⟨_, _, rfl⟩, rfl⟩
  · refine .inr ⟨_, _, rfl, by simp; omega, fun k x hx => ?_⟩
    obtain ⟨hk, rfl⟩ := List.getElem?_eq_some_iff.1 hx
    have e : (⟨b, o, none⟩ : Addr).add k = ⟨b, o + k, none⟩ := by unfold Addr.add; split <;> simp_all
    rw [e, hc k hk]
    simp [List.getD, List.getElem?_eq_getElem hk]
theorem InBytes.at {w : World} {pa : Option Addr} {l : List UInt8} (h : InBytes w pa l) {k : Nat} (hk : k < l.length) : ∃ b o, pa = some ⟨b, o, none⟩ ∧ w.cell? ⟨b, o + k, none⟩ = some (.int .u8 (l.getD k 0).toNat) := by
  rcases h with rfl | ⟨b, o, rfl, hb, hc⟩
  · simp at hk
  · exact ⟨b, o, rfl, hc k hk⟩
/-- bytes that came in, opened -/
def asBytes (zs : List Int) (n : Nat) : List UInt8 := (zs.take n).map fun z => UInt8.ofNat z.toNat
theorem asBytes_len (zs : List Int) (n : Nat) (h : n ≤ zs.length) : (asBytes zs n).length = n := by simp [asBytes]; omega
theorem asBytes_in {w : World} {x : Addr} {zs : List Int} {len : Nat} (hl : len ≤ zs.length) (hcell : ∀ i, i < zs.length → w.cell? (x.add i) = some (.int .u8 (zs.getD i 0))) (hwz : ∀ n ∈ zs, (Lit.int .u8 n).wf = true) :
    InBytes w (some x) (asBytes zs len) := by
  by_cases hpos : len = 0
  · subst hpos; exact .inl rfl
  obtain ⟨b, o, s⟩ := x
  have h0 := hcell 0 (by omega)
  obtain rfl : s = none := by simpa [Addr.add] using World.cell?_spot h0
  refine .inr ⟨b, o, rfl, World.block_lt_of_cell? w _ h0, fun k hk => ?_⟩
  rw [asBytes_len _ _ hl] at hk
  have hc := hcell k (by omega)
  have e : (⟨b, o, none⟩ : Addr).add k = ⟨b, o + k, none⟩ := by unfold Addr.add; split <;> simp_all
  rw [e] at hc
  rw [hc]
  have hkz : k < zs.length := by omega
  have hb := bounds_u8 (hwz zs[k] (List.getElem_mem hkz))
  simp [asBytes, List.getD, hkz, hk]
  omega

theorem SameBut.refl (base B : Nat) (w : World) : SameBut base B w w := ⟨rfl, rfl, rfl, Nat.le_refl _, fun _ _ _ _ => rfl⟩
theorem SameBut.grow {base B : Nat} {w W W' : World} {row : Option Nat} (h : SameBut base B w W) (hg : W.grownBy W' row) (hr : ∀ j, row = some j → j = B ∨ base ≤ j) : SameBut base B w W' :=
  ⟨hg.os.trans h.os, hg.tape.trans h.tape, hg.output.trans h.output, Nat.le_trans h.size hg.size, fun k hk hb hB => (hg.block k (Nat.lt_of_lt_of_le hk h.size) (fun e => by have := hr k e.symm; omega)).trans (h.block k hk hb hB)⟩
theorem SameBut.cell {base B : Nat} {w W : World} (h : SameBut base B w W) {a : Addr} {v : Value} (hc : w.cell? a = some v) (hb : a.block < base) (hB : a.block ≠ B) : W.cell? a = some v :=
  (World.cell?_of_block (h.block a.block (World.block_lt_of_cell? w a hc) hb hB)).trans hc
theorem own_ne {base B : Nat} {W : World} {e : TypeId} {size n : Nat} {v : Value} {xs : List Value} (h : W.ownsRow base e size v n xs) (hB : B < base) : v.ownBlock = none ∨ v.ownBlock ≠ some B := by
  by_cases e : v.ownBlock = some B
  · have := (h.lt B e).1; omega
  · exact .inr e
theorem ownsRow_slice {base : Nat} {W : World} {e : TypeId} {size n : Nat} {v : Value} {xs : List Value} (h : W.ownsRow base e size v n xs) : ∃ p c, v = .slice p n c := by
  rcases h.2 with ⟨rfl, rfl⟩ | ⟨g, cap, cur, rfl, _⟩
  · exact ⟨none, 0, rfl⟩
  · exact ⟨_, _, rfl⟩

end Go.Proofs.YtnplkifohocekaaDoor
