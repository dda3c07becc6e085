/-
  Contracts of package tenementref01: New.
-/
import Derived.Test.YtnplkifohocekaaDoorRefH
import Derived.Deep.AppendLies
import Derived.Deep.RegionLaw
set_option linter.unusedSimpArgs false
set_option linter.unusedVariables false
namespace Go.Proofs.YtnplkifohocekaaDoor
open Go.RowKit
set_option maxHeartbeats 400000

theorem info_frame : (Tryd.prog.info? 112).map (fun i => (i.zero, i.size, i.bytes)) = some (some (.agg #[.int .i64 0, .int .i64 0, .int .i64 0, .int .i64 0]), 4, 32) := by kernel_rfl
theorem info_bytes : (Tryd.prog.info? 22).map (fun i => (i.zero, i.size, i.bytes)) = some (some (.slice none 0 0), 1, 24) := by kernel_rfl
/-- k frames' numbers, all free -/
def frs (k : Nat) : List Value := (List.range (k * 4)).map fun q => blankFr.cell (q % 4)
theorem frs_succ (k : Nat) : frs (k + 1) = frs k ++ [.int .i64 (-1), .int .i64 0, .int .i64 0, .int .i64 0] := by
  unfold frs
  rw [show (k + 1) * 4 = k * 4 + 1 + 1 + 1 + 1 by omega]
  simp only [List.range_succ, List.map_append, List.map_cons, List.map_nil, List.append_assoc, List.cons_append, List.nil_append]
  rw [show (k * 4) % 4 = 0 by omega, show (k * 4 + 1) % 4 = 1 by omega, show (k * 4 + 1 + 1) % 4 = 2 by omega, show (k * 4 + 1 + 1 + 1) % 4 = 3 by omega]
  rfl
theorem frs_len (k : Nat) : (frs k).length = k * 4 := by simp [frs]
/-- k slices of bytes -/
def sls (g cg : Nat → Nat) (k : Nat) : List Value := (List.range k).map fun i => .slice (some ⟨g i, 0, none⟩) 256 (cg i)
theorem sls_succ (g cg : Nat → Nat) (k G c : Nat) : sls (fun j => if j = k then G else g j) (fun j => if j = k then c else cg j) (k + 1) = sls g cg k ++ [.slice (some ⟨G, 0, none⟩) 256 c] := by
  unfold sls
  rw [List.range_succ, List.map_append]
  congr 1
  · refine List.map_congr_left fun i hi => ?_
    have : i ≠ k := by have := List.mem_range.1 hi; omega
    simp [this]
  · simp
theorem sls_len (g cg : Nat → Nat) (k : Nat) : (sls g cg k).length = k := by simp [sls]
def top2 (vF vB : Value) : Nat → Value
  | 0 => vF
  | _ => vB
/-- a slice that owns a row is one head of a block -/
theorem ownsRow_row {W : World} {base : Nat} {e : TypeId} {size n : Nat} {v : Value} {xs : List Value} (h : W.ownsRow base e size v (n + 1) xs) :
    ∃ g c, v = .slice (some ⟨g, 0, none⟩) (n + 1) c ∧ base ≤ g ∧ Row W g e ((n + 1) * size) (fun k => xs.getD k undef) := by
  rcases h.2 with ⟨_, h0⟩ | ⟨g, cap, cur, rfl, hb, hg, hn, hcap, hsz, htake⟩
  · omega
  · refine ⟨g, cap, rfl, hb, cur, hg, ?_, fun k hk => ?_⟩
    · rw [hsz]; exact Nat.mul_le_mul_right _ hn
    · have hl := h.1
      have h1 : (cur.toList.take ((n + 1) * size))[k]? = xs[k]? := by rw [htake]
      rw [List.getElem?_take, if_pos hk] at h1
      have hx : k < xs.length := by omega
      rw [List.getElem?_eq_getElem hx] at h1
      simpa [List.getD, List.getElem?_eq_getElem hx] using h1

theorem none_row' (v : Value) : v.ownBlock = none ∨ v.ownBlock ≠ none := by cases v.ownBlock <;> simp
theorem own_ne_row {W : World} {base : Nat} {e : TypeId} {size n : Nat} {v : Value} {xs : List Value} (h : W.ownsRow base e size v n xs) {x : Nat} {t : TypeId} {N : Nat} {X : Nat → Value} (hr : Row W x t N X) (ht : t ≠ e) : some x ≠ v.ownBlock := by
  intro e'
  rcases h.2 with ⟨rfl, _⟩ | ⟨g, cap, cur, rfl, _, hg, _⟩
  · simp [Value.ownBlock] at e'
  · obtain rfl : x = g := by simpa [Value.ownBlock] using e'
    obtain ⟨c, hc, _⟩ := hr
    rw [hc] at hg; cases hg; exact ht rfl
theorem own_ne_own {W : World} {base base' : Nat} {e e' : TypeId} {size size' n n' : Nat} {v v' : Value} {xs xs' : List Value} (h : W.ownsRow base e size v n xs) (h' : W.ownsRow base' e' size' v' n' xs') (ht : e ≠ e') : v.ownBlock = none ∨ v.ownBlock ≠ v'.ownBlock := by
  rcases h.2 with ⟨rfl, _⟩ | ⟨g, cap, cur, rfl, _, hg, _⟩
  · exact .inl rfl
  · refine .inr fun e0 => ?_
    rcases h'.2 with ⟨rfl, _⟩ | ⟨g', cap', cur', rfl, _, hg', _⟩
    · simp [Value.ownBlock] at e0
    · obtain rfl : g = g' := by simpa [Value.ownBlock] using e0
      rw [hg] at hg'; cases hg'; exact ht rfl
/-- New (and Copy) under way: kF frames, kB rows of bytes; f i are the bytes -/
structure NewSt (w W : World) (b kF kB : Nat) (fc : Nat → List Value) (f : Nat → Fr) (g cg : Nat → Nat) (vF vB : Value) : Prop where
  top : Row W b 55 2 (top2 vF vB)
  fr : W.ownsRow (b + 1) 112 4 vF kF (fc kF)
  bs : W.ownsRow (b + 1) 22 1 vB kB (sls g cg kB)
  row : ∀ i, i < kB → Row W (g i) 5 256 (byt (f i)) ∧ b < g i
  cap : ∀ i, i < kB → 256 ≤ cg i
  inj : ∀ i j, i < kB → j < kB → g i = g j → i = j
  hb : w.heap.size ≤ b
  grown : w.grownBy W none
theorem NewSt.ext {w W X : World} {b kF kB : Nat} {fc : Nat → List Value} {f : Nat → Fr} {g cg : Nat → Nat} {vF vB : Value} (h : NewSt w W b kF kB fc f g cg vF vB) (hX : W.grownBy X none) : NewSt w X b kF kB fc f g cg vF vB :=
  ⟨h.top.grown hX (by simp), h.fr.kept hX (none_row' _), h.bs.kept hX (none_row' _), fun i hi => ⟨(h.row i hi).1.grown hX (by simp), (h.row i hi).2⟩, h.cap, h.inj, h.hb, h.grown.trans hX⟩
theorem NewSt.stepF {w X w1 : World} {b kF kB m : Nat} {fc : Nat → List Value} {f : Nat → Fr} {g cg : Nat → Nat} {vF vB v' : Value} (h : NewSt w X b kF kB fc f g cg vF vB) (hgrow : X.grownBy w1 vF.ownBlock)
    (hown : w1.ownsRow (b + 1) 112 4 v' m (fc m)) : NewSt w (w1.setCell ⟨b, 0, none⟩ v') b m kB fc f g cg v' vB := by
  have h1 := h.top.grown hgrow (own_ne_row h.fr h.top (by decide))
  have hB := h.bs.kept hgrow (own_ne_own h.bs h.fr (by decide))
  have hs := grownBy_setCell w1 b 0 none v'
  refine ⟨h1.set rfl fun j hj h0 => ?_, hown.kept hs (own_ne hown (by omega)), hB.kept hs (own_ne hB (by omega)), fun i hi => ⟨?_, (h.row i hi).2⟩, h.cap, h.inj, h.hb, (h.grown.andThen hgrow fun j e => .inl ?_).andThen hs fun j e => .inl ?_⟩
  · match j, h0 with
    | 0, h0 => exact absurd rfl h0
    | j + 1, _ => rfl
  · have := (h.row i hi).2
    exact ((h.row i hi).1.grown hgrow (own_ne_row h.fr (h.row i hi).1 (by decide))).grown hs (by simp; omega)
  · have := (h.fr.lt j e).1; have := h.hb; omega
  · cases e; exact h.hb
theorem NewSt.stepB {w X w1 : World} {b kF k Z c : Nat} {fc : Nat → List Value} {f : Nat → Fr} {g cg : Nat → Nat} {vF vB v' : Value} (h : NewSt w X b kF k fc f g cg vF vB) (hZ : Row X Z 5 256 (byt (f k))) (hbZ : b < Z) (hZg : ∀ i, i < k → g i ≠ Z) (hc : 256 ≤ c)
    (hgrow : X.grownBy w1 vB.ownBlock) (hown : w1.ownsRow (b + 1) 22 1 v' (k + 1) (sls g cg k ++ [.slice (some ⟨Z, 0, none⟩) 256 c])) :
    NewSt w (w1.setCell ⟨b, 1, none⟩ v') b kF (k + 1) fc f (fun j => if j = k then Z else g j) (fun j => if j = k then c else cg j) vF v' := by
  have h1 := h.top.grown hgrow (own_ne_row h.bs h.top (by decide))
  have hF := h.fr.kept hgrow (own_ne_own h.fr h.bs (by decide))
  have hs := grownBy_setCell w1 b 1 none v'
  have hrow : ∀ x f', Row X x 5 256 (byt f') → b < x → Row (w1.setCell ⟨b, 1, none⟩ v') x 5 256 (byt f') := fun x f' hx hbx => (hx.grown hgrow (own_ne_row h.bs hx (by decide))).grown hs (by simp; omega)
  refine ⟨h1.set rfl fun j hj h0 => ?_, hF.kept hs (own_ne hF (by omega)), by rw [sls_succ]; exact hown.kept hs (own_ne hown (by omega)), fun i hi => ?_, fun i hi => ?_, fun i j hi hj e => ?_, h.hb, (h.grown.andThen hgrow fun j e => .inl ?_).andThen hs fun j e => .inl ?_⟩
  · match j, hj, h0 with
    | 0, _, _ => rfl
    | 1, _, h0 => exact absurd rfl h0
  · split
    · rename_i e; subst e; exact ⟨hrow _ _ hZ hbZ, hbZ⟩
    · exact ⟨hrow _ _ (h.row i (by omega)).1 (h.row i (by omega)).2, (h.row i (by omega)).2⟩
  · split
    · exact hc
    · exact h.cap i (by omega)
  · split at e
    · split at e
      · omega
      · exact absurd e.symm (hZg j (by omega))
    · split at e
      · exact absurd e (hZg i (by omega))
      · exact h.inj i j (by omega) (by omega) e
  · have := (h.bs.lt j e).1; have := h.hb; omega
  · cases e; exact h.hb
/-- done: a machine -/
def NewRef (w : World) (M : Mach) (v : Value) (w' : World) : Prop := ∃ b L, v = .pointer (some ⟨b, 0, none⟩) ∧ RM w' b M L ∧ w.grownBy w' none ∧ ∀ k, L.foot b k → w.heap.size ≤ k
theorem NewSt.done {w W : World} {b n : Nat} {fc : Nat → List Value} {M : Mach} {g cg : Nat → Nat} {vF vB : Value} (h : NewSt w W b (n + 1) (n + 1) fc M.fr g cg vF vB) (hn : M.n = ((n + 1 : Nat) : Int)) (hfc : ∀ k, k < (n + 1) * 4 → (fc (n + 1)).getD k undef = hd M k) :
    NewRef w M (.pointer (some ⟨b, 0, none⟩)) W := by
  obtain ⟨fF, cF, rfl, hbF, hF⟩ := ownsRow_row h.fr
  obtain ⟨fB, cB, rfl, hbB, hB⟩ := ownsRow_row h.bs
  refine ⟨b, ⟨n + 1, fF, cF, fB, cB, g, cg⟩, rfl, ⟨hn, h.top.congr fun k hk => ?_, hF.congr fun k hk => (hfc k hk).symm, ?_, fun i hi => (h.row i hi).1, h.cap, h.inj⟩, h.grown, fun k hk => ?_⟩
  · match k, hk with
    | 0, _ => rfl
    | 1, _ => rfl
  · rw [Nat.mul_one] at hB
    exact hB.congr fun k hk => by simp [bslice, sls, List.getD, hk]
  · have := h.hb
    rcases hk with rfl | rfl | rfl | ⟨i, hi, rfl⟩
    · exact h.hb
    · omega
    · omega
    · have := (h.row i hi).2; show w.heap.size ≤ g i; omega

end Go.Proofs.YtnplkifohocekaaDoor
