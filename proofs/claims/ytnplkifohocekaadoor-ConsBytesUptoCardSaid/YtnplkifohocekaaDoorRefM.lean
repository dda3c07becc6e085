/-
  Plain facts on memory: the machine of package tenementref01 as blocks of cells. No walk here.
-/
import Derived.Test.YtnplkifohocekaaDoorPhysK
set_option linter.unusedSimpArgs false
set_option linter.unusedVariables false
namespace Go.Proofs.YtnplkifohocekaaDoor
open Go.RowKit

/-- between w and w' only blocks of S changed; there may be new ones -/
structure Chg (S : Nat → Prop) (w w' : World) : Prop where
  os : w'.os = w.os
  tape : w'.tape = w.tape
  output : w'.output = w.output
  size : w.heap.size ≤ w'.heap.size
  block : ∀ k, k < w.heap.size → ¬ S k → w'.heap[k]? = w.heap[k]?
theorem Chg.refl (S : Nat → Prop) (w : World) : Chg S w w := ⟨rfl, rfl, rfl, Nat.le_refl _, fun _ _ _ => rfl⟩
theorem Chg.trans {S S' : Nat → Prop} {w w1 w2 : World} (h : Chg S w w1) (k : Chg S' w1 w2) (hs : ∀ k, S' k → S k ∨ w.heap.size ≤ k) : Chg S w w2 :=
  ⟨k.os.trans h.os, k.tape.trans h.tape, k.output.trans h.output, Nat.le_trans h.size k.size, fun q hq hS =>
    (k.block q (Nat.lt_of_lt_of_le hq h.size) (fun h' => (hs q h').elim hS (by omega))).trans (h.block q hq hS)⟩
theorem Chg.of {S : Nat → Prop} {w w' : World} {row : Option Nat} (h : w.grownBy w' row) (hs : ∀ j, row = some j → S j ∨ w.heap.size ≤ j) : Chg S w w' :=
  ⟨h.os, h.tape, h.output, h.size, fun q hq hS => h.block q hq fun e => (hs q e.symm).elim hS (by omega)⟩
theorem Chg.of0 {S : Nat → Prop} {w w' : World} (h : w.grownBy w' none) : Chg S w w' := Chg.of h (by simp)
theorem Chg.grown {S : Nat → Prop} {w0 w w' : World} (h : Chg S w w') (hg : w0.grownBy w none) (hs : ∀ k, S k → w0.heap.size ≤ k) : w0.grownBy w' none :=
  ⟨h.os.trans hg.os, h.tape.trans hg.tape, h.output.trans hg.output, Nat.le_trans hg.size h.size, fun k hk _ =>
    (h.block k (Nat.lt_of_lt_of_le hk hg.size) (fun h' => by have := hs k h'; omega)).trans (hg.block k hk (by simp))⟩
theorem Chg.cell {S : Nat → Prop} {w w' : World} (h : Chg S w w') {a : Addr} {v : Value} (hc : w.cell? a = some v) (hb : ¬ S a.block) : w'.cell? a = some v :=
  (World.cell?_of_block (h.block a.block (World.block_lt_of_cell? w a hc) hb)).trans hc
theorem Chg.mono {S S' : Nat → Prop} {w w' : World} (h : Chg S w w') (hs : ∀ k, S k → S' k) : Chg S' w w' := ⟨h.os, h.tape, h.output, h.size, fun k hk hS => h.block k hk fun h' => hS (hs k h')⟩
theorem PM.chg {S : Nat → Prop} {w w' : World} {b : Nat} {M : Mach} (h : PM w b M) (hc : Chg S w w') (hb : ¬ S b) : PM w' b M := (hc.block b h.lt hb).trans h

/-- block g begins with the cells X 0 .. X (N - 1) -/
def Row (w : World) (g : Nat) (t : TypeId) (N : Nat) (X : Nat → Value) : Prop := ∃ cur, w.heap[g]? = some (.cells cur t (0, 0)) ∧ N ≤ cur.size ∧ ∀ k, k < N → cur[k]? = some (X k)
theorem Row.lt {w : World} {g : Nat} {t : TypeId} {N : Nat} {X : Nat → Value} (h : Row w g t N X) : g < w.heap.size := by
  obtain ⟨cur, h, _⟩ := h; exact (Array.getElem?_eq_some_iff.1 h).1
theorem Row.cell {w : World} {g : Nat} {t : TypeId} {N : Nat} {X : Nat → Value} (h : Row w g t N X) {k : Nat} (hk : k < N) : w.cell? ⟨g, k, none⟩ = some (X k) := by
  obtain ⟨cur, h, _, hc⟩ := h
  rw [cell_of_row w g k _ _ _ h, hc k hk]
theorem Row.frozen {w : World} {g : Nat} {t : TypeId} {N : Nat} {X : Nat → Value} (h : Row w g t N X) (k : Nat) : w.frozen? ⟨g, k, none⟩ = false := by
  obtain ⟨cur, h, _⟩ := h; exact frozen_of_row w g k _ _ h
theorem Row.same {w w' : World} {g : Nat} {t : TypeId} {N : Nat} {X : Nat → Value} (h : Row w g t N X) (hb : w'.heap[g]? = w.heap[g]?) : Row w' g t N X := by
  obtain ⟨cur, h, r⟩ := h; exact ⟨cur, hb.trans h, r⟩
theorem Row.chg {S : Nat → Prop} {w w' : World} {g : Nat} {t : TypeId} {N : Nat} {X : Nat → Value} (h : Row w g t N X) (hc : Chg S w w') (hb : ¬ S g) : Row w' g t N X := h.same (hc.block g h.lt hb)
theorem Row.grown {w w' : World} {g : Nat} {t : TypeId} {N : Nat} {X : Nat → Value} {row : Option Nat} (h : Row w g t N X) (hg : w.grownBy w' row) (hr : some g ≠ row) : Row w' g t N X := h.same (hg.block g h.lt hr)
theorem Row.alloc {w : World} {g : Nat} {t : TypeId} {N : Nat} {X : Nat → Value} (h : Row w g t N X) (o : Obj) : Row (w.alloc o) g t N X := h.grown (World.grownBy_alloc w o none) (by simp)
theorem Row.setOther {w : World} {g : Nat} {t : TypeId} {N : Nat} {X : Nat → Value} (h : Row w g t N X) (a : Addr) (hne : g ≠ a.block) (v : Value) : Row (w.setCell a v) g t N X := h.same (heap_setCell_other w a g v hne)
theorem Row.set {w : World} {g : Nat} {t : TypeId} {N : Nat} {X : Nat → Value} (h : Row w g t N X) {k : Nat} {v : Value} {X' : Nat → Value} (hv : X' k = v) (ho : ∀ j, j < N → j ≠ k → X' j = X j) : Row (w.setCell ⟨g, k, none⟩ v) g t N X' := by
  obtain ⟨cur, h, hn, hc⟩ := h
  refine ⟨_, heap_setCell_same w g k cur _ v h, by simpa using hn, fun j hj => ?_⟩
  rw [Array.getElem?_setIfInBounds]
  by_cases hjk : k = j
  · subst hjk
    rw [if_pos rfl, if_pos (by omega), hv]
  · rw [if_neg hjk, hc j hj, ho j hj (fun e => hjk e.symm)]
theorem Row.congr {w : World} {g : Nat} {t : TypeId} {N : Nat} {X X' : Nat → Value} (h : Row w g t N X) (he : ∀ k, k < N → X' k = X k) : Row w g t N X' := by
  obtain ⟨cur, h, hn, hc⟩ := h
  exact ⟨cur, h, hn, fun k hk => by rw [hc k hk, he k hk]⟩
theorem Row.type_ne {w : World} {g g' : Nat} {t t' : TypeId} {N N' : Nat} {X X' : Nat → Value} (h : Row w g t N X) (h' : Row w g' t' N' X') (ht : t ≠ t') : g ≠ g' := by
  rintro rfl
  obtain ⟨c, h, _⟩ := h
  obtain ⟨c', h', _⟩ := h'
  rw [h] at h'; cases h'; exact ht rfl
theorem Row.pm_ne {w : World} {g b : Nat} {t : TypeId} {N : Nat} {X : Nat → Value} {M : Mach} (h : Row w g t N X) (h' : PM w b M) (ht : t ≠ 128) : b ≠ g := by
  rintro rfl
  obtain ⟨c, h, _⟩ := h
  rw [show w.heap[b]? = _ from h'] at h; cases h; exact ht rfl

/-- where the ref machine's rows lie -/
structure Lay where
  n : Nat
  fF : Nat
  cF : Nat
  fB : Nat
  cB : Nat
  g : Nat → Nat
  cg : Nat → Nat
def Lay.top (L : Lay) : Nat → Value
  | 0 => .slice (some ⟨L.fF, 0, none⟩) L.n L.cF
  | _ => .slice (some ⟨L.fB, 0, none⟩) L.n L.cB
def hd (M : Mach) (q : Nat) : Value := (M.fr (q / 4)).cell (q % 4)
def bslice (L : Lay) (i : Nat) : Value := .slice (some ⟨L.g i, 0, none⟩) 256 (L.cg i)
def byt (f : Fr) (k : Nat) : Value := .int .u8 (f.bs k).toNat
def Lay.foot (L : Lay) (b : Nat) (k : Nat) : Prop := k = b ∨ k = L.fF ∨ k = L.fB ∨ ∃ i, i < L.n ∧ k = L.g i
/-- Block b is a machine of package tenementref01 that is M. -/
structure RM (w : World) (b : Nat) (M : Mach) (L : Lay) : Prop where
  hn : M.n = L.n
  top : Row w b 55 2 L.top
  fr : Row w L.fF 112 (L.n * 4) (hd M)
  bs : Row w L.fB 22 L.n (bslice L)
  row : ∀ i, i < L.n → Row w (L.g i) 5 256 (byt (M.fr i))
  cap : ∀ i, i < L.n → 256 ≤ L.cg i
  inj : ∀ i j, i < L.n → j < L.n → L.g i = L.g j → i = j

theorem RM.chg {S : Nat → Prop} {w w' : World} {b : Nat} {M : Mach} {L : Lay} (h : RM w b M L) (hc : Chg S w w') (hS : ∀ k, L.foot b k → ¬ S k) : RM w' b M L :=
  ⟨h.hn, h.top.chg hc (hS _ (.inl rfl)), h.fr.chg hc (hS _ (.inr (.inl rfl))), h.bs.chg hc (hS _ (.inr (.inr (.inl rfl)))), fun i hi => (h.row i hi).chg hc (hS _ (.inr (.inr (.inr ⟨i, hi, rfl⟩)))), h.cap, h.inj⟩
theorem RM.off {w : World} {b B : Nat} {M M' : Mach} {L : Lay} (h : RM w b M L) (hM : PM w B M') : ¬ L.foot b B := by
  rintro (e | e | e | ⟨i, hi, e⟩)
  · exact h.top.pm_ne hM (by decide) e
  · exact h.fr.pm_ne hM (by decide) e
  · exact h.bs.pm_ne hM (by decide) e
  · exact (h.row i hi).pm_ne hM (by decide) e
theorem RM.lt {w : World} {b : Nat} {M : Mach} {L : Lay} (h : RM w b M L) {k : Nat} (hk : L.foot b k) : k < w.heap.size := by
  rcases hk with rfl | rfl | rfl | ⟨i, hi, rfl⟩
  · exact h.top.lt
  · exact h.fr.lt
  · exact h.bs.lt
  · exact (h.row i hi).lt
/-- calls of the one machine leave the other -/
theorem RM.keep {w w' : World} {b B : Nat} {M M' : Mach} {L : Lay} (h : RM w b M L) (hM : PM w B M') (hg : w.grownBy w' (some B)) : RM w' b M L :=
  h.chg (S := fun k => k = B) (Chg.of hg fun j e => .inl (Option.some.inj e).symm) fun k hk e => h.off hM (e ▸ hk)
theorem RM.grown {w w' : World} {b : Nat} {M : Mach} {L : Lay} (h : RM w b M L) (hg : w.grownBy w' none) : RM w' b M L := h.chg (S := fun _ => False) (Chg.of0 hg) fun _ _ e => e
theorem RM.slF {w : World} {b : Nat} {M : Mach} {L : Lay} (h : RM w b M L) : w.cell? ⟨b, 0, none⟩ = some (.slice (some ⟨L.fF, 0, none⟩) L.n L.cF) := h.top.cell (k := 0) (by omega)
theorem RM.slB {w : World} {b : Nat} {M : Mach} {L : Lay} (h : RM w b M L) : w.cell? ⟨b, 1, none⟩ = some (.slice (some ⟨L.fB, 0, none⟩) L.n L.cB) := h.top.cell (k := 1) (by omega)
theorem RM.hd {w : World} {b : Nat} {M : Mach} {L : Lay} (h : RM w b M L) {i r : Nat} (hi : i < L.n) (hr : r < 4) : w.cell? ⟨L.fF, i * 4 + r, none⟩ = some ((M.fr i).cell r) := by
  rw [h.fr.cell (by omega)]
  unfold Go.Proofs.YtnplkifohocekaaDoor.hd
  rw [show (i * 4 + r) / 4 = i by omega, show (i * 4 + r) % 4 = r by omega]
theorem RM.owner {w : World} {b : Nat} {M : Mach} {L : Lay} (h : RM w b M L) {i : Nat} (hi : i < L.n) : w.cell? ⟨L.fF, i * 4, none⟩ = some (.int .i64 (M.fr i).owner) := h.hd (r := 0) hi (by omega)
theorem RM.ty {w : World} {b : Nat} {M : Mach} {L : Lay} (h : RM w b M L) {i : Nat} (hi : i < L.n) : w.cell? ⟨L.fF, i * 4 + 1, none⟩ = some (.int .i64 (M.fr i).ty) := h.hd (r := 1) hi (by omega)
theorem RM.cnt {w : World} {b : Nat} {M : Mach} {L : Lay} (h : RM w b M L) {i : Nat} (hi : i < L.n) : w.cell? ⟨L.fF, i * 4 + 2, none⟩ = some (.int .i64 (M.fr i).cnt) := h.hd (r := 2) hi (by omega)
theorem RM.tot {w : World} {b : Nat} {M : Mach} {L : Lay} (h : RM w b M L) {i : Nat} (hi : i < L.n) : w.cell? ⟨L.fF, i * 4 + 3, none⟩ = some (.int .i64 (M.fr i).tot) := h.hd (r := 3) hi (by omega)
theorem RM.sl {w : World} {b : Nat} {M : Mach} {L : Lay} (h : RM w b M L) {i : Nat} (hi : i < L.n) : w.cell? ⟨L.fB, i, none⟩ = some (.slice (some ⟨L.g i, 0, none⟩) 256 (L.cg i)) := h.bs.cell hi
theorem RM.byte {w : World} {b : Nat} {M : Mach} {L : Lay} (h : RM w b M L) {i k : Nat} (hi : i < L.n) (hk : k < 256) : w.cell? ⟨L.g i, k, none⟩ = some (.int .u8 ((M.fr i).bs k).toNat) := (h.row i hi).cell hk
theorem hd_upd (M : Mach) (i : Nat) (f : Fr) (q : Nat) : hd (M.upd i f) q = if q / 4 = i then f.cell (q % 4) else hd M q := by
  unfold hd Mach.upd
  simp only
  split <;> rfl
/-- a frame's number is turned -/
theorem RM.setHd {w : World} {b : Nat} {M : Mach} {L : Lay} (h : RM w b M L) {i r : Nat} (hi : i < L.n) (hr : r < 4) {v : Value} {f : Fr} (hv : f.cell r = v) (ho : ∀ q, q < 4 → q ≠ r → f.cell q = (M.fr i).cell q) (hb : f.bs = (M.fr i).bs) :
    RM (w.setCell ⟨L.fF, i * 4 + r, none⟩ v) b (M.upd i f) L := by
  refine ⟨h.hn, h.top.setOther _ (h.top.type_ne h.fr (by decide)) _, h.fr.set ?_ ?_, h.bs.setOther _ (h.bs.type_ne h.fr (by decide)) _, fun j hj => ?_, h.cap, h.inj⟩
  · rw [hd_upd, if_pos (by omega), show (i * 4 + r) % 4 = r by omega, hv]
  · intro j hj hjk
    rw [hd_upd]
    split
    · rename_i e
      rw [ho _ (by omega) (by omega)]
      unfold Go.Proofs.YtnplkifohocekaaDoor.hd
      rw [e]
    · rfl
  · refine ((h.row j hj).setOther _ ((h.row j hj).type_ne h.fr (by decide)) _).congr fun k _ => ?_
    unfold byt Mach.upd
    simp only
    split
    · rename_i e; subst e; rw [hb]
    · rfl
theorem RM.setOwner {w : World} {b : Nat} {M : Mach} {L : Lay} (h : RM w b M L) {i : Nat} (hi : i < L.n) (x : Int) : RM (w.setCell ⟨L.fF, i * 4, none⟩ (.int .i64 x)) b (M.upd i { M.fr i with owner := x }) L :=
  h.setHd (r := 0) hi (by omega) rfl (fun q _ hq => by match q, hq with | 0, h => exact absurd rfl h | 1, _ => rfl | 2, _ => rfl | 3, _ => rfl | k + 4, _ => rfl) rfl
/-- a byte is turned -/
theorem RM.setByte {w : World} {b : Nat} {M : Mach} {L : Lay} (h : RM w b M L) {i k : Nat} (hi : i < L.n) {x : UInt8} {f : Fr} (hk : f.bs k = x) (ho : ∀ j, j < 256 → j ≠ k → f.bs j = (M.fr i).bs j) (hh : ∀ q, q < 4 → f.cell q = (M.fr i).cell q) :
    RM (w.setCell ⟨L.g i, k, none⟩ (.int .u8 x.toNat)) b (M.upd i f) L := by
  refine ⟨h.hn, h.top.setOther _ (h.top.type_ne (h.row i hi) (by decide)) _, (h.fr.setOther _ (h.fr.type_ne (h.row i hi) (by decide)) _).congr fun q hq => ?_, h.bs.setOther _ (h.bs.type_ne (h.row i hi) (by decide)) _, fun j hj => ?_, h.cap, h.inj⟩
  · rw [hd_upd]
    split
    · rename_i e
      rw [hh _ (by omega)]
      unfold Go.Proofs.YtnplkifohocekaaDoor.hd
      rw [e]
    · rfl
  · by_cases e : j = i
    · subst e
      refine (h.row j hj).set ?_ ?_
      · unfold byt; rw [Mach.upd_same, hk]
      · intro q hq hqk; unfold byt; rw [Mach.upd_same, ho q hq hqk]
    · rw [Mach.upd_other _ _ _ _ e]
      exact (h.row j hj).setOther _ (fun e' => e (h.inj j i hj hi e')) _
/-- a frame's bytes are laid anew -/
theorem RM.setRow {w : World} {b : Nat} {M : Mach} {L : Lay} (h : RM w b M L) {i : Nat} (hi : i < L.n) {f : Fr} {G c : Nat} (hc : 256 ≤ c) (hrow : Row w G 5 256 (byt f)) (hG : ∀ j, j < L.n → L.g j ≠ G) (hh : ∀ q, q < 4 → f.cell q = (M.fr i).cell q) :
    RM (w.setCell ⟨L.fB, i, none⟩ (.slice (some ⟨G, 0, none⟩) 256 c)) b (M.upd i f) { L with g := fun j => if j = i then G else L.g j, cg := fun j => if j = i then c else L.cg j } := by
  refine ⟨h.hn, h.top.setOther _ (h.top.type_ne h.bs (by decide)) _, (h.fr.setOther _ (h.fr.type_ne h.bs (by decide)) _).congr fun q hq => ?_, h.bs.set ?_ ?_, fun j hj => ?_, fun j hj => ?_, fun j k hj hk e => ?_⟩
  · rw [hd_upd]
    split
    · rename_i e
      rw [hh _ (by omega)]
      unfold Go.Proofs.YtnplkifohocekaaDoor.hd
      rw [e]
    · rfl
  · unfold bslice; simp
  · intro j hj e; unfold bslice; simp [e]
  · by_cases e : j = i
    · subst e
      simp only [if_true]
      rw [Mach.upd_same]
      exact hrow.setOther _ (hrow.type_ne h.bs (by decide)) _
    · simp only [e, if_false]
      rw [Mach.upd_other _ _ _ _ e]
      exact (h.row j hj).setOther _ ((h.row j hj).type_ne h.bs (by decide)) _
  · simp only; split
    · exact hc
    · exact h.cap j hj
  · simp only at e
    split at e
    · split at e
      · omega
      · exact absurd e.symm (hG k hk)
    · split at e
      · exact absurd e (hG j hj)
      · exact h.inj j k hj hk e
end Go.Proofs.YtnplkifohocekaaDoor
