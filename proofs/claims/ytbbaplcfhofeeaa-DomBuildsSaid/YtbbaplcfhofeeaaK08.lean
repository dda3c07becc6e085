/-
  Contracts of package phys at a machine that nobody made.
-/
import Derived.Test.YtbbaplcfhofeeaaK07
import Derived.OpenShut
import Derived.Test.YtbbaplcfhofeeaaK01
import Derived.Test.YtbbaplcfhofeeaaK03
import Derived.ScopeJumps
import Derived.Laws.EntriesVeiled
import Derived.Maps.RangeWalk
import Derived.ProofKit
import Derived.Deep.QuietTactic
import Derived.BigQuiet
set_option linter.unusedSimpArgs false
set_option linter.unusedVariables false
namespace Go.Proofs.Ytbbaplcfhofeeaa
open Go.RowKit Go.Shelf
attribute [local go_sem] Oper.semAt_some
set_option maxHeartbeats 400000

theorem Frame_zero (b : Nat) (i : Int) (w : World) (h : w.cell? ⟨b, 0, none⟩ = some (.int .i64 0)) :
    Calls Try.prog 60 #[.pointer (some ⟨b, 0, none⟩), .int .i64 i] w fun e w' => e = .returned (.tuple #[.agg #[.int .i64 0, .int .i64 0, .int .i64 0, .int .i64 0], .int .i64 7]) ∧ w.grownBy w' none := by
  go_enter Try.func60, Try.ntmps60
  go_wp2_with (go_at_call 39; refine (at_zero _ _ _ ((World.grownBy_alloc w _ none).cell h (by simp))).mono ?_; rintro e w' ⟨rfl, rfl⟩)
  go_returns
  exact ⟨rfl, World.grownBy_alloc _ _ _⟩
theorem Free_zero (b : Nat) (i : Int) (w : World) (h : w.cell? ⟨b, 0, none⟩ = some (.int .i64 0)) :
    Calls Try.prog 28 #[.pointer (some ⟨b, 0, none⟩), .int .i64 i] w fun e w' => e = .returned (.int .i64 7) ∧ w = w' := by
  go_enter Try.func28, Try.ntmps28
  go_wp2_with (go_at_call 39; refine (at_zero _ _ _ h).mono ?_; rintro e w' ⟨rfl, rfl⟩)
  go_ret
  exact ⟨rfl, rfl⟩
theorem Get_zero (b : Nat) (i o k : Int) (w : World) (h : w.cell? ⟨b, 0, none⟩ = some (.int .i64 0)) :
    Calls Try.prog 46 #[.pointer (some ⟨b, 0, none⟩), .int .i64 i, .int .i64 o, .int .i64 k] w fun e w' => e = .returned (.int .i64 7) ∧ w = w' := by
  go_enter Try.func46, Try.ntmps46
  go_wp2_with (go_at_call 39; refine (at_zero _ _ _ h).mono ?_; rintro e w' ⟨rfl, rfl⟩)
  go_ret
  exact ⟨rfl, rfl⟩
theorem Put_nil (i k : Int) (w : World) :
    Calls Try.prog 38 #[.pointer none, .int .i64 i, .int .i64 k] w fun e w' => e = .returned (.int .i64 7) ∧ w = w' := by
  go_enter Try.func38, Try.ntmps38
  go_wp2_with (go_at_call 39; refine (at_nil _ _).mono ?_; rintro e w' ⟨rfl, rfl⟩)
  go_ret
  exact ⟨rfl, rfl⟩
theorem Read_nil (i off n : Int) (w : World) :
    Calls Try.prog 73 #[.pointer none, .int .i64 i, .int .i64 off, .int .i64 n] w fun e w' => e = .returned (.tuple #[.slice none 0 0, .int .i64 7]) ∧ w = w' := by
  go_enter Try.func73, Try.ntmps73
  go_wp2_with (go_at_call 39; refine (at_nil _ _).mono ?_; rintro e w' ⟨rfl, rfl⟩)
  go_ret2
  exact ⟨rfl, rfl⟩
theorem Write_zero (b : Nat) (i off : Int) (w : World) (h : w.cell? ⟨b, 0, none⟩ = some (.int .i64 0)) :
    Calls Try.prog 44 #[.pointer (some ⟨b, 0, none⟩), .int .i64 i, .int .i64 off, .slice none 0 0] w fun e w' => e = .returned (.int .i64 7) ∧ w = w' := by
  go_enter Try.func44, Try.ntmps44
  go_wp2_with (go_at_call 39; refine (at_zero _ _ _ h).mono ?_; rintro e w' ⟨rfl, rfl⟩)
  go_ret
  exact ⟨rfl, rfl⟩

/-- the iterator of no machine -/
theorem owned_stops0 (n : Nat) (hn : 3 ≤ n) (p : Option Addr) (B1 B2 : Nat) (fr : Nat → Fr) (o : Int) (w : World)
    (h1 : w.heap[B1]? = some (.cells #[.pointer p] 27 (0, 0))) (hS : ∀ W, Below w.heap.size w W → Calls Try.prog 24 #[.pointer p] W fun e w' => e = .returned (.int .i64 0) ∧ W = w') :
    SeqStopsK Fence.wide n Try.prog 25 #[.pointer (some ⟨B1, 0, none⟩), .pointer (some ⟨B2, 0, none⟩)] (fun x : OwnFr ⟨0, fr⟩ o => #[.int .i64 x.1]) (Kp3 B1 B1 B2)
      (fun xs => ownVals xs = Mach.ownedL ⟨0, fr⟩ o) (fun pre => ownVals pre <+: Mach.ownedL ⟨0, fr⟩ o) (Mach.ownedL ⟨0, fr⟩ o).length w := fun l J Jx W hW hJ hJx hY h0 => by
  have hB1 : W.heap[B1]? = some (.cells #[.pointer p] 27 (0, 0)) := (hW.block B1 (Array.getElem?_eq_some_iff.1 h1).1).trans h1
  have c1 : W.cell? ⟨B1, 0, none⟩ = some (.pointer p) := cell_of_row W B1 0 _ _ _ hB1
  have HS := hid (hS W hW)
  clear hS hY hJ hJx
  have hd : 1 ≤ n - 1 := by omega
  refine callsIn_of_wp Try.func25 rfl trivial ?_ rfl
  simp only [Try.ntmps25, List.size_toArray, List.length_cons, List.length_nil, Nat.reduceAdd, Nat.reduceSub, Array.replicate_succ, Array.replicate_zero, List.push_toArray, List.append_toArray, List.nil_append, List.cons_append]
  gi_wp2_with (refine ⟨trivial, fun _ => (by omega), ?_⟩; gi_at_call 24; refine (callsIn_wide.2 HS.out).mono ?_; rintro e w' ⟨rfl, rfl⟩)
  gi_loopw [7] (fun i wr => i = .int .i64 0 ∧ J [] wr) (fun _ _ => 0)
  case atStart => exact ⟨rfl, h0⟩
  case round =>
    obtain ⟨rfl, hJ⟩ := hrel
    gi_wp2
    go_end0
    exact ⟨⟨_, rfl⟩, .inl ⟨[], rfl, hJ⟩⟩
theorem nil_stops (fr : Nat → Fr) (w : World) : Stops none ⟨0, fr⟩ w := fun n B1 B2 o w1 hn _ _ h1 _ =>
  ⟨B1, .inr rfl, owned_stops0 n hn none B1 B2 fr o w1 h1 (fun W _ => Size_nil W)⟩
theorem zero_stops (b : Nat) (fr : Nat → Fr) (w : World) (h : w.cell? ⟨b, 0, none⟩ = some (.int .i64 0)) : Stops (some ⟨b, 0, none⟩) ⟨0, fr⟩ w := fun n B1 B2 o w1 hn _ hg h1 _ =>
  ⟨B1, .inr rfl, owned_stops0 n hn _ B1 B2 fr o w1 h1 (fun W hW => Size_zero b W (by
    have hb := World.block_lt_of_cell? w _ h
    rw [hW.cell (p := ⟨b, 0, none⟩) (Nat.lt_of_lt_of_le hb hg.size)]
    exact hg.cell h (by simp)))⟩

theorem Left_zero (b : Nat) (w : World) (h : w.cell? ⟨b, 0, none⟩ = some (.int .i64 0)) : Calls Try.prog 6 #[.pointer (some ⟨b, 0, none⟩)] w fun e w' => e = .returned (.int .i64 0) ∧ w.grownBy w' none :=
  Left_any _ ⟨0, fun _ => zeroFr⟩ w (zero_stops b _ w h) (by decide)
theorem Owned_nil (o : Int) (w : World) : Calls Try.prog 19 #[.pointer none, .int .i64 o] w fun e w' => e = .returned (.slice none 0 0) ∧ w.grownBy w' none := by
  refine (Owned_any none ⟨0, fun _ => zeroFr⟩ o w (nil_stops _ w) (by decide)).mono ?_
  rintro e w' ⟨v, rfl, -, hn, hg⟩
  rw [hn.2 rfl]
  exact ⟨rfl, hg⟩

end Go.Proofs.Ytbbaplcfhofeeaa

/-
  Bytes that came in, new bytes. No walk here.
-/
set_option linter.unusedSimpArgs false
set_option linter.unusedVariables false
namespace Go.Proofs.Ytbbaplcfhofeeaa
open Go.RowKit
set_option maxHeartbeats 400000

theorem bcells_at {w : World} {g : Nat} {l : List UInt8} {fr : Nat × Nat} (h : w.heap[g]? = some (.cells (bcells l).toArray 5 fr)) (k : Nat) (hk : k < l.length) :
    w.cell? ⟨g, k, none⟩ = some (.int .u8 (l.getD k 0).toNat) := by
  rw [cell_of_row w g k _ _ _ h, List.getElem?_toArray, bcells_get, List.getElem?_eq_getElem hk]
  simp [List.getD, List.getElem?_eq_getElem hk]
theorem part_len (f : Fr) (o n : Nat) : (f.part o n).length = n := by simp [Fr.part]
theorem part_get (f : Fr) (o n k : Nat) (h : k < n) : (f.part o n).getD k 0 = f.bs (o + k) := by
  simp [Fr.part, List.getD, h]
/-- what New bytes are, where there is one at least -/
theorem newBytes_pos {w w' : World} {l : List UInt8} {v : Value} (h : NewBytes w l v w') (hl : 0 < l.length) :
    ∃ b, v = .slice (some ⟨b, 0, none⟩) l.length l.length ∧ w.heap.size ≤ b ∧ (∀ k, k < l.length → w'.cell? ⟨b, k, none⟩ = some (.int .u8 (l.getD k 0).toNat)) ∧ w.grownBy w' none := by
  rcases h with ⟨_, rfl, _⟩ | ⟨b, hv, hb, hr, hg⟩
  · simp at hl
  · exact ⟨b, hv, hb, fun k hk => bcells_at hr k hk, hg⟩
theorem sizedPart (f : Fr) : (f.part 0 256).length = 256 := part_len _ _ _

/-- bytes that came in -/
def InBytes (w : World) (pa : Option Addr) (l : List UInt8) : Prop :=
  l = [] ∨ ∃ b o, pa = some ⟨b, o, none⟩ ∧ b < w.heap.size ∧ ∀ k, k < l.length → w.cell? ⟨b, o + k, none⟩ = some (.int .u8 (l.getD k 0).toNat)
theorem InBytes.is {w : World} {pa : Option Addr} {cap : Nat} {l : List UInt8} (h : InBytes w pa l) (B : Nat) (hB : w.heap.size ≤ B) : IsBytes w B (.slice pa l.length cap) l := by
  rcases h with rfl | ⟨b, o, rfl, hb, hc⟩
  · exact .inl ⟨⟨_, _, rfl⟩, rfl⟩
  · refine .inr ⟨_, _, rfl, by simp; omega, fun k x hx => ?_⟩
    obtain ⟨hk, rfl⟩ := List.getElem?_eq_some_iff.1 hx
    have e : (⟨b, o, none⟩ : Addr).add k = ⟨b, o + k, none⟩ := by unfold Addr.add; split <;> simp_all
    rw [e, hc k hk]
    simp [List.getD, List.getElem?_eq_getElem hk]
theorem InBytes.at {w : World} {pa : Option Addr} {l : List UInt8} (h : InBytes w pa l) {k : Nat} (hk : k < l.length) : ∃ b o, pa = some ⟨b, o, none⟩ ∧ w.cell? ⟨b, o + k, none⟩ = some (.int .u8 (l.getD k 0).toNat) := by
  rcases h with rfl | ⟨b, o, rfl, hb, hc⟩
  · simp at hk
  · exact ⟨b, o, rfl, hc k hk⟩
/-- bytes that came in, opened -/
def asBytes (zs : List Int) (n : Nat) : List UInt8 := (zs.take n).map fun z => UInt8.ofNat z.toNat
theorem asBytes_len (zs : List Int) (n : Nat) (h : n ≤ zs.length) : (asBytes zs n).length = n := by simp [asBytes]; omega
theorem asBytes_in {w : World} {x : Addr} {zs : List Int} {len : Nat} (hl : len ≤ zs.length) (hcell : ∀ i, i < zs.length → w.cell? (x.add i) = some (.int .u8 (zs.getD i 0))) (hwz : ∀ n ∈ zs, (Lit.int .u8 n).wf = true) :
    InBytes w (some x) (asBytes zs len) := by
  by_cases hpos : len = 0
  · subst hpos; exact .inl rfl
  obtain ⟨b, o, s⟩ := x
  have h0 := hcell 0 (by omega)
  obtain rfl : s = none := by simpa [Addr.add] using World.cell?_spot h0
  refine .inr ⟨b, o, rfl, World.block_lt_of_cell? w _ h0, fun k hk => ?_⟩
  rw [asBytes_len _ _ hl] at hk
  have hc := hcell k (by omega)
  have e : (⟨b, o, none⟩ : Addr).add k = ⟨b, o + k, none⟩ := by unfold Addr.add; split <;> simp_all
  rw [e] at hc
  rw [hc]
  have hkz : k < zs.length := by omega
  have hb := bounds_u8 (hwz zs[k] (List.getElem_mem hkz))
  simp [asBytes, List.getD, hkz, hk]
  omega

theorem SameBut.refl (base B : Nat) (w : World) : SameBut base B w w := ⟨rfl, rfl, rfl, Nat.le_refl _, fun _ _ _ _ => rfl⟩
theorem SameBut.grow {base B : Nat} {w W W' : World} {row : Option Nat} (h : SameBut base B w W) (hg : W.grownBy W' row) (hr : ∀ j, row = some j → j = B ∨ base ≤ j) : SameBut base B w W' :=
  ⟨hg.os.trans h.os, hg.tape.trans h.tape, hg.output.trans h.output, Nat.le_trans h.size hg.size, fun k hk hb hB => (hg.block k (Nat.lt_of_lt_of_le hk h.size) (fun e => by have := hr k e.symm; omega)).trans (h.block k hk hb hB)⟩
theorem SameBut.cell {base B : Nat} {w W : World} (h : SameBut base B w W) {a : Addr} {v : Value} (hc : w.cell? a = some v) (hb : a.block < base) (hB : a.block ≠ B) : W.cell? a = some v :=
  (World.cell?_of_block (h.block a.block (World.block_lt_of_cell? w a hc) hb hB)).trans hc
theorem own_ne {base B : Nat} {W : World} {e : TypeId} {size n : Nat} {v : Value} {xs : List Value} (h : W.ownsRow base e size v n xs) (hB : B < base) : v.ownBlock = none ∨ v.ownBlock ≠ some B := by
  by_cases e : v.ownBlock = some B
  · have := (h.lt B e).1; omega
  · exact .inr e
theorem ownsRow_slice {base : Nat} {W : World} {e : TypeId} {size n : Nat} {v : Value} {xs : List Value} (h : W.ownsRow base e size v n xs) : ∃ p c, v = .slice p n c := by
  rcases h.2 with ⟨rfl, rfl⟩ | ⟨g, cap, cur, rfl, _⟩
  · exact ⟨none, 0, rfl⟩
  · exact ⟨_, _, rfl⟩

end Go.Proofs.Ytbbaplcfhofeeaa

/-
  Plain facts on memory: the machine of package tenementref01 as blocks of cells. No walk here.
-/
set_option linter.unusedSimpArgs false
set_option linter.unusedVariables false
namespace Go.Proofs.Ytbbaplcfhofeeaa
open Go.RowKit

/-- between w and w' only blocks of S changed; there may be new ones -/
structure Chg (S : Nat → Prop) (w w' : World) : Prop where
  os : w'.os = w.os
  tape : w'.tape = w.tape
  output : w'.output = w.output
  size : w.heap.size ≤ w'.heap.size
  block : ∀ k, k < w.heap.size → ¬ S k → w'.heap[k]? = w.heap[k]?
theorem Chg.refl (S : Nat → Prop) (w : World) : Chg S w w := ⟨rfl, rfl, rfl, Nat.le_refl _, fun _ _ _ => rfl⟩
theorem Chg.trans {S S' : Nat → Prop} {w w1 w2 : World} (h : Chg S w w1) (k : Chg S' w1 w2) (hs : ∀ k, S' k → S k ∨ w.heap.size ≤ k) : Chg S w w2 :=
  ⟨k.os.trans h.os, k.tape.trans h.tape, k.output.trans h.output, Nat.le_trans h.size k.size, fun q hq hS =>
    (k.block q (Nat.lt_of_lt_of_le hq h.size) (fun h' => (hs q h').elim hS (by omega))).trans (h.block q hq hS)⟩
theorem Chg.of {S : Nat → Prop} {w w' : World} {row : Option Nat} (h : w.grownBy w' row) (hs : ∀ j, row = some j → S j ∨ w.heap.size ≤ j) : Chg S w w' :=
  ⟨h.os, h.tape, h.output, h.size, fun q hq hS => h.block q hq fun e => (hs q e.symm).elim hS (by omega)⟩
theorem Chg.of0 {S : Nat → Prop} {w w' : World} (h : w.grownBy w' none) : Chg S w w' := Chg.of h (by simp)
theorem Chg.grown {S : Nat → Prop} {w0 w w' : World} (h : Chg S w w') (hg : w0.grownBy w none) (hs : ∀ k, S k → w0.heap.size ≤ k) : w0.grownBy w' none :=
  ⟨h.os.trans hg.os, h.tape.trans hg.tape, h.output.trans hg.output, Nat.le_trans hg.size h.size, fun k hk _ =>
    (h.block k (Nat.lt_of_lt_of_le hk hg.size) (fun h' => by have := hs k h'; omega)).trans (hg.block k hk (by simp))⟩
theorem Chg.cell {S : Nat → Prop} {w w' : World} (h : Chg S w w') {a : Addr} {v : Value} (hc : w.cell? a = some v) (hb : ¬ S a.block) : w'.cell? a = some v :=
  (World.cell?_of_block (h.block a.block (World.block_lt_of_cell? w a hc) hb)).trans hc
theorem Chg.mono {S S' : Nat → Prop} {w w' : World} (h : Chg S w w') (hs : ∀ k, S k → S' k) : Chg S' w w' := ⟨h.os, h.tape, h.output, h.size, fun k hk hS => h.block k hk fun h' => hS (hs k h')⟩
theorem PM.chg {S : Nat → Prop} {w w' : World} {b : Nat} {M : Mach} (h : PM w b M) (hc : Chg S w w') (hb : ¬ S b) : PM w' b M := (hc.block b h.lt hb).trans h

/-- block g begins with the cells X 0 .. X (N - 1) -/
def Row (w : World) (g : Nat) (t : TypeId) (N : Nat) (X : Nat → Value) : Prop := ∃ cur, w.heap[g]? = some (.cells cur t (0, 0)) ∧ N ≤ cur.size ∧ ∀ k, k < N → cur[k]? = some (X k)
theorem Row.lt {w : World} {g : Nat} {t : TypeId} {N : Nat} {X : Nat → Value} (h : Row w g t N X) : g < w.heap.size := by
  obtain ⟨cur, h, _⟩ := h; exact (Array.getElem?_eq_some_iff.1 h).1
theorem Row.cell {w : World} {g : Nat} {t : TypeId} {N : Nat} {X : Nat → Value} (h : Row w g t N X) {k : Nat} (hk : k < N) : w.cell? ⟨g, k, none⟩ = some (X k) := by
  obtain ⟨cur, h, _, hc⟩ := h
  rw [cell_of_row w g k _ _ _ h, hc k hk]
theorem Row.frozen {w : World} {g : Nat} {t : TypeId} {N : Nat} {X : Nat → Value} (h : Row w g t N X) (k : Nat) : w.frozen? ⟨g, k, none⟩ = false := by
  obtain ⟨cur, h, _⟩ := h; exact frozen_of_row w g k _ _ h
theorem Row.same {w w' : World} {g : Nat} {t : TypeId} {N : Nat} {X : Nat → Value} (h : Row w g t N X) (hb : w'.heap[g]? = w.heap[g]?) : Row w' g t N X := by
  obtain ⟨cur, h, r⟩ := h; exact ⟨cur, hb.trans h, r⟩
theorem Row.chg {S : Nat → Prop} {w w' : World} {g : Nat} {t : TypeId} {N : Nat} {X : Nat → Value} (h : Row w g t N X) (hc : Chg S w w') (hb : ¬ S g) : Row w' g t N X := h.same (hc.block g h.lt hb)
theorem Row.grown {w w' : World} {g : Nat} {t : TypeId} {N : Nat} {X : Nat → Value} {row : Option Nat} (h : Row w g t N X) (hg : w.grownBy w' row) (hr : some g ≠ row) : Row w' g t N X := h.same (hg.block g h.lt hr)
theorem Row.alloc {w : World} {g : Nat} {t : TypeId} {N : Nat} {X : Nat → Value} (h : Row w g t N X) (o : Obj) : Row (w.alloc o) g t N X := h.grown (World.grownBy_alloc w o none) (by simp)
theorem Row.setOther {w : World} {g : Nat} {t : TypeId} {N : Nat} {X : Nat → Value} (h : Row w g t N X) (a : Addr) (hne : g ≠ a.block) (v : Value) : Row (w.setCell a v) g t N X := h.same (heap_setCell_other w a g v hne)
theorem Row.set {w : World} {g : Nat} {t : TypeId} {N : Nat} {X : Nat → Value} (h : Row w g t N X) {k : Nat} {v : Value} {X' : Nat → Value} (hv : X' k = v) (ho : ∀ j, j < N → j ≠ k → X' j = X j) : Row (w.setCell ⟨g, k, none⟩ v) g t N X' := by
  obtain ⟨cur, h, hn, hc⟩ := h
  refine ⟨_, heap_setCell_same w g k cur _ v h, by simpa using hn, fun j hj => ?_⟩
  rw [Array.getElem?_setIfInBounds]
  by_cases hjk : k = j
  · subst hjk
    rw [if_pos rfl, if_pos (by omega), hv]
  · rw [if_neg hjk, hc j hj, ho j hj (fun e => hjk e.symm)]
theorem Row.congr {w : World} {g : Nat} {t : TypeId} {N : Nat} {X X' : Nat → Value} (h : Row w g t N X) (he : ∀ k, k < N → X' k = X k) : Row w g t N X' := by
  obtain ⟨cur, h, hn, hc⟩ := h
  exact ⟨cur, h, hn, fun k hk => by rw [hc k hk, he k hk]⟩
theorem Row.type_ne {w : World} {g g' : Nat} {t t' : TypeId} {N N' : Nat} {X X' : Nat → Value} (h : Row w g t N X) (h' : Row w g' t' N' X') (ht : t ≠ t') : g ≠ g' := by
  rintro rfl
  obtain ⟨c, h, _⟩ := h
  obtain ⟨c', h', _⟩ := h'
  rw [h] at h'; cases h'; exact ht rfl
theorem Row.pm_ne {w : World} {g b : Nat} {t : TypeId} {N : Nat} {X : Nat → Value} {M : Mach} (h : Row w g t N X) (h' : PM w b M) (ht : t ≠ 68) : b ≠ g := by
  rintro rfl
  obtain ⟨c, h, _⟩ := h
  rw [show w.heap[b]? = _ from h'] at h; cases h; exact ht rfl

/-- where the ref machine's rows lie -/
structure Lay where
  n : Nat
  fF : Nat
  cF : Nat
  fB : Nat
  cB : Nat
  g : Nat → Nat
  cg : Nat → Nat
def Lay.top (L : Lay) : Nat → Value
  | 0 => .slice (some ⟨L.fF, 0, none⟩) L.n L.cF
  | _ => .slice (some ⟨L.fB, 0, none⟩) L.n L.cB
def hd (M : Mach) (q : Nat) : Value := (M.fr (q / 4)).cell (q % 4)
def bslice (L : Lay) (i : Nat) : Value := .slice (some ⟨L.g i, 0, none⟩) 256 (L.cg i)
def byt (f : Fr) (k : Nat) : Value := .int .u8 (f.bs k).toNat
def Lay.foot (L : Lay) (b : Nat) (k : Nat) : Prop := k = b ∨ k = L.fF ∨ k = L.fB ∨ ∃ i, i < L.n ∧ k = L.g i
theorem hd_upd (M : Mach) (i : Nat) (f : Fr) (q : Nat) : hd (M.upd i f) q = if q / 4 = i then f.cell (q % 4) else hd M q := by
  unfold hd Mach.upd
  simp only
  split <;> rfl
end Go.Proofs.Ytbbaplcfhofeeaa

/-
  Package pte: what a table holds; contracts over the machine.
-/
set_option linter.unusedSimpArgs false
set_option linter.unusedVariables false
namespace Go.Proofs.Ytbbaplcfhofeeaa
open Go.RowKit
set_option maxHeartbeats 1000000

theorem isIndex_any (k : Int) (w : World) : Calls Try.prog 72 #[.int .i64 k] w fun e w' => e = .returned (.bool (idx k)) ∧ w = w' := by
  by_cases h : 0 ≤ k ∧ k < 64
  · rw [show idx k = true by simp [idx, h.1, h.2]]; exact isIndex_yes k w h.1 h.2
  · rw [show idx k = false by simp only [idx, Bool.and_eq_false_iff, decide_eq_false_iff_not]; omega]; exact isIndex_no k w (by omega)
theorem ptMade (b : Nat) (w : World) (M : Mach) (hM : PM w b M) (hn : 1 ≤ M.n) : Calls Try.prog 71 #[.pointer (some ⟨b, 0, none⟩)] w fun e w' => e = .returned (.bool true) ∧ w = w' := by
  have hsz := hid hM.size
  have h0 : (M.n != 0) = true := by simp; omega
  have HN := hid hn
  clear hM hn
  go_enter Try.func71, Try.ntmps71
  go_wp2_with (go_at_call 24; refine (Size_yes _ _ _ HN.out hsz.out).mono ?_; rintro e w2 ⟨rfl, rfl⟩)
  go_ret
  exact ⟨rfl, rfl⟩
theorem ptAt_bad (b : Nat) (t i : Int) (w : World) (M : Mach) (hM : PM w b M) (hn : 1 ≤ M.n) (hi : idx i = false) : Calls Try.prog 66 #[.pointer (some ⟨b, 0, none⟩), .int .i64 t, .int .i64 i] w fun e w' => e = .returned (.tuple #[.int .u32 0, .int .i64 1]) ∧ w.grownBy w' none := by
  have H := hid (hi ▸ isIndex_any i)
  have HM := hid hM
  have HN := hid hn
  clear hi hM hn
  go_enter Try.func66, Try.ntmps66
  go_wp2_with (first
    | (go_at_call 71; refine (ptMade _ _ _ HM.out HN.out).mono ?_; rintro e w2 ⟨rfl, rfl⟩)
    | (go_at_call 72; refine (H.out _).mono ?_; rintro e w2 ⟨rfl, rfl⟩))
  go_ret2
  exact ⟨rfl, World.grownBy.refl _ _⟩
theorem ptAt_no (b : Nat) (t : Int) (i : Nat) (w : World) (M : Mach) (T : Int) (hM : PM w b M) (hok : M.ok T) (hi : i < 64) (ht : M.is t = false) : Calls Try.prog 66 #[.pointer (some ⟨b, 0, none⟩), .int .i64 t, .int .i64 i] w fun e w' => e = .returned (.tuple #[.int .u32 0, .int .i64 1]) ∧ w.grownBy w' none := by
  have HR := hid (Read_no b t ((i : Int) * 4) 4 w M T hM hok (by omega) (.inl ht))
  have HM := hid hM
  have HN := hid hok.n1
  clear ht hM hok
  go_enter Try.func66, Try.ntmps66
  go_wp2_with (first
    | (go_at_call 71; refine (ptMade _ _ _ HM.out HN.out).mono ?_; rintro e w2 ⟨rfl, rfl⟩)
    | (go_at_call 72; refine (isIndex_yes _ _ (by omega) (by omega)).mono ?_; rintro e w2 ⟨rfl, rfl⟩)
    | (go_at_call 73; refine HR.out.mono ?_; rintro e w2 ⟨rfl, rfl⟩))
  go_ret2
  exact ⟨rfl, World.grownBy.refl _ _⟩
theorem ptAt_yes (b t i : Nat) (w : World) (M : Mach) (T : Int) (hM : PM w b M) (hok : M.ok T) (hi : i < 64) (ht : (t : Int) < M.n) : Calls Try.prog 66 #[.pointer (some ⟨b, 0, none⟩), .int .i64 t, .int .i64 i] w fun e w' => e = .returned (.tuple #[.int .u32 (word4 (M.fr t).bs (4 * i) : Nat), .int .i64 0]) ∧ w.grownBy w' none := by
  have HR := hid (fun w hM => Read_yes b t (i * 4) 4 w M T hM hok ht (by omega))
  have e4 : ((i * 4 : Nat) : Int) = (i : Int) * 4 := by omega
  rw [e4] at HR
  have HM := hid hM
  have HN := hid hok.n1
  clear ht hM hok e4
  obtain ⟨x0, h0⟩ : ∃ x, ((M.fr t).bs (i * 4 + 0)).toNat = x := ⟨_, rfl⟩
  obtain ⟨x1, h1⟩ : ∃ x, ((M.fr t).bs (i * 4 + 1)).toNat = x := ⟨_, rfl⟩
  obtain ⟨x2, h2⟩ : ∃ x, ((M.fr t).bs (i * 4 + 2)).toNat = x := ⟨_, rfl⟩
  obtain ⟨x3, h3⟩ : ∃ x, ((M.fr t).bs (i * 4 + 3)).toNat = x := ⟨_, rfl⟩
  have b0 : x0 < 256 := h0 ▸ ((M.fr t).bs (i * 4 + 0)).toNat_lt
  have b1 : x1 < 256 := h1 ▸ ((M.fr t).bs (i * 4 + 1)).toNat_lt
  have b2 : x2 < 256 := h2 ▸ ((M.fr t).bs (i * 4 + 2)).toNat_lt
  have b3 : x3 < 256 := h3 ▸ ((M.fr t).bs (i * 4 + 3)).toNat_lt
  have HW := hid (show ((word4 (M.fr t).bs (4 * i) : Nat) : Int) = (x0 : Int) + 256 * x1 + 65536 * x2 + 16777216 * x3 by
    have e0 : ((M.fr t).bs (i * 4)).toNat = x0 := h0
    unfold word4; rw [Nat.mul_comm 4 i, e0, h1, h2, h3]; omega)
  have H0 := hid h0; have H1 := hid h1; have H2 := hid h2; have H3 := hid h3
  clear h0 h1 h2 h3
  go_enter Try.func66, Try.ntmps66
  go_wp2_with (first
    | (go_at_call 71; refine (ptMade _ _ _ HM.out HN.out).mono ?_; rintro e w2 ⟨rfl, rfl⟩)
    | (go_at_call 72; refine (isIndex_yes _ _ (by omega) (by omega)).mono ?_; rintro e w2 ⟨rfl, rfl⟩)
    | (go_at_call 73; refine (HR.out _ HM.out).mono ?_; rintro e w2 ⟨v, rfl, hv⟩; obtain ⟨g, rfl, hg0, hc, hg⟩ := newBytes_pos hv (by rw [part_len]; omega); clear hv; rw [part_len] at hc ⊢; have HG := hid hg; clear hg; have c0 := hc 0 (by omega); have c1 := hc 1 (by omega); have c2 := hc 2 (by omega); have c3 := hc 3 (by omega); clear hc; rw [part_get _ _ _ _ (by omega)] at c0 c1 c2 c3; rw [H0.out] at c0; rw [H1.out] at c1; rw [H2.out] at c2; rw [H3.out] at c3))
  go_loop [10, 32] (fun n k => (k = .int .i64 0 ∧ n = .int .u32 0) ∨ (k = .int .i64 1 ∧ n = .int .u32 x0) ∨ (k = .int .i64 2 ∧ n = .int .u32 ((x0 : Int) + 256 * x1)) ∨ (k = .int .i64 3 ∧ n = .int .u32 ((x0 : Int) + 256 * x1 + 65536 * x2)) ∨ (k = .int .i64 4 ∧ n = .int .u32 ((x0 : Int) + 256 * x1 + 65536 * x2 + 16777216 * x3))) (fun _ k => 4 - (intOf k).toNat)
  case atStart => exact .inl ⟨rfl, rfl⟩
  case round =>
    rcases hrel with ⟨rfl, rfl⟩ | ⟨rfl, rfl⟩ | ⟨rfl, rfl⟩ | ⟨rfl, rfl⟩ | ⟨rfl, rfl⟩
    · go_wp2
      go_round
      case rel => exact .inr (.inl ⟨rfl, int_eq (or_zero x0 (by omega))⟩)
      case measure => simp [intOf]
    · go_wp2
      go_round
      case rel => exact .inr (.inr (.inl ⟨rfl, int_eq (or_two x0 x1 b0 b1)⟩))
      case measure => simp [intOf]
    · go_wp2
      go_round
      case rel => exact .inr (.inr (.inr (.inl ⟨rfl, int_eq (or_three x0 x1 x2 b0 b1 b2)⟩)))
      case measure => simp [intOf]
    · go_wp2
      go_round
      case rel => exact .inr (.inr (.inr (.inr ⟨rfl, int_eq (or_four x0 x1 x2 x3 b0 b1 b2 b3)⟩)))
      case measure => simp [intOf]
    · go_wp2
      go_ret2
      exact ⟨ret_u HW.out.symm, HG.out⟩
theorem ptAt (b : Nat) (t i : Int) (w : World) (M : Mach) (T : Int) (hM : PM w b M) (hok : M.ok T) : Calls Try.prog 66 #[.pointer (some ⟨b, 0, none⟩), .int .i64 t, .int .i64 i] w fun e w' => e = .returned (.tuple #[.int .u32 ((M.pat t i).1 : Nat), .int .i64 (M.pat t i).2]) ∧ w.grownBy w' none := by
  cases hi : idx i
  · rw [show M.pat t i = (0, 1) by unfold Mach.pat; rw [if_pos hi]]
    exact ptAt_bad b t i w M hM hok.n1 hi
  · have hi' : 0 ≤ i ∧ i < 64 := by simpa [idx] using hi
    obtain ⟨j, rfl⟩ : ∃ j : Nat, i = j := ⟨i.toNat, by omega⟩
    cases ht : M.is t
    · rw [show M.pat t j = (0, 1) by unfold Mach.pat; rw [if_neg (by simp [hi]), if_pos ht]]
      exact ptAt_no b t j w M T hM hok (by omega) ht
    · have ht' := Mach.is_iff.1 ht
      obtain ⟨k, rfl⟩ : ∃ j : Nat, t = j := ⟨t.toNat, by omega⟩
      rw [show M.pat k j = (word4 (M.fr k).bs (4 * j), 0) by unfold Mach.pat; rw [if_neg (by simp [hi]), if_neg (by simp [ht])]; rfl]
      exact ptAt_yes b k j w M T hM hok (by omega) ht'.2
theorem ent_kept {w w2 : World} {a b c : Value} {t : TypeId} (hg : (w.alloc (.cells #[a, b, c] t)).grownBy w2 none) :
    w2.cell? ⟨w.heap.size, 0, none⟩ = some a ∧ w2.cell? ⟨w.heap.size, 1, none⟩ = some b ∧ w2.cell? ⟨w.heap.size, 2, none⟩ = some c ∧
    w2.frozen? ⟨w.heap.size, 0, none⟩ = false ∧ w2.frozen? ⟨w.heap.size, 1, none⟩ = false ∧ w2.frozen? ⟨w.heap.size, 2, none⟩ = false ∧ w.heap.size < w2.heap.size := by
  have hb : w2.heap[w.heap.size]? = some (.cells #[a, b, c] t (0, 0)) := (hg.block w.heap.size (by simp) (by simp)).trans (heap_alloc_new w _)
  exact ⟨cell_of_row w2 _ 0 _ _ _ hb, cell_of_row w2 _ 1 _ _ _ hb, cell_of_row w2 _ 2 _ _ _ hb, frozen_of_row w2 _ 0 _ _ hb, frozen_of_row w2 _ 1 _ _ hb, frozen_of_row w2 _ 2 _ _ hb, (Array.getElem?_eq_some_iff.1 hb).1⟩
theorem grown_set {w W : World} (h : w.grownBy W none) {b o : Nat} (hB : w.heap.size ≤ b) (v : Value) : w.grownBy (W.setCell ⟨b, o, none⟩ v) none :=
  (Chg.of (S := fun k => w.heap.size ≤ k) (grownBy_setCell W b o none v) fun j e => .inl (by cases e; exact hB)).grown h fun _ h => h
end Go.Proofs.Ytbbaplcfhofeeaa

/-
  Package mmu: the levels, their rules; a reference to a page, an entry's of level 1.
-/
set_option linter.unusedSimpArgs false
set_option linter.unusedVariables false
namespace Go.Proofs.Ytbbaplcfhofeeaa
open Go.RowKit
set_option maxHeartbeats 1000000

/-- a level as a value: its tables' kind, its rule -/
abbrev lvV (K fn : Nat) : Value := .agg #[.int .i64 (K : Nat), .func (.func fn) #[] #[]]
theorem row2 (w : World) (t : TypeId) (a b : Value) : Row (w.alloc (.cells #[a, b] t)) w.heap.size t 2 (fun k => [a, b].getD k undef) :=
  ⟨_, heap_alloc_new w _, by simp, fun k hk => by match k, hk with | 0, _ => rfl | 1, _ => rfl⟩
theorem set2 {w : World} {g : Nat} {t : TypeId} {X : Nat → Value} (h : Row w g t 2 X) (u v : Value) :
    (w.setCell ⟨g, 0, none⟩ u).cell? ⟨g, 0, none⟩ = some u ∧ ((w.setCell ⟨g, 0, none⟩ u).setCell ⟨g, 1, none⟩ v).cell? ⟨g, 0, none⟩ = some u ∧ ((w.setCell ⟨g, 0, none⟩ u).setCell ⟨g, 1, none⟩ v).cell? ⟨g, 1, none⟩ = some v := by
  have h1 := h.set (k := 0) (v := u) (X' := fun q => if q = 0 then u else X q) rfl (fun j _ hj => by simp [hj])
  have h2 := h1.set (k := 1) (v := v) (X' := fun q => if q = 1 then v else if q = 0 then u else X q) rfl (fun j _ hj => by simp [hj])
  exact ⟨h1.cell (k := 0) (by omega), h2.cell (k := 0) (by omega), h2.cell (k := 1) (by omega)⟩
theorem pageKind_any (e : Ent) (w : World) : Calls Try.prog 69 #[e.val] w fun x w' => x = .returned (.int .i64 (kindOf e.w)) ∧ w.grownBy w' none := by
  obtain ⟨p, b, m⟩ := e
  unfold Ent.val
  have hg := World.grownBy_alloc w (.cells #[.bool p, .bool b, .int .i64 m] 108) none
  cases b with
  | true =>
    go_enter Try.func69, Try.ntmps69
    go_wp2
    go_ret
    exact ⟨rfl, hg⟩
  | false =>
    go_enter Try.func69, Try.ntmps69
    go_wp2
    go_ret
    exact ⟨rfl, hg⟩
theorem tableKind_any (e : Ent) (w : World) : Calls Try.prog 70 #[e.val] w fun x w' => x = .returned (.int .i64 2) ∧ w.grownBy w' none := by
  obtain ⟨p, b, m⟩ := e
  unfold Ent.val
  have hg := World.grownBy_alloc w (.cells #[.bool p, .bool b, .int .i64 m] 108) none
  go_enter Try.func70, Try.ntmps70
  go_wp2
  go_ret
  exact ⟨rfl, hg⟩
theorem levelOf_1 (w : World) : Calls Try.prog 64 #[.int .i64 1] w fun x w' => x = .returned (.tuple #[.agg #[.int .i64 2, .func (.func 69) #[] #[]], .bool true]) ∧ w.grownBy w' none := by
  go_enter Try.func64, Try.ntmps64
  go_wp2
  go_returns
  exact ⟨rfl, World.grownBy_alloc w _ none⟩
theorem levelOf_2 (w : World) : Calls Try.prog 64 #[.int .i64 2] w fun x w' => x = .returned (.tuple #[.agg #[.int .i64 3, .func (.func 70) #[] #[]], .bool true]) ∧ w.grownBy w' none := by
  go_enter Try.func64, Try.ntmps64
  go_wp2
  go_returns
  exact ⟨rfl, World.grownBy_alloc w _ none⟩
theorem levelOf_no (k : Int) (w : World) (h1 : k ≠ 1) (h2 : k ≠ 2) : Calls Try.prog 64 #[.int .i64 k] w fun x w' => x = .returned (.tuple #[.agg #[.int .i64 0, .nilFunc], .bool false]) ∧ w.grownBy w' none := by
  have h1' : (k == 1) = false := by simp [h1]
  have h2' : (k == 2) = false := by simp [h2]
  go_enter Try.func64, Try.ntmps64
  go_wp2
  go_returns
  exact ⟨rfl, World.grownBy_alloc w _ none⟩
theorem levelBy_2 (w : World) : Calls Try.prog 59 #[.int .i64 2] w fun x w' => x = .returned (.tuple #[.agg #[.int .i64 2, .func (.func 69) #[] #[]], .bool true]) ∧ w.grownBy w' none := by
  have hg := World.grownBy_alloc w (.cells #[.int .i64 0, .nilFunc] 123) none
  go_enter Try.func59, Try.ntmps59
  go_wp2_with (go_at_call 64; refine (levelOf_1 _).mono ?_; rintro e w1 ⟨rfl, g1⟩; have hr := Row.grown (row2 w 123 (.int .i64 0) .nilFunc) g1 (by simp); have hq := hr.cell (k := 0) (by omega); have hq2 := hr.cell (k := 1) (by omega); have hz := hr.frozen; have HG := hid (hg.trans g1); obtain ⟨f0, f1, f2⟩ := set2 hr (.int .i64 2) (.func (.func 69) #[] #[]); clear g1 hr)
  refine bodyPost_ret (by simp [results, Try.results59, go_sem, f0, f1, f2]; try rfl) rfl ?_
  exact ⟨rfl, grown_set (grown_set HG.out (Nat.le_refl _) _) (Nat.le_refl _) _⟩
theorem levelBy_3 (w : World) : Calls Try.prog 59 #[.int .i64 3] w fun x w' => x = .returned (.tuple #[.agg #[.int .i64 3, .func (.func 70) #[] #[]], .bool true]) ∧ w.grownBy w' none := by
  have hg := World.grownBy_alloc w (.cells #[.int .i64 0, .nilFunc] 123) none
  go_enter Try.func59, Try.ntmps59
  go_wp2_with (go_at_call 64; refine (levelOf_2 _).mono ?_; rintro e w1 ⟨rfl, g1⟩; have hr := Row.grown (row2 w 123 (.int .i64 0) .nilFunc) g1 (by simp); have hq := hr.cell (k := 0) (by omega); have hq2 := hr.cell (k := 1) (by omega); have hz := hr.frozen; have HG := hid (hg.trans g1); obtain ⟨f0, f1, f2⟩ := set2 hr (.int .i64 3) (.func (.func 70) #[] #[]); clear g1 hr)
  refine bodyPost_ret (by simp [results, Try.results59, go_sem, f0, f1, f2]; try rfl) rfl ?_
  exact ⟨rfl, grown_set (grown_set HG.out (Nat.le_refl _) _) (Nat.le_refl _) _⟩
theorem levelBy_no (k : Int) (w : World) (h0 : 0 ≤ k) (h1 : k ≤ 1) : Calls Try.prog 59 #[.int .i64 k] w fun x w' => x = .returned (.tuple #[.agg #[.int .i64 0, .nilFunc], .bool false]) ∧ w.grownBy w' none := by
  have hg := World.grownBy_alloc w (.cells #[.int .i64 0, .nilFunc] 123) none
  go_enter Try.func59, Try.ntmps59
  go_wp2_with (go_at_call 64; refine (levelOf_no _ _ (by omega) (by omega)).mono ?_; rintro e w1 ⟨rfl, g1⟩; have hr := Row.grown (row2 w 123 (.int .i64 0) .nilFunc) g1 (by simp); have hq := hr.cell (k := 0) (by omega); have hq2 := hr.cell (k := 1) (by omega); have hz := hr.frozen; have HG := hid (hg.trans g1); obtain ⟨f0, f1, f2⟩ := set2 hr (.int .i64 0) (.nilFunc); clear g1 hr)
  refine bodyPost_ret (by simp [results, Try.results59, go_sem, f0, f1, f2]; try rfl) rfl ?_
  exact ⟨rfl, grown_set (grown_set HG.out (Nat.le_refl _) _) (Nat.le_refl _) _⟩

/-- package mmu over a machine: block X holds the machine's address; since w0 the machine alone has changed -/
structure XM (w0 w : World) (B X : Nat) (M : Mach) : Prop where
  m : PM w B M
  x : w.cell? ⟨X, 0, none⟩ = some (.pointer (some ⟨B, 0, none⟩))
  g : w0.grownBy w (some B)
  XB : X ≠ B
theorem XM.more {w0 w W : World} {B X : Nat} {M : Mach} (h : XM w0 w B X M) (hg : w.grownBy W none) : XM w0 W B X M := ⟨h.m.grown hg (by simp), hg.cell h.x (by simp), h.g.trans (hg.but _), h.XB⟩
theorem XM.put {w0 w W : World} {B X : Nat} {M M' : Mach} (h : XM w0 w B X M) (hm : PM W B M') (hg : w.grownBy W (some B)) : XM w0 W B X M' := ⟨hm, hg.cell h.x (by have := h.XB; simpa using this), h.g.trans hg, h.XB⟩
theorem XM.here {w0 w : World} {B X : Nat} {M : Mach} (h : XM w0 w B X M) : XM w w B X M := ⟨h.m, h.x, World.grownBy.refl _ _, h.XB⟩
theorem XM.step {w0 w W : World} {B X : Nat} {M M' : Mach} (h : XM w0 w B X M) (k : XM w W B X M') : XM w0 W B X M' := ⟨k.m, k.x, h.g.trans k.g, h.XB⟩
theorem Mach.get_is {M : Mach} {i o k : Int} (h : (M.get i o k).1 = 0) : M.is i = true := by
  revert h
  unfold Mach.get
  split
  · simp
  · rename_i h; intro; simpa using h
theorem Mach.put_is {M : Mach} {i k : Int} (h : (M.put i k).1 = 0) : M.is i = true := by
  revert h
  unfold Mach.put
  split
  · simp
  · rename_i h; intro; simpa using h
end Go.Proofs.Ytbbaplcfhofeeaa

/-
  Package mmu: a reference to a page is taken, goes.
-/
set_option linter.unusedSimpArgs false
set_option linter.unusedVariables false
namespace Go.Proofs.Ytbbaplcfhofeeaa
open Go.RowKit
set_option maxHeartbeats 1000000

theorem Frame_out (b : Nat) (j : Nat) (w : World) (M : Mach) (T : Int) (hM : PM w b M) (hok : M.ok T) (hj : (j : Int) < M.n) :
    Calls Try.prog 60 #[.pointer (some ⟨b, 0, none⟩), .int .i64 j] w fun e w' => e = .returned (.tuple #[.agg #[.int .i64 (M.fr j).owner, .int .i64 (M.fr j).ty, .int .i64 (M.fr j).cnt, .int .i64 (M.fr j).tot], .int .i64 0]) ∧ w.grownBy w' none := Frame_yes b j w M T hM hok hj
theorem refused_ne {e : Int} (h0 : e ≠ 0) (h13 : e ≠ 13) : refusedV e = 12 := by unfold refusedV; rw [if_neg (by omega)]
set_option maxRecDepth 100000 in
theorem xtake0 (B X : Nat) (o i : Int) (k : Nat) (hk : k ≤ 1) (w : World) (M : Mach) (T : Int) (h : XM w w B X M) (hok : M.ok T) (hT : T < 4611686018427387904) :
    Calls Try.prog 48 #[.pointer (some ⟨X, 0, none⟩), .int .i64 o, .int .i64 i, .int .i64 k] w fun e w' => e = .returned (.int .i64 (refusedV (M.get i o k).1)) ∧ XM w w' B X (M.get i o k).2 := by
  have hx := h.x
  have H := hid h
  have HG := hid (Get_any B i o k w M T h.m hok (by omega))
  have HO := hid (Mach.get_ok hok i o k)
  obtain ⟨r, hr⟩ : ∃ r, M.get i o k = r := ⟨_, rfl⟩
  have HI := hid (show r.1 = 0 → r.2.is i = true from fun e => by rw [← hr] at e ⊢; rw [(M.get_same i o k).is]; exact Mach.get_is e)
  rw [hr] at HG HO ⊢
  obtain ⟨c, M'⟩ := r
  clear h hok hr
  by_cases h0 : c = 0
  · subst h0
    have hi := Mach.is_iff.1 (HI.out rfl)
    obtain ⟨j, rfl⟩ := Int.eq_ofNat_of_zero_le hi.1
    have HJ := hid hi.2
    clear hi HI
    go_enter Try.func48, Try.ntmps48
    go_wp2_with (first
      | (go_at_call 46; refine HG.out.mono ?_; rintro e w1 ⟨rfl, hm, g1⟩; have H1 := hid (H.out.put hm g1); clear hm g1)
      | (go_at_call 59; refine (levelBy_no _ _ (by omega) (by omega)).mono ?_; rintro e w2 ⟨rfl, g2⟩; have H2 := hid (H1.out.more (g2.trans (World.grownBy_alloc w2 (.cells #[.int .i64 0, .nilFunc] 123) none))); have hx2 := H2.out.x; clear g2)
      | (go_at_call 60; refine (Frame_out B j _ M' _ H2.out.m HO.out HJ.out).mono ?_; rintro e w3 ⟨rfl, g3⟩; have H3 := hid (H2.out.more (g3.trans (World.grownBy_alloc w3 (.cells #[.int .i64 (M'.fr j).owner, .int .i64 (M'.fr j).ty, .int .i64 (M'.fr j).cnt, .int .i64 (M'.fr j).tot] 62) none))); clear g3))
    go_ret
    exact ⟨rfl, H3.out⟩
  · have h0b : (c == 0) = false := by simp [h0]
    by_cases h13 : c = 13
    · subst h13
      go_enter Try.func48, Try.ntmps48
      go_wp2_with (go_at_call 46; refine HG.out.mono ?_; rintro e w1 ⟨rfl, hm, g1⟩; have H1 := hid (H.out.put hm g1); clear hm g1)
      go_ret
      exact ⟨rfl, H1.out⟩
    · have h13b : (c == 13) = false := by simp [h13]
      rw [refused_ne h0 h13]
      clear h0 h13
      go_enter Try.func48, Try.ntmps48
      go_wp2_with (go_at_call 46; refine HG.out.mono ?_; rintro e w1 ⟨rfl, hm, g1⟩; have H1 := hid (H.out.put hm g1); clear hm g1)
      go_ret
      exact ⟨rfl, H1.out⟩
set_option maxRecDepth 100000 in
theorem xdrop0 (B X : Nat) (i : Int) (k : Nat) (hk : k ≤ 1) (w : World) (M : Mach) (T : Int) (h : XM w w B X M) (hok : M.ok T) (hT : T < 9223372036854775807) :
    Calls Try.prog 49 #[.pointer (some ⟨X, 0, none⟩), .int .i64 i, .int .i64 k] w fun e w' => e = .returned (.tuple #[]) ∧ XM w w' B X (M.put i k).2 := by
  have hx := h.x
  have H := hid h
  have HG := hid (Put_any B i k w M T h.m hok hT)
  have HO := hid (Mach.put_ok hok i k)
  obtain ⟨r, hr⟩ : ∃ r, M.put i k = r := ⟨_, rfl⟩
  have HI := hid (show r.1 = 0 → r.2.is i = true from fun e => by rw [← hr] at e ⊢; rw [(M.put_same i k).is]; exact Mach.put_is e)
  rw [hr] at HG HO ⊢
  obtain ⟨c, M'⟩ := r
  clear h hok hr
  by_cases h0 : c = 0
  · subst h0
    have hi := Mach.is_iff.1 (HI.out rfl)
    obtain ⟨j, rfl⟩ := Int.eq_ofNat_of_zero_le hi.1
    have HJ := hid hi.2
    clear hi HI
    go_enter Try.func49, Try.ntmps49
    go_wp2_with (first
      | (go_at_call 38; refine HG.out.mono ?_; rintro e w1 ⟨rfl, hm, g1⟩; have H1 := hid (H.out.put hm g1); clear hm g1)
      | (go_at_call 59; refine (levelBy_no _ _ (by omega) (by omega)).mono ?_; rintro e w2 ⟨rfl, g2⟩; have H2 := hid (H1.out.more (g2.trans (World.grownBy_alloc w2 (.cells #[.int .i64 0, .nilFunc] 123) none))); have hx2 := H2.out.x; clear g2)
      | (go_at_call 60; refine (Frame_out B j _ M' _ H2.out.m HO.out HJ.out).mono ?_; rintro e w3 ⟨rfl, g3⟩; have H3 := hid (H2.out.more (g3.trans (World.grownBy_alloc w3 (.cells #[.int .i64 (M'.fr j).owner, .int .i64 (M'.fr j).ty, .int .i64 (M'.fr j).cnt, .int .i64 (M'.fr j).tot] 62) none))); clear g3))
    first | go_end0 | ((try simp only [Exit.inBlock, Exit.then]); refine bodyPost_ret (results_none rfl _ _ _) rfl ?_)
    exact ⟨rfl, H3.out⟩
  · have h0b : (c == 0) = false := by simp [h0]
    have h0n : (c != 0) = true := by simp [h0]
    go_enter Try.func49, Try.ntmps49
    go_wp2_with (go_at_call 38; refine HG.out.mono ?_; rintro e w1 ⟨rfl, hm, g1⟩; have H1 := hid (H.out.put hm g1); clear hm g1)
    first | go_end0 | ((try simp only [Exit.inBlock, Exit.then]); refine bodyPost_ret (results_none rfl _ _ _) rfl ?_)
    exact ⟨rfl, H1.out⟩
end Go.Proofs.Ytbbaplcfhofeeaa
