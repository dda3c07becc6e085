/-
  Package tenementref06: Pack.
-/
import Derived.Test.YtbbaplcfhofeeaaK19
import Derived.Laws.IdiomStrings
import Derived.Test.YtbbaplcfhofeeaaK01
import Derived.Test.YtbbaplcfhofeeaaK18
import Derived.WalkKit
import Derived.Maps.OwnSet
import Derived.Maps.RangeWalk
import Derived.RegionTactic
import Derived.DeepKeys4
import Derived.Test.YtbbaplcfhofeeaaK08
import Derived.Deep.RegionLaw
import Derived.Deep.RegionWith
set_option linter.unusedSimpArgs false
set_option linter.unusedVariables false
namespace Go.Proofs.Ytbbaplcfhofeeaa
open Go.RowKit
set_option maxHeartbeats 4000000
theorem pkB_cells (fl d p off l : Nat) (h0 : fl < 16) (hd : d < 65536) (hp : p < 65536) (ho : off < 256) (hl : l < 256) : bcells (pkB fl d p off l) = [.int .u8 fl, .int .u8 0, .int .u8 (d % 256 : Nat), .int .u8 (d / 256 : Nat), .int .u8 (p % 256 : Nat), .int .u8 (p / 256 : Nat), .int .u8 off, .int .u8 l] := by
  rw [pkB, bcells_app, bcells_app, bcells_app, bcells_le2 fl (by omega), bcells_le2 d hd, bcells_le2 p hp, bcells_two off l ho hl, show fl % 256 = fl by omega, show fl / 256 = 0 by omega]
  rfl
theorem pk_post {w : World} {fl d p off l : Nat} {cs : Array Value} (h0 : fl < 16) (hd : d < 65536) (hp : p < 65536) (ho : off < 256) (hl : l < 256) {W : World} (hW : W.heap.size = w.heap.size + 1) (hg : w.grownBy W none)
    (hc : cs = #[.int .u8 fl, .int .u8 0, .int .u8 (d % 256 : Nat), .int .u8 (d / 256 : Nat), .int .u8 (p % 256 : Nat), .int .u8 (p / 256 : Nat), .int .u8 off, .int .u8 l]) :
    PkPost (pkB fl d p off l) w (.returned (.tuple #[.slice (some ⟨w.heap.size + 1, 0, none⟩) 8 8, .int .i64 0])) (W.alloc (.cells cs 5)) := by
  subst hc
  refine ⟨some ⟨w.heap.size + 1, 0, none⟩, 8, by rw [pkB_len], ?_, hg.trans (World.grownBy_alloc _ _ _)⟩
  rw [pkB_len, pkB_cells fl d p off l h0 hd hp ho hl]
  exact ⟨rfl, .inr ⟨w.heap.size + 1, 8, _, rfl, Nat.le_refl _, hW ▸ heap_alloc_new W _, Nat.le_refl _, by decide, rfl, rfl⟩⟩
end Go.Proofs.Ytbbaplcfhofeeaa


/-
  Package grant: Pack of both sides, of any entry; what was packed is unpacked as itself.
-/
set_option linter.unusedSimpArgs false
set_option linter.unusedVariables false
namespace Go.Proofs.Ytbbaplcfhofeeaa
open Go.RowKit
set_option maxHeartbeats 4000000
def flG (k : Nat) (ro sub : Bool) : Nat := k + (if ro = true then 4 else 0) + (if sub = true then 8 else 0)
def pkL (g : GV) : List UInt8 := pkB (flG g.k.toNat g.ro g.sub) g.dom.toNat g.gpfn.toNat (if g.sub = true then g.off.toNat else 0) (if g.sub = true then g.len.toNat - 1 else 255)
theorem pkL_len (g : GV) : (pkL g).length = 8 := rfl
theorem pack_nats {g : GV} (h : packV g = true) : ∃ k d p off ln : Nat, g = ⟨k, g.ro, g.sub, d, p, off, ln⟩ ∧ k ≤ 2 ∧ d < 65536 ∧ p < 65536 ∧ off < 256 ∧ 1 ≤ ln ∧ off + ln ≤ 256 := by
  obtain ⟨k, ro, sub, d, p, off, ln⟩ := g
  simp [packV, wV, pgV] at h
  refine ⟨k.toNat, d.toNat, p.toNat, off.toNat, ln.toNat, ?_, by omega, by omega, by omega, by omega, by omega, by omega⟩
  simp only [GV.mk.injEq]
  refine ⟨by omega, trivial, trivial, by omega, by omega, by omega, by omega⟩
def wantG (g : GV) : GV := if g.sub = true then g else ⟨g.k, g.ro, g.sub, g.dom, g.gpfn, 0, 256⟩
theorem b_of {n : Nat} (h : n < 256) : (UInt8.ofNat n).toNat = n := UInt8.toNat_ofNat_of_lt' h
theorem unp_pk (g : GV) (h : packV g = true) : unpG (pkL g) = (wantG g, 0) := by
  obtain ⟨k, d, p, off, ln, e, hk, hd, hp, ho, hl, hol⟩ := pack_nats h
  obtain ⟨_, ro, sub, _, _, _, _⟩ := g
  rw [e]
  clear e h
  have hfl : flG k ro sub < 16 := by unfold flG; split <;> split <;> omega
  have hx : ∀ x y : Nat, pkB (flG k ro sub) d p x y = [UInt8.ofNat (flG k ro sub % 256), UInt8.ofNat (flG k ro sub / 256), UInt8.ofNat (d % 256), UInt8.ofNat (d / 256), UInt8.ofNat (p % 256), UInt8.ofNat (p / 256), UInt8.ofNat x, UInt8.ofNat y] := fun x y => rfl
  unfold unpG
  rw [if_pos (pkL_len _)]
  unfold unG pkL
  simp only [Int.toNat_natCast]
  rw [hx]
  simp only [List.getD_cons_zero, List.getD_cons_succ, b_of (show flG k ro sub % 256 < 256 by omega), b_of (show flG k ro sub / 256 < 256 by omega), b_of (show d % 256 < 256 by omega), b_of (show d / 256 < 256 by omega), b_of (show p % 256 < 256 by omega), b_of (show p / 256 < 256 by omega)]
  have e1 : d % 256 + 256 * (d / 256) = d := by omega
  have e2 : p % 256 + 256 * (p / 256) = p := by omega
  rw [e1, e2]
  have hb : ¬ (16 ≤ flG k ro sub % 256 ∨ flG k ro sub / 256 ≠ 0 ∨ flG k ro sub % 256 % 4 = 3) := by
    have h4 : flG k ro sub % 4 = k := by unfold flG; split <;> split <;> omega
    omega
  rw [if_neg hb]
  cases sub with
  | true =>
    have h8 : flG k ro true % 256 / 8 = 1 := by unfold flG; simp; split <;> omega
    have h4 : flG k ro true % 256 % 4 = k := by unfold flG; simp; split <;> omega
    have h2 : decide (flG k ro true % 256 / 4 % 2 = 1) = ro := by unfold flG; cases ro <;> simp <;> omega
    have eo : (UInt8.ofNat off).toNat = off := b_of ho
    have el : (UInt8.ofNat (ln - 1)).toNat = ln - 1 := b_of (by omega)
    rw [if_pos h8]
    simp only [if_true, h4, h2, eo, el, wantG]
    rw [if_neg (by omega), show ln - 1 + 1 = ln by omega]
  | false =>
    have h8 : ¬ flG k ro false % 256 / 8 = 1 := by unfold flG; simp; split <;> omega
    have h4 : flG k ro false % 256 % 4 = k := by unfold flG; simp; split <;> omega
    have h2 : decide (flG k ro false % 256 / 4 % 2 = 1) = ro := by unfold flG; cases ro <;> simp <;> omega
    rw [if_neg h8]
    simp [h4, h2, wantG]
end Go.Proofs.Ytbbaplcfhofeeaa

/-
  Package grant on plain data: members, live maps, and each call as a function. No walk here.
-/
set_option linter.unusedSimpArgs false
set_option linter.unusedVariables false
namespace Go.Proofs.Ytbbaplcfhofeeaa

/-- a live map: handle, caller, owner, entry, frame, for writing? -/
structure Mpd where
  h : Int
  c : Int
  o : Int
  r : Int
  m : Int
  wr : Bool
def Mpd.val (a : Mpd) : Value := .agg #[.int .i64 a.h, .int .i64 a.c, .int .i64 a.o, .int .i64 a.r, .int .i64 a.m, .bool a.wr]
def mpd0 : Mpd := ⟨0, 0, 0, 0, 0, false⟩
/-- who has joined, with its grant frame and the number of its map of places; the live maps by caller and handle -/
structure Gst where
  mem : Nat → Option (Int × Nat)
  mp : Int × Int → Option Mpd
def gst0 : Gst := ⟨fun _ => none, fun _ => none⟩
def gdom (d : Int) : Bool := decide (0 ≤ d) && decide (d < 8)
theorem gdom_yes {d : Int} : gdom d = true ↔ 0 ≤ d ∧ d < 8 := by simp [gdom]
theorem gdom_no {d : Int} : gdom d = false ↔ d < 0 ∨ 8 ≤ d := by
  simp only [gdom, Bool.and_eq_false_iff, decide_eq_false_iff_not]; omega
def Gst.joined (g : Gst) (d : Int) : Bool := gdom d && (g.mem d.toNat).isSome
def Gst.slot (g : Gst) (d r : Int) : Bool := g.joined d && (decide (0 ≤ r) && decide (r < 32))
theorem Gst.joined_yes {g : Gst} {d : Int} : g.joined d = true ↔ (0 ≤ d ∧ d < 8) ∧ ∃ x, g.mem d.toNat = some x := by
  simp [Gst.joined, gdom_yes, Option.isSome_iff_exists]
theorem Gst.slot_yes {g : Gst} {d r : Int} : g.slot d r = true ↔ ((0 ≤ d ∧ d < 8) ∧ ∃ x, g.mem d.toNat = some x) ∧ 0 ≤ r ∧ r < 32 := by
  simp only [Gst.slot, Bool.and_eq_true, Gst.joined_yes, decide_eq_true_eq]
def Gst.setMem (g : Gst) (d : Nat) (x : Option (Int × Nat)) : Gst := { g with mem := fun k => if k = d then x else g.mem k }
def Gst.setMp (g : Gst) (k : Int × Int) (x : Option Mpd) : Gst := { g with mp := fun i => if i = k then x else g.mp i }
/-- machine, maps of places, grants -/
structure Gs where
  M : Mach
  P : Nat → Mp
  g : Gst
def Gs.setM (s : Gs) (M : Mach) : Gs := { s with M := M }
def kindW (wr : Bool) : Int := if wr = true then 1 else 0

def Gs.join (s : Gs) (d mfn : Int) (i : Nat) : Int × Gs :=
  if gdom d = false then (1, s) else
  if (s.g.mem d.toNat).isSome = true then (8, s) else
  if (s.M.get mfn d 1).1 = 0 then (0, ⟨(s.M.get mfn d 1).2, s.P, s.g.setMem d.toNat (some (mfn, i))⟩) else ((s.M.get mfn d 1).1, s)
def Gs.leave (s : Gs) (d : Int) : Int × Gs :=
  if gdom d = false then (1, s) else
  match s.g.mem d.toNat with
  | none => (6, s)
  | some (t, _) => (0, ⟨(s.M.put t 1).2, s.P, s.g.setMem d.toNat none⟩)
/-- the least handle that a caller has not in use -/
def Gst.free (g : Gst) (c : Int) : Option Nat := (List.range 16).find? fun h : Nat => (g.mp (c, (h : Int))).isNone
/-- bytes as an entry of that kind for that domain -/
def entV (b : List UInt8) (kind dom : Int) : Option GV := if (unpG b).2 = 0 ∧ (unpG b).1.k = kind ∧ (unpG b).1.dom = dom then some (unpG b).1 else none
def Gs.table (s : Gs) (d : Int) : Int := match s.g.mem d.toNat with | some (t, _) => t | none => 0
def Gs.owns (s : Gs) (d m : Int) : Bool := s.M.is m && ((s.M.fr m.toNat).owner == d)
/-- the frame that an entry of an owner names -/
def Gs.granted (s : Gs) (o gpfn : Int) : Option Int :=
  match s.g.mem o.toNat with
  | some (_, i) => if ((s.P i).getE gpfn).2 = 0 ∧ s.owns o ((s.P i).getE gpfn).1 = true then some ((s.P i).getE gpfn).1 else none
  | none => none
/-- Map behind its read: b the entry's bytes -/
def Gs.mapE (s : Gs) (b : List UInt8) (c o r : Int) (wr : Bool) (h : Nat) : Int × Int × Gs :=
  match entV b 1 c with
  | none => (0, 60, s)
  | some g =>
    if g.sub = true then (0, 61, s) else
    if (wr && g.ro) = true then (0, 62, s) else
    match s.granted o g.gpfn with
    | none => (0, 60, s)
    | some m => if (s.M.get m o (kindW wr)).1 = 0 then (h, 0, ⟨(s.M.get m o (kindW wr)).2, s.P, s.g.setMp (c, h) (some ⟨h, c, o, r, m, wr⟩)⟩) else (0, (s.M.get m o (kindW wr)).1, s)
/-- ahead of it -/
def Gs.map0 (s : Gs) (c o r : Int) : Option Int ⊕ Nat :=
  if (gdom c && s.g.slot o r) = false then .inl (some 1) else
  match s.g.free c with
  | none => .inl (some 64)
  | some h => .inr h
def Gs.live (s : Gs) (c h : Int) : Mpd × Int :=
  if gdom c = false then (mpd0, 1) else
  match s.g.mp (c, h) with
  | none => (mpd0, 6)
  | some a => (a, 0)
def Gs.unmap (s : Gs) (c h : Int) : Int × Gs :=
  if (s.live c h).2 = 0 then (0, ⟨(s.M.put (s.live c h).1.m (kindW (s.live c h).1.wr)).2, s.P, s.g.setMp (c, h) none⟩) else ((s.live c h).2, s)
def Gs.write (s : Gs) (c h off : Int) (b : List UInt8) : Int × Gs :=
  if (s.live c h).2 ≠ 0 then ((s.live c h).2, s) else
  if (s.live c h).1.wr = false then (62, s) else
  if inP off b.length = false then (63, s) else
  ((s.M.write (s.live c h).1.m off b).1, s.setM (s.M.write (s.live c h).1.m off b).2)
/-- an end that was found: frame, first byte, size; may it be written? -/
structure EndV where
  m : Int
  first : Int
  size : Int
  ro : Bool
def EndV.at (a : EndV) (off n : Int) : Int × Int := if off < 0 ∨ n < 0 ∨ a.size - off < n then (0, 63) else (a.first + off, 0)
/-- the maps of a caller, of an owner -/
def Gst.mapsOf (g : Gst) (c : Int) (k : Nat) : List Mpd := (List.range k).filterMap fun h : Nat => g.mp (c, (h : Int))
def allKeys : List (Int × Int) := (List.range 8).flatMap fun c : Nat => (List.range 16).map fun h : Nat => ((c : Int), (h : Int))
def Gst.foreign (g : Gst) (o : Int) : Nat := (allKeys.filter fun k => match g.mp k with | some a => a.o == o | none => false).length

theorem find_le {α : Type} {p : α → Bool} {l : List α} {x : α} (h : l.find? p = some x) : x ∈ l := List.mem_of_find?_eq_some h
theorem Gst.free_lt {g : Gst} {c : Int} {h : Nat} (e : g.free c = some h) : h < 16 := by simpa using find_le e
theorem Gst.free_at {g : Gst} {c : Int} {k : Nat} (hk : k < 16) (hb : ∀ j : Nat, j < k → (g.mp (c, (j : Int))).isSome = true) (hn : (g.mp (c, (k : Int))).isSome = false) : g.free c = some k := by
  unfold Gst.free
  obtain ⟨d, hd⟩ : ∃ d, 16 = k + 1 + d := ⟨16 - (k + 1), by omega⟩
  rw [hd, List.range_add, List.range_succ, List.append_assoc, List.find?_append]
  rw [List.find?_eq_none.2 (by intro j hj; have := hb j (by simpa using hj); simp at this ⊢; cases e : g.mp (c, (j : Int)) <;> simp_all)]
  simp at hn
  simp [hn]
theorem Gst.free_none {g : Gst} {c : Int} (hb : ∀ j : Nat, j < 16 → (g.mp (c, (j : Int))).isSome = true) : g.free c = none := by
  unfold Gst.free
  rw [List.find?_eq_none]
  intro j hj
  have := hb j (by simpa using hj)
  cases e : g.mp (c, (j : Int)) <;> simp_all
theorem Gst.free_is {g : Gst} {c : Int} {h : Nat} (e : g.free c = some h) : g.mp (c, (h : Int)) = none := by
  have := List.find?_some e
  simpa using this
end Go.Proofs.Ytbbaplcfhofeeaa

/-
  Maps whose keys have any readable shape, to values that are not looked into, as functions; for any program. No walk here.
-/
set_option linter.unusedSimpArgs false
set_option linter.unusedVariables false
namespace Go.Proofs.Ytbbaplcfhofeeaa.KM
open Go.RowKit

/-- the keys of type k are the values mk x, x being fit -/
structure KS (P : Program) (k : TypeId) {κ : Type} (mk : κ → Value) (fit : κ → Prop) : Prop where
  K : Maps.Keyed P k
  wf : ∀ x, fit x → ∃ kl, keyOf P k (mk x) = some kl
  inv : ∀ v kl, keyOf P k v = some kl → ∃ x, v = mk x ∧ fit x
  inj : ∀ x y, mk x = mk y → x = y
/-- an element as it is -/
def heldElem (v : Value) : Option (DataW Value × List MemPlace) := some (.held v, [])
/-- D, read, is the function f -/
def Reads {κ : Type} (P : Program) (k : TypeId) (mk : κ → Value) (z : Value) (D : DataW Value) (f : κ → Option Value) : Prop :=
  ∀ x kl, keyOf P k (mk x) = some kl → Maps.has D kl = (f x).isSome ∧ D.atKey kl (.held z) = .held ((f x).getD z)
/-- block b is a map of at most T entries that is the function f; z is its elements' zero -/
def KMap {κ : Type} (P : Program) (k : TypeId) (mk : κ → Value) (z : Value) (w : World) (b T : Nat) (f : κ → Option Value) : Prop :=
  ∃ D : DataW Value, w.ownsMap P k heldElem b T D ∧ Maps.IsMap D ∧ Reads P k mk z D f

section
variable {κ : Type} [DecidableEq κ] {P : Program} {k : TypeId} {mk : κ → Value} {fit : κ → Prop} {z : Value} {w w' : World} {b T : Nat} {f : κ → Option Value}
omit [DecidableEq κ]
theorem KMap.lt (h : KMap P k mk z w b T f) : b < w.heap.size := by obtain ⟨D, h, _⟩ := h; exact h.lt
theorem KMap.same (h : KMap P k mk z w b T f) (hb : w'.heap[b]? = w.heap[b]?) : KMap P k mk z w' b T f := by
  obtain ⟨D, ⟨es, c, h0, r⟩, q⟩ := h
  exact ⟨D, ⟨es, c, hb.trans h0, r⟩, q⟩
theorem KMap.grown {row : Option Nat} (h : KMap P k mk z w b T f) (hg : w.grownBy w' row) (hr : some b ≠ row) : KMap P k mk z w' b T f := h.same (hg.block b h.lt hr)
theorem KMap.alloc (h : KMap P k mk z w b T f) (o : Obj) : KMap P k mk z (w.alloc o) b T f := h.grown (World.grownBy_alloc w o none) (by simp)
theorem KMap.drew (h : KMap P k mk z w b T f) : KMap P k mk z w.drew b T f := h
theorem KMap.mono (h : KMap P k mk z w b T f) {T' : Nat} (hT : T ≤ T') : KMap P k mk z w b T' f := by obtain ⟨D, h, r⟩ := h; exact ⟨D, h.mono hT, r⟩
theorem KMap.congr (h : KMap P k mk z w b T f) {f' : κ → Option Value} (hf : ∀ g, f' g = f g) : KMap P k mk z w b T f' := by obtain ⟨D, h, m, r⟩ := h; exact ⟨D, h, m, fun g kl hk => by rw [hf g]; exact r g kl hk⟩
theorem KMap.made (w : World) (P : Program) (k : TypeId) (mk : κ → Value) (z : Value) : KMap P k mk z (w.alloc (.map #[] 0)) w.heap.size 0 (fun _ => none) :=
  ⟨.map [], World.ownsMap_made w P k _, ⟨_, rfl⟩, fun _ _ _ => ⟨rfl, rfl⟩⟩
/-- the block is a map's -/
theorem KMap.isMap (h : KMap P k mk z w b T f) : ∃ es c, w.heap[b]? = some (.map es c) := by obtain ⟨D, ⟨es, c, h0, _⟩, _⟩ := h; exact ⟨es, c, h0⟩
theorem KS.ne (S : KS P k mk fit) {x y : κ} (h : x ≠ y) {kx ky : Lit} (hx : keyOf P k (mk x) = some kx) (hy : keyOf P k (mk y) = some ky) : kx ≠ ky :=
  fun e => h (S.inj x y (S.K.inj hx (e ▸ hy)))
end

section
variable {κ : Type} [DecidableEq κ] {P : Program} (w : World) {k : TypeId} {mk : κ → Value} {fit : κ → Prop} {ops : Array Oper} {rest : List Oper} {o : Oper} {a : Act} {Q : Exit → Act → World → Prop}
open Go.Maps (Keyed)
theorem Reads.upd {z : Value} {D : DataW Value} {f : κ → Option Value} (S : KS P k mk fit) (hD : Maps.IsMap D) (hf : Reads P k mk z D f) {x : κ} {kl : Lit} (hx : keyOf P k (mk x) = some kl) (v : Value) :
    Reads P k mk z (D.put kl (.held v)) (fun i => if i = x then some v else f i) := fun y ky hy => by
  show _ = ((if y = x then some v else f y) : Option Value).isSome ∧ _ = DataW.held (((if y = x then some v else f y) : Option Value).getD z)
  by_cases e : y = x
  · subst e
    rw [hx] at hy
    cases hy
    rw [if_pos rfl, Maps.has_put_same hD (S.K.key hx), Maps.atKey_put_same hD (S.K.key hx)]
    exact ⟨rfl, rfl⟩
  · rw [if_neg e, Maps.has_put_other (S.ne e hy hx), Maps.atKey_put_other (S.ne e hy hx)]
    exact hf y ky hy
theorem Reads.del {z : Value} {D : DataW Value} {f : κ → Option Value} (S : KS P k mk fit) (hf : Reads P k mk z D f) {x : κ} {kl : Lit} (hx : keyOf P k (mk x) = some kl) :
    Reads P k mk z (D.del kl) (fun i => if i = x then none else f i) := fun y ky hy => by
  show _ = ((if y = x then none else f y) : Option Value).isSome ∧ _ = DataW.held (((if y = x then none else f y) : Option Value).getD z)
  by_cases e : y = x
  · subst e
    rw [hx] at hy
    cases hy
    rw [if_pos rfl, Maps.has_del_same, Maps.atKey_del_same]
    exact ⟨rfl, rfl⟩
  · rw [if_neg e, Maps.has_del_other (S.ne e hy hx), Maps.atKey_del_other (S.ne e hy hx)]
    exact hf y ky hy
omit [DecidableEq κ] in
/-- 'm[k]' as an equation -/
theorem KMap.look {t e : TypeId} {z : Value} {b T : Nat} {f : κ → Option Value} (h : KMap P k mk z w b T f) (S : KS P k mk fit) (ht : P.underlying t = some (.map k e)) (hz : (zeroValue e).run P w = .ok z w) {x : κ} (hx : fit x) :
    (Instr.lookup t (.map (some b)) (mk x) false).run P w = .ok ((f x).getD z) w := by
  obtain ⟨D, h, hD, hf⟩ := h
  obtain ⟨kl, hkl⟩ := S.wf x hx
  obtain ⟨v, ps, hrun, hv⟩ := h.lookup S.K ht hz (zd := .held z) (zp := []) rfl hkl
  obtain ⟨h1, h2⟩ := hf x kl hkl
  rw [h2] at hv
  simp only [heldElem, Option.some.injEq, Prod.mk.injEq] at hv
  obtain ⟨e, _⟩ := hv
  injection e with e
  rw [hrun, e]
omit [DecidableEq κ] in
/-- 'v, ok := m[k]' as an equation -/
theorem KMap.look_ok {t e : TypeId} {z : Value} {b T : Nat} {f : κ → Option Value} (h : KMap P k mk z w b T f) (S : KS P k mk fit) (ht : P.underlying t = some (.map k e)) (hz : (zeroValue e).run P w = .ok z w) {x : κ} (hx : fit x) :
    (Instr.lookup t (.map (some b)) (mk x) true).run P w = .ok (.tuple #[(f x).getD z, .bool (f x).isSome]) w := by
  obtain ⟨D, h, hD, hf⟩ := h
  obtain ⟨kl, hkl⟩ := S.wf x hx
  obtain ⟨v, ps, hrun, hv⟩ := h.look_ok S.K ht hz (zd := .held z) (zp := []) rfl hkl
  obtain ⟨h1, h2⟩ := hf x kl hkl
  rw [h2] at hv
  simp only [heldElem, Option.some.injEq, Prod.mk.injEq] at hv
  obtain ⟨e, _⟩ := hv
  injection e with e
  rw [hrun, e, h1]
/-- 'm[k] = v' as an equation -/
theorem KMap.store {t e : TypeId} {z : Value} {b T : Nat} {f : κ → Option Value} (h : KMap P k mk z w b T f) (S : KS P k mk fit) (ht : P.underlying t = some (.map k e)) (hn : T < maxLen) {x : κ} (hx : fit x) (v : Value) :
    ∃ w', (Instr.mapUpdate t (.map (some b)) (mk x) v).run P w = .ok () w' ∧ KMap P k mk z w' b (T + 1) (fun i => if i = x then some v else f i) ∧ w.grownBy w' (some b) := by
  obtain ⟨D, h, hD, hf⟩ := h
  obtain ⟨kl, hkl⟩ := S.wf x hx
  obtain ⟨w', hrun, h', hg'⟩ := h.update S.K ht hn hkl (val := v) (d := .held v) (ps := []) rfl
  exact ⟨w', hrun, ⟨_, h', hD.put _ _, hf.upd S hD hkl v⟩, hg'⟩
/-- 'delete(m, k)' as an equation -/
theorem KMap.drop {t e : TypeId} {z : Value} {b T : Nat} {f : κ → Option Value} (h : KMap P k mk z w b T f) (S : KS P k mk fit) (ht : P.underlying t = some (.map k e)) {x : κ} (hx : fit x) (ty : TypeId) :
    ∃ w', (Builtin.delete_ #[t, k] ty #[.map (some b), mk x]).run P w = .ok (.tuple #[]) w' ∧ KMap P k mk z w' b T (fun i => if i = x then none else f i) ∧ w.grownBy w' (some b) := by
  obtain ⟨D, h, hD, hf⟩ := h
  obtain ⟨kl, hkl⟩ := S.wf x hx
  obtain ⟨w', hrun, h1, h2⟩ := h.drop S.K ht hkl ty
  exact ⟨w', hrun, ⟨_, h1, hD.del _, hf.del S hkl⟩, h2.grown⟩
omit [DecidableEq κ] in
theorem wpList_look_kmap (hg : o.guard = none) (m x : Operand) (t : TypeId) (hop : o.op = Op.lookup t m x false)
    (e : TypeId) (S : KS P k mk fit) (ht : P.underlying t = some (.map k e)) (z : Value) (hz : (zeroValue e).run P w = .ok z w) (b T : Nat) (f : κ → Option Value)
    (hm : a.eval m = .map (some b)) (hown : KMap P k mk z w b T f) (g : κ) (hx : a.eval x = mk g) (hw : fit g)
    (hK : wpList P ops Q rest (a.put o.dst ((f g).getD z)) w) :
    wpList P ops Q (o :: rest) a w := by
  refine wpList_plain hg fun K' hK' => ?_
  have hrun := hown.look w S ht hz hw
  unfold Oper.wp
  simp [execOp, hop, hm, hx, hrun, Result.andThen]
  exact hK' _ _ hK
omit [DecidableEq κ] in
theorem wpList_look_ok_kmap (hg : o.guard = none) (m x : Operand) (t : TypeId) (hop : o.op = Op.lookup t m x true)
    (e : TypeId) (S : KS P k mk fit) (ht : P.underlying t = some (.map k e)) (z : Value) (hz : (zeroValue e).run P w = .ok z w) (b T : Nat) (f : κ → Option Value)
    (hm : a.eval m = .map (some b)) (hown : KMap P k mk z w b T f) (g : κ) (hx : a.eval x = mk g) (hw : fit g)
    (hK : wpList P ops Q rest (a.put o.dst (.tuple #[(f g).getD z, .bool (f g).isSome])) w) :
    wpList P ops Q (o :: rest) a w := by
  refine wpList_plain hg fun K' hK' => ?_
  have hrun := hown.look_ok w S ht hz hw
  unfold Oper.wp
  simp [execOp, hop, hm, hx, hrun, Result.andThen]
  exact hK' _ _ hK
theorem wpList_mapUpdate_kmap (hg : o.guard = none) (m x v : Operand) (t : TypeId) (hop : o.op = Op.mapUpdate t m x v)
    (e : TypeId) (S : KS P k mk fit) (ht : P.underlying t = some (.map k e)) (z : Value) (b T : Nat) (f : κ → Option Value)
    (hm : a.eval m = .map (some b)) (hown : KMap P k mk z w b T f) (hn : T < maxLen) (g : κ) (hx : a.eval x = mk g) (hw : fit g) (y : Value) (hv : a.eval v = y)
    (hK : ∀ w', KMap P k mk z w' b (T + 1) (fun i => if i = g then some y else f i) → w.grownBy w' (some b) → wpList P ops Q rest (a.put o.dst undef) w') :
    wpList P ops Q (o :: rest) a w := by
  refine wpList_plain hg fun K' hK' => ?_
  obtain ⟨w', hrun, h1, h2⟩ := hown.store w S ht hn hw y
  unfold Oper.wp
  simp [execOp, hop, hm, hx, hv, hrun, Result.andThen]
  exact hK' _ _ (hK w' h1 h2)
theorem wpList_delete_kmap (hg : o.guard = none) (m x : Operand) (t : TypeId) (hop : o.op = Op.call { callee := Callee.builtin Builtin.delete, args := #[m, x], argTypes := #[t, k] })
    (e : TypeId) (S : KS P k mk fit) (ht : P.underlying t = some (.map k e)) (z : Value) (b T : Nat) (f : κ → Option Value)
    (hm : a.eval m = .map (some b)) (hown : KMap P k mk z w b T f) (g : κ) (hx : a.eval x = mk g) (hw : fit g)
    (hK : ∀ w', KMap P k mk z w' b T (fun i => if i = g then none else f i) → w.grownBy w' (some b) → wpList P ops Q rest (a.put o.dst (.tuple #[])) w') :
    wpList P ops Q (o :: rest) a w := by
  obtain ⟨D, h, hD, hf⟩ := hown
  obtain ⟨kl, hkl⟩ := S.wf g hw
  exact wpList_delete_own w hg m x t k hop e S.K ht heldElem b T D hm h (mk g) kl hx hkl
    fun w' h' hg' => hK w' ⟨_, h', hD.del _, hf.del S hkl⟩ hg'.grown

/-- an iterator r over the map b; left x: is the entry at x still to come? -/
def KRange {κ : Type} (P : Program) (k : TypeId) (mk : κ → Value) (z : Value) (w : World) (b r T : Nat) (f : κ → Option Value) (left : κ → Bool) : Prop :=
  ∃ (D : DataW Value) (lf : Lit → Bool) (cnt : Nat), w.ranges P k heldElem b r T D lf cnt ∧ Reads P k mk z D f ∧ (∀ x kl, keyOf P k (mk x) = some kl → lf kl = left x)
omit [DecidableEq κ] in
theorem wpList_range_kmap (hg : o.guard = none) (m : Operand) (t : TypeId) (hop : o.op = Op.range t m) (e : TypeId) (S : KS P k mk fit) (ht : P.underlying t = some (.map k e)) (z : Value) (b T : Nat) (f : κ → Option Value)
    (hm : a.eval m = .map (some b)) (hown : KMap P k mk z w b T f)
    (hK : ∀ w', KRange P k mk z w' b w.heap.size T f (fun x => (f x).isSome) → w.grownBy w' none → w'.heap.size = w.heap.size + 1 → wpList P ops Q rest (a.put o.dst (.pointer (some ⟨w.heap.size, 0, none⟩))) w') :
    wpList P ops Q (o :: rest) a w := by
  obtain ⟨D, h, hD, hf⟩ := hown
  exact wpList_range_own w hg m t hop k e S.K ht heldElem b T D hm h fun w' hr hg' hs => hK w' ⟨D, _, _, hr, hf, fun x kl hx => (hf x kl hx).1⟩ hg' hs
theorem wpList_next_kmap (hg : o.guard = none) (it : Operand) (hop : o.op = Op.next it false) (S : KS P k mk fit) (z : Value) (b r T : Nat) (f : κ → Option Value) (left : κ → Bool)
    (hit : a.eval it = .pointer (some ⟨r, 0, none⟩)) (h : KRange P k mk z w b r T f left)
    (hDone : (∀ x, fit x → left x = false) → wpList P ops Q rest (a.put o.dst (.tuple #[.bool false])) w)
    (hMore : ∀ (x : κ) (c : Value) (w' : World), fit x → left x = true → f x = some c → KRange P k mk z w' b r T f (fun y => left y && decide (y ≠ x)) → w'.rangeLeft b r < w.rangeLeft b r →
      w.grownBy w' (some r) → w'.heap.size = w.heap.size → (Instr.entry (.pointer (some ⟨r, 0, none⟩))).run P w' = .ok (.tuple #[mk x, c]) w' → wpList P ops Q rest (a.put o.dst (.tuple #[.bool true, mk x, c])) w') :
    wpList P ops Q (o :: rest) a w := by
  obtain ⟨D, lf, cnt, hr, hf, hl⟩ := h
  have hr0 := hr
  refine wpList_next_ranges w hg it hop k S.K heldElem mk (fun v : Value => v) (fun key kl hkey => by obtain ⟨x, rfl, _⟩ := S.inv key kl hkey; exact ⟨x, rfl⟩) (fun v y _ => ⟨v, rfl⟩) b r T D lf cnt hit hr
    (fun _ hl0 => hDone fun x hx => by obtain ⟨kl, hkl⟩ := S.wf x hx; rw [← hl x kl hkl]; exact hl0 _)
    (fun x c kl y w' cnt' hkey hlk hv hat hrg hlt hgr hsz hen => ?_)
  obtain ⟨x', ex, hwx⟩ := S.inv _ kl hkey
  obtain rfl := S.inj _ _ ex
  simp only [heldElem, Option.some.injEq] at hv
  subst hv
  obtain ⟨h1, h2⟩ := hf x kl hkey
  have hfx : f x = some c := by
    have e1 := hat (.held z)
    rw [h2] at e1
    injection e1 with e1
    have hz := Maps.has_true_of_atKey hat
    rw [h1] at hz
    obtain ⟨q, hq⟩ := Option.isSome_iff_exists.1 hz
    rw [hq] at e1 ⊢
    simp only [Option.getD_some] at e1
    rw [e1]
  refine hMore x c w' hwx (by rw [← hl x kl hkey]; exact hlk) hfx ⟨D, _, cnt', hrg, hf, fun g kg hg' => ?_⟩ (by rw [hrg.left_eq, hr0.left_eq]; exact hlt) hgr hsz hen
  rw [hl g kg hg']
  congr 1
  by_cases e : g = x
  · subst e
    rw [hkey] at hg'
    cases hg'
    simp [WideAt.sameKey_self (S.K.key hkey)]
  · rw [Maps.sameKey_ne (S.ne e hg' hkey)]; simp [e]
end
/-! ### at a step of a region that draws its order -/
section
variable {κ : Type} [DecidableEq κ] {P : Program} (w : World) {kt : TypeId} {mk : κ → Value} {fit : κ → Prop} {ops : Array Oper} {o : Oper} {a : Act} {K : Act → World → Prop} {Q : Exit → Act → World → Prop} {E : Prop}
theorem step_store_kmap (hg : o.guard = none) (m x v : Operand) (t : TypeId) (hop : o.op = Op.mapUpdate t m x v)
    (e : TypeId) (S : KS P kt mk fit) (ht : P.underlying t = some (.map kt e)) (z : Value) (b T : Nat) (f : κ → Option Value)
    (hm : a.eval m = .map (some b)) (hown : KMap P kt mk z w b T f) (hn : T < maxLen) (g : κ) (hx : a.eval x = mk g) (hw : fit g) (y : Value) (hv : a.eval v = y)
    (h : ∀ w', KMap P kt mk z w' b (T + 1) (fun i => if i = g then some y else f i) → w.grownBy w' (some b) → K (a.put o.dst undef) w') :
    if Region.wanted o (yielded ops a.tmps) = true then Oper.wp P o a w K Q else E := by
  have hw' : Region.wanted o (yielded ops a.tmps) = true := by simp [Region.wanted, hg]
  rw [if_pos hw']
  obtain ⟨w', hrun, h1, h2⟩ := hown.store w S ht hn hw y
  unfold Oper.wp
  simp [execOp, hop, hm, hx, hv, hrun, Result.andThen]
  exact h w' h1 h2
theorem step_delete_kmap (hg : o.guard = none) (m x : Operand) (t : TypeId) (hop : o.op = Op.call { callee := Callee.builtin Builtin.delete, args := #[m, x], argTypes := #[t, kt] })
    (e : TypeId) (S : KS P kt mk fit) (ht : P.underlying t = some (.map kt e)) (z : Value) (b T : Nat) (f : κ → Option Value)
    (hm : a.eval m = .map (some b)) (hown : KMap P kt mk z w b T f) (g : κ) (hx : a.eval x = mk g) (hw : fit g)
    (h : ∀ w', KMap P kt mk z w' b T (fun i => if i = g then none else f i) → w.grownBy w' (some b) → K (a.put o.dst (.tuple #[])) w') :
    if Region.wanted o (yielded ops a.tmps) = true then Oper.wp P o a w K Q else E := by
  have hw' : Region.wanted o (yielded ops a.tmps) = true := by simp [Region.wanted, hg]
  rw [if_pos hw']
  obtain ⟨w', hrun, h1, h2⟩ := hown.drop w S ht hw o.type
  unfold Oper.wp
  simp [execOp, hop, resolve, invoke, builtin, hm, hx, hrun, Result.andThen]
  exact h w' h1 h2
end

/-! ### keys that are structs of two ints -/
section
variable {P : Program} {k t : TypeId}
def key2 (x : Int × Int) : Value := .agg #[.int .i64 x.1, .int .i64 x.2]
def fit2 (x : Int × Int) : Prop := (Lit.int .i64 x.1).wf = true ∧ (Lit.int .i64 x.2).wf = true
theorem keyLits_int {ti : TypeId} (hi : P.underlying ti = some (.int .i64)) (D : Nat) (v : Value) : P.keyLits (D + 1) ti [v] = (match v with | .int q n => if q = .i64 ∧ (Lit.int .i64 n).wf = true then some [.int .i64 n] else none | _ => none) := by
  unfold Program.keyLits
  rw [hi]
  cases v <;> simp
/-- a key type that is a struct of two ints: what is told of it ahead -/
structure IsKey2 (P : Program) (k : TypeId) : Prop where
  laid : laidOutB P = true
  row : k < P.types.size
  deep : P.keyTypeAt 2 k = true
  key : P.keyType k = true
  some1 : 1 ≤ P.types.size
  cells : P.cellsOf k = 2
  str : ∃ f0 f1 : Field, ∃ ti, P.underlying k = some (.struct #[f0, f1]) ∧ f0.type = ti ∧ f1.type = ti ∧ f0.offset = 0 ∧ f1.offset = 1 ∧ (f0.name != "_") = true ∧ (f1.name != "_") = true ∧ P.underlying ti = some (.int .i64) ∧ P.cellsOf ti = 1
theorem IsKey2.ks (h : IsKey2 P k) : KS P k key2 fit2 := by
  obtain ⟨f0, f1, ti, hk, h0, h1, o0, o1, n0, n1, hi, hc⟩ := h.str
  have hform : ∀ xs : Array Value, (Value.agg xs).formed P k = (xs.size == 2) := fun xs => by simp only [Value.formed, hk, h.cells]
  obtain ⟨m, hm⟩ : ∃ m, P.types.size = m + 1 := ⟨P.types.size - 1, by have := h.some1; omega⟩
  have hlits : ∀ a b : Value, P.keyLits (P.types.size + 1) k [a, b] = (do let x ← P.keyLits (m + 1) ti [a]; let y ← P.keyLits (m + 1) ti [b]; pure [x, y] : Option (List (List Lit))).map List.flatten := fun a b => by
    rw [hm]
    rw [show P.keyLits (m + 1 + 1) k [a, b] = (if [a, b].length = P.cellsOf k ∧ (#[f0, f1] : Array Field).all (·.name != "_") = true then ((#[f0, f1] : Array Field).toList.mapM fun f => P.keyLits (m + 1) f.type (([a, b].drop f.offset).take (P.cellsOf f.type))).map List.flatten else none) by
      conv => lhs; unfold Program.keyLits
      rw [hk]]
    rw [if_pos ⟨by rw [h.cells]; rfl, by simp only [Array.all_eq_true_iff_forall_mem]; intro f hf; simp at hf; rcases hf with rfl | rfl <;> assumption⟩]
    simp only [List.mapM_cons, List.mapM_nil, h0, h1, o0, o1, hc, List.drop_zero, List.drop_succ_cons, List.take_succ_cons, List.take_zero]
    cases P.keyLits (m + 1) ti [a] <;> cases P.keyLits (m + 1) ti [b] <;> rfl
  refine ⟨Maps.Keyed.of_law (deep_law_laid h.laid (m := 2) (by omega) h.row h.deep (by rw [hk])), fun x hx => ?_, fun v kl hv => ?_, fun x y e => ?_⟩
  · refine ⟨.string (keyBytes [.int .i64 x.1, .int .i64 x.2]), ?_⟩
    unfold keyOf
    rw [hk]
    simp only [h.key, key2, hform]
    rw [if_pos (by simp), show (Value.agg #[Value.int .i64 x.1, Value.int .i64 x.2]).cells.toList = [Value.int .i64 x.1, Value.int .i64 x.2] from rfl, hlits, keyLits_int hi, keyLits_int hi]
    simp only [hx.1, hx.2]
    rfl
  · unfold keyOf at hv
    rw [hk] at hv
    simp only [h.key, Bool.true_and] at hv
    split at hv
    · rename_i hf
      cases v with
      | agg xs =>
        rw [hform] at hf
        obtain ⟨a, b, rfl⟩ : ∃ a b, xs = #[a, b] := by
          obtain ⟨l⟩ := xs
          simp at hf
          match l, hf with
          | [a, b], _ => exact ⟨a, b, rfl⟩
        have hl : ∃ ls, P.keyLits (P.types.size + 1) k [a, b] = some ls := by
          cases e : P.keyLits (P.types.size + 1) k [a, b] with
          | none => rw [show (Value.agg #[a, b]).cells.toList = [a, b] from rfl, e] at hv; cases hv
          | some ls => exact ⟨ls, rfl⟩
        obtain ⟨ls, hl⟩ := hl
        rw [hlits, keyLits_int hi, keyLits_int hi] at hl
        cases a with
        | int q n =>
          cases b with
          | int q' n' =>
            simp only at hl
            split at hl
            · rename_i ha
              split at hl
              · rename_i hb
                exact ⟨(n, n'), by rw [ha.1, hb.1]; rfl, ha.2, hb.2⟩
              · simp at hl
            · simp at hl
          | _ => simp at hl
        | _ => simp at hl
      | _ => simp [Value.formed, hk] at hf
    · cases hv
  · simp only [key2, Value.agg.injEq, Array.mk.injEq, List.cons.injEq, Value.int.injEq, true_and, and_true] at e
    exact Prod.ext e.1 e.2
end
end Go.Proofs.Ytbbaplcfhofeeaa.KM

/-
  Contracts of package tenementref01: Is, Domain, still, In.
-/
set_option linter.unusedSimpArgs false
set_option linter.unusedVariables false
namespace Go.Proofs.Ytbbaplcfhofeeaa
open Go.RowKit
set_option maxHeartbeats 400000

end Go.Proofs.Ytbbaplcfhofeeaa

/-
  Contracts of package tenementref01: Owned, Left, Alloc, Free, Give.
-/
set_option linter.unusedSimpArgs false
set_option linter.unusedVariables false
namespace Go.Proofs.Ytbbaplcfhofeeaa
open Go.RowKit
set_option maxHeartbeats 400000

def partL (M : Mach) (o : Int) (k : Nat) : List Nat := (List.range k).filter fun j => (M.fr j).owner == o
theorem partL_all {M : Mach} {L : Lay} (h : M.n = L.n) (o : Int) : M.ownedL o = partL M o L.n := by
  unfold Mach.ownedL partL
  rw [h]; rfl
theorem partL_le (M : Mach) (o : Int) (k : Nat) : (partL M o k).length ≤ k := by
  have := List.length_filter_le (fun j => (M.fr j).owner == o) (List.range k)
  simpa [partL] using this
theorem partL_in {M : Mach} {o : Int} {k : Nat} (h : ((M.fr k).owner == o) = true) : partL M o (k + 1) = partL M o k ++ [k] := by
  simp [partL, List.range_succ, h]
theorem partL_out {M : Mach} {o : Int} {k : Nat} (h : ((M.fr k).owner == o) = false) : partL M o (k + 1) = partL M o k := by
  simp [partL, List.range_succ, h]

theorem newInts_slice {w w' : World} {l : List Nat} {v : Value} (h : NewInts w l v w') : ∃ p c, v = .slice p l.length c := ownsRow_slice h.1
theorem chgF (b : Nat) (L : Lay) (w : World) (k : Nat) (v : Value) : Chg (L.foot b) w (w.setCell ⟨L.fF, k, none⟩ v) := Chg.of (grownBy_setCell w L.fF k none v) fun j e => .inl (.inr (.inl (Option.some.inj e).symm))

end Go.Proofs.Ytbbaplcfhofeeaa

/-
  Contracts of package tenementref01: Alloc, Get, Put.
-/
set_option linter.unusedSimpArgs false
set_option linter.unusedVariables false
namespace Go.Proofs.Ytbbaplcfhofeeaa
open Go.RowKit
set_option maxHeartbeats 400000

theorem row_cellN {base : Nat} {W : World} {e : TypeId} {v : Value} {l : List Nat} (h : W.ownsRow base e 1 v l.length (icells l)) {j : Nat} (hl : j < l.length) :
    ∃ g c, v = .slice (some ⟨g, 0, none⟩) l.length c ∧ W.cell? ⟨g, j, none⟩ = some (.int .i64 (l[j] : Nat)) := by
  obtain ⟨n, hn⟩ : ∃ m, l.length = m + 1 := ⟨l.length - 1, by omega⟩
  rw [hn] at h
  obtain ⟨g, cap, rfl⟩ := ownsRow_succ h
  refine ⟨g, cap, by rw [hn], ?_⟩
  rw [h.cellAt j (by omega)]
  simp [icells, hl]

end Go.Proofs.Ytbbaplcfhofeeaa

/-
  Contracts of package tenementref01: Get, Put.
-/
set_option linter.unusedSimpArgs false
set_option linter.unusedVariables false
namespace Go.Proofs.Ytbbaplcfhofeeaa
open Go.RowKit
set_option maxHeartbeats 400000

theorem box4 (w : World) (a b c d : Value) : ∃ W, w.alloc (.cells #[a, b, c, d] 62) = W ∧ W.heap.size = w.heap.size + 1 ∧ W.cell? ⟨w.heap.size, 0, none⟩ = some a ∧ W.cell? ⟨w.heap.size, 1, none⟩ = some b ∧ W.cell? ⟨w.heap.size, 2, none⟩ = some c ∧ W.cell? ⟨w.heap.size, 3, none⟩ = some d := by
  have h := heap_alloc_new w (.cells #[a, b, c, d] 62)
  exact ⟨_, rfl, by simp, cell_of_row _ _ 0 _ _ _ h, cell_of_row _ _ 1 _ _ _ h, cell_of_row _ _ 2 _ _ _ h, cell_of_row _ _ 3 _ _ _ h⟩
end Go.Proofs.Ytbbaplcfhofeeaa

/-
  Contracts of package tenementref01: Put.
-/
set_option linter.unusedSimpArgs false
set_option linter.unusedVariables false
namespace Go.Proofs.Ytbbaplcfhofeeaa
open Go.RowKit
set_option maxHeartbeats 400000

end Go.Proofs.Ytbbaplcfhofeeaa

/-
  Contracts of package tenementref01: Free.
-/
set_option linter.unusedSimpArgs false
set_option linter.unusedVariables false
namespace Go.Proofs.Ytbbaplcfhofeeaa
open Go.RowKit
set_option maxHeartbeats 400000

/-- a new page -/
def zeros : Array Value := madeCells #[.int .u8 0] 256
theorem zeros_size : zeros.size = 256 := size_madeCells _ _
theorem zeros_at (k : Nat) (h : k < 256) : zeros[k]? = some (.int .u8 0) := by
  unfold zeros
  simp [madeCells, h, Nat.mod_one]
attribute [irreducible] zeros
theorem make_zeros (W : World) : (Instr.makeSlice 103 (.int .i64 256) (.int .i64 256)).run Try.prog W = .ok (.slice (some ⟨W.heap.size, 0, none⟩) 256 256) (W.alloc (.cells zeros 5)) := by
  have := u8_make W 256 (by omega)
  unfold zeros
  exact this
theorem zeros_row (W : World) : Row (W.alloc (.cells zeros 5)) W.heap.size 5 256 (byt blankFr) :=
  ⟨zeros, heap_alloc_new W _, by rw [zeros_size]; omega, fun k hk => by rw [zeros_at k hk]; rfl⟩

end Go.Proofs.Ytbbaplcfhofeeaa

/-
  Contracts of package tenementref01: Read, Write.
-/
set_option linter.unusedSimpArgs false
set_option linter.unusedVariables false
namespace Go.Proofs.Ytbbaplcfhofeeaa
open Go.RowKit
set_option maxHeartbeats 400000

/-- bytes in memory of their own -/
def OutBytes (w : World) (l : List UInt8) (v : Value) (w' : World) : Prop := ∃ p c, v = .slice p l.length c ∧ InBytes w' p l ∧ w.grownBy w' none
theorem info_u8 : (Try.prog.info? 5).map (fun i => (i.zero, i.size, i.bytes)) = some (some (.int .u8 0), 1, 1) := by kernel_rfl

theorem outBytes_of {w w' : World} {base n : Nat} {v : Value} {l : List UInt8} (h : w'.ownsRow base 5 1 v n (bcells l)) (hn : l.length = n) (hg : w.grownBy w' none) : OutBytes w l v w' := by
  subst hn
  obtain ⟨p, c, rfl⟩ := ownsRow_slice h
  refine ⟨p, c, rfl, ?_, hg⟩
  by_cases hl : l = []
  · exact .inl hl
  · obtain ⟨m, hm⟩ : ∃ m, l.length = m + 1 := ⟨l.length - 1, by have := List.length_pos_iff.2 hl; omega⟩
    have h' := h
    rw [hm] at h'
    obtain ⟨g, cap, e⟩ := ownsRow_succ h'
    cases e
    have hb := (h.lt g rfl).2
    refine .inr ⟨g, 0, rfl, hb, fun k hk => ?_⟩
    rw [Nat.zero_add, h'.cellAt k (by omega), bcells_get, List.getElem?_eq_getElem hk]
    simp [List.getD, List.getElem?_eq_getElem hk]
end Go.Proofs.Ytbbaplcfhofeeaa
