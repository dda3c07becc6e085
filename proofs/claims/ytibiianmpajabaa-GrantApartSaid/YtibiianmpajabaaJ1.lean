/-
  Package grant on plain data: members, live maps, and each call as a function. No walk here.
-/
import Derived.Test.YtibiianmpajabaaSpec
import Derived.Test.YtibiianmpajabaaPmapB
import Derived.Test.YtibiianmpajabaaJ9
import Derived.Test.YtibiianmpajabaaKMap
import Derived.Test.YtibiianmpajabaaViewB
import Derived.Test.YtibiianmpajabaaViewZ
import Derived.Test.YtibiianmpajabaaPhysA
import Derived.Handy
import Derived.Test.YtibiianmpajabaaPhysD
import Derived.Test.YtibiianmpajabaaJ7
import Derived.StillTailTactics
import Derived.Deep.RegionHeld3
set_option linter.unusedSimpArgs false
set_option linter.unusedVariables false
namespace Go.Proofs.Ytibiianmpajabaa

/-- a live map: handle, caller, owner, entry, frame, for writing? -/
structure Mpd where
  h : Int
  c : Int
  o : Int
  r : Int
  m : Int
  wr : Bool
def Mpd.val (a : Mpd) : Value := .agg #[.int .i64 a.h, .int .i64 a.c, .int .i64 a.o, .int .i64 a.r, .int .i64 a.m, .bool a.wr]
def mpd0 : Mpd := ⟨0, 0, 0, 0, 0, false⟩
/-- who has joined, with its grant frame and the number of its map of places; the live maps by caller and handle -/
structure Gst where
  mem : Nat → Option (Int × Nat)
  mp : Int × Int → Option Mpd
def gst0 : Gst := ⟨fun _ => none, fun _ => none⟩
def gdom (d : Int) : Bool := decide (0 ≤ d) && decide (d < 8)
theorem gdom_yes {d : Int} : gdom d = true ↔ 0 ≤ d ∧ d < 8 := by simp [gdom]
theorem gdom_no {d : Int} : gdom d = false ↔ d < 0 ∨ 8 ≤ d := by
  simp only [gdom, Bool.and_eq_false_iff, decide_eq_false_iff_not]; omega
def Gst.joined (g : Gst) (d : Int) : Bool := gdom d && (g.mem d.toNat).isSome
def Gst.slot (g : Gst) (d r : Int) : Bool := g.joined d && (decide (0 ≤ r) && decide (r < 32))
theorem Gst.joined_yes {g : Gst} {d : Int} : g.joined d = true ↔ (0 ≤ d ∧ d < 8) ∧ ∃ x, g.mem d.toNat = some x := by
  simp [Gst.joined, gdom_yes, Option.isSome_iff_exists]
theorem Gst.slot_yes {g : Gst} {d r : Int} : g.slot d r = true ↔ ((0 ≤ d ∧ d < 8) ∧ ∃ x, g.mem d.toNat = some x) ∧ 0 ≤ r ∧ r < 32 := by
  simp only [Gst.slot, Bool.and_eq_true, Gst.joined_yes, decide_eq_true_eq]
def Gst.setMem (g : Gst) (d : Nat) (x : Option (Int × Nat)) : Gst := { g with mem := fun k => if k = d then x else g.mem k }
def Gst.setMp (g : Gst) (k : Int × Int) (x : Option Mpd) : Gst := { g with mp := fun i => if i = k then x else g.mp i }
/-- machine, maps of places, grants -/
structure Gs where
  M : Mach
  P : Nat → Mp
  g : Gst
def Gs.setM (s : Gs) (M : Mach) : Gs := { s with M := M }
def kindW (wr : Bool) : Int := if wr = true then 1 else 0

def Gs.join (s : Gs) (d mfn : Int) (i : Nat) : Int × Gs :=
  if gdom d = false then (1, s) else
  if (s.g.mem d.toNat).isSome = true then (8, s) else
  if (s.M.get mfn d 1).1 = 0 then (0, ⟨(s.M.get mfn d 1).2, s.P, s.g.setMem d.toNat (some (mfn, i))⟩) else ((s.M.get mfn d 1).1, s)
def Gs.leave (s : Gs) (d : Int) : Int × Gs :=
  if gdom d = false then (1, s) else
  match s.g.mem d.toNat with
  | none => (6, s)
  | some (t, _) => (0, ⟨(s.M.put t 1).2, s.P, s.g.setMem d.toNat none⟩)
/-- the least handle that a caller has not in use -/
def Gst.free (g : Gst) (c : Int) : Option Nat := (List.range 16).find? fun h : Nat => (g.mp (c, (h : Int))).isNone
/-- bytes as an entry of that kind for that domain -/
def entV (b : List UInt8) (kind dom : Int) : Option GV := if (unpG b).2 = 0 ∧ (unpG b).1.k = kind ∧ (unpG b).1.dom = dom then some (unpG b).1 else none
def Gs.table (s : Gs) (d : Int) : Int := match s.g.mem d.toNat with | some (t, _) => t | none => 0
def Gs.owns (s : Gs) (d m : Int) : Bool := s.M.is m && ((s.M.fr m.toNat).owner == d)
/-- the frame that an entry of an owner names -/
def Gs.granted (s : Gs) (o gpfn : Int) : Option Int :=
  match s.g.mem o.toNat with
  | some (_, i) => if ((s.P i).getE gpfn).2 = 0 ∧ s.owns o ((s.P i).getE gpfn).1 = true then some ((s.P i).getE gpfn).1 else none
  | none => none
/-- Map behind its read: b the entry's bytes -/
def Gs.mapE (s : Gs) (b : List UInt8) (c o r : Int) (wr : Bool) (h : Nat) : Int × Int × Gs :=
  match entV b 1 c with
  | none => (0, 60, s)
  | some g =>
    if g.sub = true then (0, 61, s) else
    if (wr && g.ro) = true then (0, 62, s) else
    match s.granted o g.gpfn with
    | none => (0, 60, s)
    | some m => if (s.M.get m o (kindW wr)).1 = 0 then (h, 0, ⟨(s.M.get m o (kindW wr)).2, s.P, s.g.setMp (c, h) (some ⟨h, c, o, r, m, wr⟩)⟩) else (0, (s.M.get m o (kindW wr)).1, s)
/-- ahead of it -/
def Gs.map0 (s : Gs) (c o r : Int) : Option Int ⊕ Nat :=
  if (gdom c && s.g.slot o r) = false then .inl (some 1) else
  match s.g.free c with
  | none => .inl (some 64)
  | some h => .inr h
def Gs.live (s : Gs) (c h : Int) : Mpd × Int :=
  if gdom c = false then (mpd0, 1) else
  match s.g.mp (c, h) with
  | none => (mpd0, 6)
  | some a => (a, 0)
def Gs.unmap (s : Gs) (c h : Int) : Int × Gs :=
  if (s.live c h).2 = 0 then (0, ⟨(s.M.put (s.live c h).1.m (kindW (s.live c h).1.wr)).2, s.P, s.g.setMp (c, h) none⟩) else ((s.live c h).2, s)
def Gs.write (s : Gs) (c h off : Int) (b : List UInt8) : Int × Gs :=
  if (s.live c h).2 ≠ 0 then ((s.live c h).2, s) else
  if (s.live c h).1.wr = false then (62, s) else
  if inP off b.length = false then (63, s) else
  ((s.M.write (s.live c h).1.m off b).1, s.setM (s.M.write (s.live c h).1.m off b).2)
/-- an end that was found: frame, first byte, size; may it be written? -/
structure EndV where
  m : Int
  first : Int
  size : Int
  ro : Bool
def EndV.at (a : EndV) (off n : Int) : Int × Int := if off < 0 ∨ n < 0 ∨ a.size - off < n then (0, 63) else (a.first + off, 0)
/-- the maps of a caller, of an owner -/
def Gst.mapsOf (g : Gst) (c : Int) (k : Nat) : List Mpd := (List.range k).filterMap fun h : Nat => g.mp (c, (h : Int))
def allKeys : List (Int × Int) := (List.range 8).flatMap fun c : Nat => (List.range 16).map fun h : Nat => ((c : Int), (h : Int))
def Gst.foreign (g : Gst) (o : Int) : Nat := (allKeys.filter fun k => match g.mp k with | some a => a.o == o | none => false).length

theorem find_le {α : Type} {p : α → Bool} {l : List α} {x : α} (h : l.find? p = some x) : x ∈ l := List.mem_of_find?_eq_some h
theorem Gst.free_lt {g : Gst} {c : Int} {h : Nat} (e : g.free c = some h) : h < 16 := by simpa using find_le e
theorem Gst.free_at {g : Gst} {c : Int} {k : Nat} (hk : k < 16) (hb : ∀ j : Nat, j < k → (g.mp (c, (j : Int))).isSome = true) (hn : (g.mp (c, (k : Int))).isSome = false) : g.free c = some k := by
  unfold Gst.free
  obtain ⟨d, hd⟩ : ∃ d, 16 = k + 1 + d := ⟨16 - (k + 1), by omega⟩
  rw [hd, List.range_add, List.range_succ, List.append_assoc, List.find?_append]
  rw [List.find?_eq_none.2 (by intro j hj; have := hb j (by simpa using hj); simp at this ⊢; cases e : g.mp (c, (j : Int)) <;> simp_all)]
  simp at hn
  simp [hn]
theorem Gst.free_none {g : Gst} {c : Int} (hb : ∀ j : Nat, j < 16 → (g.mp (c, (j : Int))).isSome = true) : g.free c = none := by
  unfold Gst.free
  rw [List.find?_eq_none]
  intro j hj
  have := hb j (by simpa using hj)
  cases e : g.mp (c, (j : Int)) <;> simp_all
theorem Gst.free_is {g : Gst} {c : Int} {h : Nat} (e : g.free c = some h) : g.mp (c, (h : Int)) = none := by
  have := List.find?_some e
  simpa using this
end Go.Proofs.Ytibiianmpajabaa

/-
  Package grant in memory: its block, its map of maps, the machine, the maps of places, a view. No walk here.
-/
set_option linter.unusedSimpArgs false
set_option linter.unusedVariables false
namespace Go.Proofs.Ytibiianmpajabaa
open Go.RowKit KM

def tblV : Option (Int × Nat) → Int | some (t, _) => t | none => 0
def plcV (pb : Nat → Nat) : Option (Int × Nat) → Value | some (_, i) => .pointer (some ⟨pb i, 0, none⟩) | none => .pointer none
def gtop (B G : Nat) (pb : Nat → Nat) (g : Gst) (k : Nat) : Value :=
  if k = 0 then .pointer (some ⟨B, 0, none⟩) else if k = 17 then .map (some G) else if k % 2 = 1 then .int .i64 (tblV (g.mem (k / 2))) else plcV pb (g.mem (k / 2 - 1))
theorem key_is : IsKey2 Try.prog 192 :=
  ⟨by kernel_rfl, of_decide_eq_true (by kernel_rfl), by kernel_rfl, by kernel_rfl, of_decide_eq_true (by kernel_rfl), by kernel_rfl,
    ⟨_, _, 3, Try.underlying192, rfl, rfl, rfl, rfl, rfl, rfl, Try.underlying3, by kernel_rfl⟩⟩
theorem key_ks : KS Try.prog 192 key2 fit2 := key_is.ks
theorem mapped_zero (w : World) : (zeroValue 190).run Try.prog w = .ok mpd0.val w := by kernel_rfl
abbrev GMap (w : World) (G T : Nat) (g : Gst) : Prop := KMap Try.prog 192 key2 mpd0.val w G T (fun k => (g.mp k).map Mpd.val)
def pft (pm : Nat → Nat × Nat × Nat) (i k : Nat) : Prop := pfoot (pm i).1 (pm i).2.1 (pm i).2.2 k
def gfoot (X B G : Nat) (pm : Nat → Nat × Nat × Nat) (np k : Nat) : Prop := k = X ∨ k = B ∨ k = G ∨ ∃ i, i < np ∧ pft pm i k
theorem Chg.gen {S : Nat → Prop} {w w' : World} (h : Chg S w w') : Gen.Chg S w w' := ⟨h.os, h.tape, h.output, h.size, h.block⟩
theorem Chg.ofGen {S : Nat → Prop} {w w' : World} (h : Gen.Chg S w w') : Chg S w w' := ⟨h.os, h.tape, h.output, h.size, h.block⟩
def upP (P : Nat → Mp) (i : Nat) (Q : Mp) : Nat → Mp := fun j => if j = i then Q else P j
theorem upP_same (P : Nat → Mp) (i : Nat) (Q : Mp) : upP P i Q i = Q := by simp [upP]
theorem upP_other (P : Nat → Mp) (i j : Nat) (Q : Mp) (h : j ≠ i) : upP P i Q j = P j := by simp [upP, h]

/-- block X holds the grants: the machine in block B, the live maps in block G, maps of places in the blocks pm i -/
structure GA (w : World) (X B G : Nat) (pm : Nat → Nat × Nat × Nat) (np : Nat) (s : Gs) (T : Nat) : Prop where
  top : Row w X 110 18 (gtop B G (fun i => (pm i).1) s.g)
  mp : GMap w G T s.g
  m : PM w B s.M
  p : ∀ i, i < np → PMap w (pm i).1 (pm i).2.1 (pm i).2.2 (s.P i) T
  sep : ∀ i j, i < np → j < np → i ≠ j → ∀ k, pft pm i k → ¬ pft pm j k
  gp : ∀ i, i < np → ¬ pft pm i G
section
variable {w w' : World} {X B G : Nat} {pm : Nat → Nat × Nat × Nat} {np : Nat} {s : Gs} {T : Nat}
theorem GA.c0 (h : GA w X B G pm np s T) : w.cell? ⟨X, 0, none⟩ = some (.pointer (some ⟨B, 0, none⟩)) := h.top.cell (k := 0) (by omega)
theorem GA.c17 (h : GA w X B G pm np s T) : w.cell? ⟨X, 17, none⟩ = some (.map (some G)) := h.top.cell (k := 17) (by omega)
theorem gtop_tbl (B G : Nat) (pb : Nat → Nat) (g : Gst) {d : Nat} (hd : d < 8) : gtop B G pb g (1 + d * 2) = .int .i64 (tblV (g.mem d)) := by
  unfold gtop
  rw [if_neg (by omega), if_neg (by omega), if_pos (by omega), show (1 + d * 2) / 2 = d by omega]
theorem gtop_plc (B G : Nat) (pb : Nat → Nat) (g : Gst) {d : Nat} (hd : d < 8) : gtop B G pb g (1 + d * 2 + 1) = plcV pb (g.mem d) := by
  unfold gtop
  rw [if_neg (by omega), if_neg (by omega), if_neg (by omega), show (1 + d * 2 + 1) / 2 - 1 = d by omega]
theorem GA.tbl (h : GA w X B G pm np s T) {d : Nat} (hd : d < 8) : w.cell? ⟨X, 1 + d * 2, none⟩ = some (.int .i64 (tblV (s.g.mem d))) := by
  rw [h.top.cell (k := 1 + d * 2) (by omega), gtop_tbl _ _ _ _ hd]
theorem GA.plc (h : GA w X B G pm np s T) {d : Nat} (hd : d < 8) : w.cell? ⟨X, 1 + d * 2 + 1, none⟩ = some (plcV (fun i => (pm i).1) (s.g.mem d)) := by
  rw [h.top.cell (k := 1 + d * 2 + 1) (by omega), gtop_plc _ _ _ _ hd]
theorem GA.XB (h : GA w X B G pm np s T) : B ≠ X := h.top.pm_ne h.m (by decide)
theorem GA.XG (h : GA w X B G pm np s T) : G ≠ X := by
  rintro rfl
  obtain ⟨es, c, h0⟩ := h.mp.isMap
  obtain ⟨cur, h1, _⟩ := h.top
  rw [h0] at h1; cases h1
theorem GA.BG (h : GA w X B G pm np s T) : G ≠ B := by
  rintro rfl
  obtain ⟨es, c, h0⟩ := h.mp.isMap
  have h1 := h.m
  unfold PM at h1
  rw [h0] at h1; cases h1
theorem pft_row {pm : Nat → Nat × Nat × Nat} {i : Nat} {P : Mp} (h : PMap w (pm i).1 (pm i).2.1 (pm i).2.2 P T) {k : Nat} (hk : pft pm i k) : (∃ cur, w.heap[k]? = some (.cells cur 169 (0, 0))) ∨ ∃ es c, w.heap[k]? = some (.map es c) := by
  rcases hk with rfl | rfl | rfl
  · obtain ⟨cur, h1, _⟩ := h.top
    exact .inl ⟨cur, h1⟩
  · obtain ⟨D, ⟨es, c, h0, _⟩, _⟩ := h.fr
    exact .inr ⟨es, c, h0⟩
  · obtain ⟨D, ⟨es, c, h0, _⟩, _⟩ := h.pl
    exact .inr ⟨es, c, h0⟩
theorem GA.pX (h : GA w X B G pm np s T) {i : Nat} (hi : i < np) : ¬ pft pm i X := fun hk => by
  obtain ⟨cur, h1, _⟩ := h.top
  rcases pft_row (h.p i hi) hk with ⟨cur', h2⟩ | ⟨es, c, h2⟩
  · rw [h1] at h2
    simp only [Option.some.injEq, Obj.cells.injEq] at h2
    exact absurd h2.2.1 (by decide)
  · rw [h1] at h2; cases h2
theorem GA.pB (h : GA w X B G pm np s T) {i : Nat} (hi : i < np) : ¬ pft pm i B := fun hk => by
  have h1 := h.m
  unfold PM at h1
  rcases pft_row (h.p i hi) hk with ⟨cur', h2⟩ | ⟨es, c, h2⟩
  · rw [h1] at h2
    simp only [Option.some.injEq, Obj.cells.injEq] at h2
    exact absurd h2.2.1 (by decide)
  · rw [h1] at h2; cases h2
theorem GA.lt (h : GA w X B G pm np s T) {k : Nat} (hk : gfoot X B G pm np k) : k < w.heap.size := by
  rcases hk with rfl | rfl | rfl | ⟨i, hi, hk⟩
  · exact h.top.lt
  · exact h.m.lt
  · exact h.mp.lt
  · exact (h.p i hi).lt hk
theorem GA.chg {S : Nat → Prop} (h : GA w X B G pm np s T) (hc : Chg S w w') (hS : ∀ k, gfoot X B G pm np k → ¬ S k) : GA w' X B G pm np s T :=
  ⟨h.top.chg hc (hS _ (.inl rfl)), h.mp.same (hc.block _ h.mp.lt (hS _ (.inr (.inr (.inl rfl))))), h.m.chg hc (hS _ (.inr (.inl rfl))), fun i hi => (h.p i hi).chg hc.gen fun k hk => hS k (.inr (.inr (.inr ⟨i, hi, hk⟩))), h.sep, h.gp⟩
theorem GA.grown (h : GA w X B G pm np s T) (hg : w.grownBy w' none) : GA w' X B G pm np s T := h.chg (S := fun _ => False) (Chg.of0 hg) fun _ _ e => e
theorem GA.mono (h : GA w X B G pm np s T) {T' : Nat} (hT : T ≤ T') : GA w X B G pm np s T' := ⟨h.top, h.mp.mono hT, h.m, fun i hi => (h.p i hi).mono hT, h.sep, h.gp⟩
/-- the machine turns -/
theorem GA.mach {M' : Mach} (h : GA w X B G pm np s T) (hm : PM w' B M') (hg : w.grownBy w' (some B)) : GA w' X B G pm np (s.setM M') T :=
  ⟨h.top.grown hg (by have := h.XB; simp; omega), h.mp.grown hg (by have := h.BG; simpa using this), hm, fun i hi => (h.p i hi).chg (Gen.Chg.of hg (S := fun k => k = B) fun j e => .inl (Option.some.inj e).symm) fun k hk e => h.pB hi (e ▸ hk), h.sep, h.gp⟩
/-- a map of places turns -/
theorem GA.place {i : Nat} {Q : Mp} {T' : Nat} (h : GA w X B G pm np s T) (hi : i < np) (hT : T ≤ T') (hl : PLeft (pm i).1 (pm i).2.1 (pm i).2.2 w Q T' w') : GA w' X B G pm np ⟨s.M, upP s.P i Q, s.g⟩ T' := by
  have hc := Chg.ofGen hl.chg
  refine ⟨h.top.chg hc (h.pX hi), (h.mp.same (hc.block _ h.mp.lt (h.gp i hi))).mono hT, h.m.chg hc (h.pB hi), fun j hj => ?_, h.sep, h.gp⟩
  by_cases e : j = i
  · subst e; simp only [upP_same]; exact hl.map
  · simp only [upP_other _ _ _ _ e]
    exact ((h.p j hj).chg hl.chg fun k hk => h.sep j i hj hi e k hk).mono hT
/-- a live map comes or goes -/
theorem GA.live {g' : Gst} {T' : Nat} (h : GA w X B G pm np s T) (hT : T ≤ T') (hm : GMap w' G T' g') (hmem : g'.mem = s.g.mem) (hg : w.grownBy w' (some G)) : GA w' X B G pm np ⟨s.M, s.P, g'⟩ T' :=
  ⟨(h.top.grown hg (by have := h.XG; simp; omega)).congr fun k _ => by unfold gtop; rw [hmem], hm, h.m.grown hg (by have := h.BG; simp; omega), fun i hi => ((h.p i hi).chg (Gen.Chg.of hg (S := fun k => k = G) fun j e => .inl (Option.some.inj e).symm) fun k hk e => h.gp i hi (e ▸ hk)).mono hT, h.sep, h.gp⟩
/-- a member is set: its two cells -/
theorem GA.member (h : GA w X B G pm np s T) {d : Nat} (hd : d < 8) (x : Option (Int × Nat)) :
    GA ((w.setCell ⟨X, 1 + d * 2, none⟩ (.int .i64 (tblV x))).setCell ⟨X, 1 + d * 2 + 1, none⟩ (plcV (fun i => (pm i).1) x)) X B G pm np ⟨s.M, s.P, s.g.setMem d x⟩ T := by
  have g1 := (grownBy_setCell w X (1 + d * 2) none (.int .i64 (tblV x))).trans (grownBy_setCell _ X (1 + d * 2 + 1) none (plcV (fun i => (pm i).1) x))
  have hXB := h.XB
  have hXG := h.XG
  refine ⟨?_, h.mp.grown g1 (by simpa using hXG), h.m.grown g1 (by simp; omega), fun i hi => (h.p i hi).chg (Gen.Chg.of g1 (S := fun k => k = X) fun j e => .inl (Option.some.inj e).symm) fun k hk e => h.pX hi (e ▸ hk), h.sep, h.gp⟩
  have hoth : ∀ e : Nat, e ≠ d → (s.g.setMem d x).mem e = s.g.mem e := fun e he => by simp [Gst.setMem, he]
  have hsame : (s.g.setMem d x).mem d = x := by simp [Gst.setMem]
  refine Row.set (X := fun j => if j = 1 + d * 2 then .int .i64 (tblV x) else gtop B G (fun i => (pm i).1) s.g j) (k := 1 + d * 2 + 1) (Row.set (k := 1 + d * 2) h.top (by simp) fun j _ hne => by simp [hne]) (by rw [gtop_plc _ _ _ _ hd, hsame]) fun j hj hne => ?_
  by_cases e : j = 1 + d * 2
  · subst e; rw [gtop_tbl _ _ _ _ hd, hsame]; simp
  · simp only [e, if_false]
    unfold gtop
    by_cases h0 : j = 0
    · simp [h0]
    rw [if_neg h0, if_neg h0]
    by_cases h7 : j = 17
    · simp [h7]
    rw [if_neg h7, if_neg h7]
    by_cases h1 : j % 2 = 1
    · rw [if_pos h1, if_pos h1, hoth _ (by omega)]
    · rw [if_neg h1, if_neg h1, hoth _ (by omega)]
end
/-- what holds of members and maps -/
structure Gs.ok (s : Gs) (np : Nat) (T : Int) : Prop where
  m : s.M.ok T
  p : ∀ i, i < np → (s.P i).ok
  mem : ∀ d t i, s.g.mem d = some (t, i) → d < 8 ∧ 0 ≤ t ∧ t < s.M.n ∧ i < np
  mp : ∀ c h a, s.g.mp (c, h) = some a → 0 ≤ c ∧ c < 8 ∧ 0 ≤ h ∧ h < 16 ∧ a.h = h ∧ a.c = c ∧ 0 ≤ a.m ∧ a.m < s.M.n

/-- the grants and a view of their machine -/
structure GW (w : World) (X B G : Nat) (pm : Nat → Nat × Nat × Nat) (np : Nat) (s : Gs) (T : Nat) (V Gv : Nat) (S : Nat → Prop) (l : List PokeV) (n : Nat) : Prop where
  a : GA w X B G pm np s T
  v : ∃ f, VV w V Gv B S l n l.length f
  ap : ∀ k, vfoot V Gv S k → ¬ gfoot X B G pm np k
section
variable {w w' : World} {X B G : Nat} {pm : Nat → Nat × Nat × Nat} {np : Nat} {s s' : Gs} {T T' : Nat} {V Gv : Nat} {S : Nat → Prop} {l : List PokeV} {n : Nat}
theorem GW.grown (h : GW w X B G pm np s T V Gv S l n) (hg : w.grownBy w' none) : GW w' X B G pm np s T V Gv S l n := by
  obtain ⟨f, hv⟩ := h.v
  exact ⟨h.a.grown hg, ⟨f, hv.grown hg⟩, h.ap⟩
/-- the grants turn, the view stays -/
theorem GW.left (h : GW w X B G pm np s T V Gv S l n) (ha : GA w' X B G pm np s' T') (hc : Chg (gfoot X B G pm np) w w') : GW w' X B G pm np s' T' V Gv S l n := by
  obtain ⟨f, hv⟩ := h.v
  exact ⟨ha, ⟨f, hv.chg hc h.ap⟩, h.ap⟩
/-- a read through the view -/
theorem GW.read (h : GW w X B G pm np s T V Gv S l n) (hr : VRead w V Gv B S l n l.length s.M w') : GW w' X B G pm np (s.setM (s.M.rews (due l n))) T V Gv S l (n + 1) := by
  have hc := hr.chg
  refine ⟨⟨h.a.top.chg hc ?_, h.a.mp.same (hc.block _ h.a.mp.lt ?_), hr.mach, fun i hi => (h.a.p i hi).chg hc.gen ?_, h.a.sep, h.a.gp⟩, hr.view, h.ap⟩
  · rintro (e | e | e)
    · exact h.ap V (.inl rfl) (.inl e.symm)
    · exact h.ap Gv (.inr (.inl rfl)) (.inl e.symm)
    · exact h.a.XB e.symm
  · rintro (e | e | e)
    · exact h.ap V (.inl rfl) (.inr (.inr (.inl e.symm)))
    · exact h.ap Gv (.inr (.inl rfl)) (.inr (.inr (.inl e.symm)))
    · exact h.a.BG e
  · rintro k hk (e | e | e)
    · exact h.ap V (.inl rfl) (.inr (.inr (.inr ⟨i, hi, e ▸ hk⟩)))
    · exact h.ap Gv (.inr (.inl rfl)) (.inr (.inr (.inr ⟨i, hi, e ▸ hk⟩)))
    · exact h.a.pB hi (e ▸ hk)
def avfoot (X B G : Nat) (pm : Nat → Nat × Nat × Nat) (np V Gv k : Nat) : Prop := gfoot X B G pm np k ∨ k = V ∨ k = Gv
theorem GW.readChg (h : VRead w V Gv B S l n l.length s.M w') : Chg (avfoot X B G pm np V Gv) w w' :=
  h.chg.mono fun k hk => by
    rcases hk with e | e | e
    · exact .inr (.inl e)
    · exact .inr (.inr e)
    · exact .inl (.inr (.inl e))
end
end Go.Proofs.Ytibiianmpajabaa

/-
  Package grant: its calls on grants, and with views, that nobody made.
-/
set_option linter.unusedSimpArgs false
set_option linter.unusedVariables false
namespace Go.Proofs.Ytibiianmpajabaa
open Go.RowKit
set_option maxHeartbeats 1000000

/-- nobody made the grants that p points to -/
def NoGr (w : World) (p : Option Addr) : Prop := p = none ∨ ∃ b, p = some ⟨b, 0, none⟩ ∧ w.cell? ⟨b, 0, none⟩ = some (.pointer none)
theorem NoGr.nil (w : World) : NoGr w none := .inl rfl
theorem NoGr.grown {w w' : World} {p : Option Addr} (h : NoGr w p) (hg : w.grownBy w' none) : NoGr w' p := by
  rcases h with h | ⟨b, h, hc⟩
  · exact .inl h
  · exact .inr ⟨b, h, hg.cell hc (by simp)⟩
theorem gMade_no (p : Option Addr) (w : World) (h : NoGr w p) : Calls Try.prog 103 #[.pointer p] w fun e w' => e = .returned (.bool false) ∧ w = w' := by
  rcases h with rfl | ⟨b, rfl, hc⟩
  · go_enter Try.func103, Try.ntmps103
    go_wp2
    go_ret
    exact ⟨rfl, rfl⟩
  · go_enter Try.func103, Try.ntmps103
    go_wp2
    go_ret
    exact ⟨rfl, rfl⟩
theorem gMade_yes (X B : Nat) (w : World) (h : w.cell? ⟨X, 0, none⟩ = some (.pointer (some ⟨B, 0, none⟩))) : Calls Try.prog 103 #[.pointer (some ⟨X, 0, none⟩)] w fun e w' => e = .returned (.bool true) ∧ w = w' := by
  go_enter Try.func103, Try.ntmps103
  go_wp2
  go_ret
  exact ⟨rfl, rfl⟩
/-- nobody made the view that p points to: it has no machine -/
def NoVw (w : World) (p : Option Addr) : Prop := p = none ∨ ∃ b, p = some ⟨b, 0, none⟩ ∧ w.cell? ⟨b, 0, none⟩ = some (.pointer none)
theorem NoVw.grown {w w' : World} {p : Option Addr} (h : NoVw w p) (hg : w.grownBy w' none) : NoVw w' p := by
  rcases h with h | ⟨b, h, hc⟩
  · exact .inl h
  · exact .inr ⟨b, h, hg.cell hc (by simp)⟩
theorem gMachine_nil (w : World) : Calls Try.prog 26 #[.pointer none] w fun e w' => e = .returned (.pointer none) ∧ w = w' := by
  go_enter Try.func26, Try.ntmps26
  go_wp2_with (go_at_call 85; refine (vmade_nil _).mono ?_; rintro e w' ⟨rfl, rfl⟩)
  go_ret
  exact ⟨rfl, rfl⟩
theorem gIsView_no (p : Option Addr) (w : World) (h : NoVw w p) : Calls Try.prog 104 #[.pointer p] w fun e w' => e = .returned (.bool false) ∧ w = w' := by
  rcases h with rfl | ⟨b, rfl, hc⟩
  · go_enter Try.func104, Try.ntmps104
    go_wp2_with (go_at_call 26; refine (gMachine_nil _).mono ?_; rintro e w' ⟨rfl, rfl⟩)
    go_ret
    exact ⟨rfl, rfl⟩
  · have H := hid (vMachine_zero b w hc)
    clear hc
    go_enter Try.func104, Try.ntmps104
    go_wp2_with (go_at_call 26; refine H.out.mono ?_; rintro e w' ⟨rfl, rfl⟩)
    go_ret
    exact ⟨rfl, rfl⟩
theorem gIsView_yes (V G B : Nat) (S : Nat → Prop) (l : List PokeV) (n T : Nat) (f : Int → Option Value) (w : World) (h : VV w V G B S l n T f) : Calls Try.prog 104 #[.pointer (some ⟨V, 0, none⟩)] w fun e w' => e = .returned (.bool true) ∧ w = w' := by
  have H := hid (vMachine V G B S l n T f w h)
  clear h
  go_enter Try.func104, Try.ntmps104
  go_wp2_with (go_at_call 26; refine H.out.mono ?_; rintro e w' ⟨rfl, rfl⟩)
  go_ret
  exact ⟨rfl, rfl⟩
/-- New of no machine -/
theorem gNew_nil (w : World) : Calls Try.prog 50 #[.pointer none] w fun e w' => e = .returned (.pointer none) ∧ w = w' := by
  go_enter Try.func50, Try.ntmps50
  go_wp2_with (go_at_call 49; refine (Size_nil _).mono ?_; rintro e w' ⟨rfl, rfl⟩)
  go_ret
  exact ⟨rfl, rfl⟩
theorem gNew_zero (b : Nat) (w : World) (h : w.cell? ⟨b, 0, none⟩ = some (.int .i64 0)) : Calls Try.prog 50 #[.pointer (some ⟨b, 0, none⟩)] w fun e w' => e = .returned (.pointer none) ∧ w = w' := by
  have H := hid (Size_zero b w h)
  clear h
  go_enter Try.func50, Try.ntmps50
  go_wp2_with (go_at_call 49; refine H.out.mono ?_; rintro e w' ⟨rfl, rfl⟩)
  go_ret
  exact ⟨rfl, rfl⟩
section
variable (p : Option Addr) (w : World) (h : NoGr w p)
include h
theorem gzLive (a b : Int) : Calls Try.prog 112 #[.pointer p, .int .i64 a, .int .i64 b] w fun e w' => e = .returned (.tuple #[.agg #[.int .i64 0, .int .i64 0, .int .i64 0, .int .i64 0, .int .i64 0, .bool false], .int .i64 7]) ∧ w.grownBy w' none := by
  have H := hid (gMade_no p _ (h.grown (World.grownBy_alloc w (.cells #[.int .i64 0, .int .i64 0, .int .i64 0, .int .i64 0, .int .i64 0, .bool false] 190) none)))
  clear h
  go_enter Try.func112, Try.ntmps112
  go_wp2_with (go_at_call 103; refine H.out.mono ?_; rintro e w' ⟨rfl, rfl⟩)
  go_returns
  exact ⟨rfl, World.grownBy_alloc _ _ none⟩
theorem gzMap (v : Value) (a b c : Int) (wr : Bool) : Calls Try.prog 37 #[.pointer p, v, .int .i64 a, .int .i64 b, .int .i64 c, .bool wr] w fun e w' => e = .returned (.tuple #[.int .i64 0, .int .i64 7]) ∧ w = w' := by
  have H := hid (gMade_no p w h)
  clear h
  go_enter Try.func37, Try.ntmps37
  go_wp2_with (go_at_call 103; refine H.out.mono ?_; rintro e w' ⟨rfl, rfl⟩)
  go_ret2
  exact ⟨rfl, rfl⟩
theorem gzJoin (a b : Int) (v : Value) : Calls Try.prog 52 #[.pointer p, .int .i64 a, .int .i64 b, v] w fun e w' => e = .returned (.int .i64 7) ∧ w = w' := by
  have H := hid (gMade_no p w h)
  clear h
  go_enter Try.func52, Try.ntmps52
  go_wp2_with (go_at_call 103; refine H.out.mono ?_; rintro e w' ⟨rfl, rfl⟩)
  go_ret
  exact ⟨rfl, rfl⟩
theorem gzLeave (a : Int) : Calls Try.prog 39 #[.pointer p, .int .i64 a] w fun e w' => e = .returned (.int .i64 7) ∧ w = w' := by
  have H := hid (gMade_no p w h)
  clear h
  go_enter Try.func39, Try.ntmps39
  go_wp2_with (go_at_call 103; refine H.out.mono ?_; rintro e w' ⟨rfl, rfl⟩)
  go_ret
  exact ⟨rfl, rfl⟩
theorem gzUnmap (a b : Int) : Calls Try.prog 44 #[.pointer p, .int .i64 a, .int .i64 b] w fun e w' => e = .returned (.int .i64 7) ∧ w.grownBy w' none := by
  have H := hid (gzLive p w h a b)
  clear h
  go_enter Try.func44, Try.ntmps44
  go_wp2_with (go_at_call 112; refine H.out.mono ?_; rintro e w1 ⟨rfl, g1⟩; have G1 := hid g1; clear g1)
  go_ret
  exact ⟨rfl, G1.out.trans (World.grownBy_alloc _ _ none)⟩
theorem gzWrite (a b c : Int) (q : Option Addr) (n k : Nat) : Calls Try.prog 41 #[.pointer p, .int .i64 a, .int .i64 b, .int .i64 c, .slice q n k] w fun e w' => e = .returned (.int .i64 7) ∧ w.grownBy w' none := by
  have H := hid (gzLive p w h a b)
  clear h
  go_enter Try.func41, Try.ntmps41
  go_wp2_with (go_at_call 112; refine H.out.mono ?_; rintro e w1 ⟨rfl, g1⟩; have G1 := hid g1; clear g1)
  go_ret
  exact ⟨rfl, G1.out.trans (World.grownBy_alloc _ _ none)⟩
theorem gzRevoke (a b : Int) : Calls Try.prog 38 #[.pointer p, .int .i64 a, .int .i64 b] w fun e w' => e = .returned (.int .i64 7) ∧ w = w' := by
  have H := hid (gMade_no p w h)
  clear h
  go_enter Try.func38, Try.ntmps38
  go_wp2_with (go_at_call 103; refine H.out.mono ?_; rintro e w' ⟨rfl, rfl⟩)
  go_ret
  exact ⟨rfl, rfl⟩
theorem gzTransfer (v : Value) (a b c d : Int) : Calls Try.prog 54 #[.pointer p, v, .int .i64 a, .int .i64 b, .int .i64 c, .int .i64 d] w fun e w' => e = .returned (.int .i64 7) ∧ w = w' := by
  have H := hid (gMade_no p w h)
  clear h
  go_enter Try.func54, Try.ntmps54
  go_wp2_with (go_at_call 103; refine H.out.mono ?_; rintro e w' ⟨rfl, rfl⟩)
  go_ret
  exact ⟨rfl, rfl⟩
theorem gzMaps (a : Int) : Calls Try.prog 55 #[.pointer p, .int .i64 a] w fun e w' => e = .returned (.slice none 0 0) ∧ w = w' := by
  have H := hid (gMade_no p w h)
  clear h
  go_enter Try.func55, Try.ntmps55
  go_wp2_with (go_at_call 103; refine H.out.mono ?_; rintro e w' ⟨rfl, rfl⟩)
  go_ret
  exact ⟨rfl, rfl⟩
theorem gzForeign (a : Int) : Calls Try.prog 43 #[.pointer p, .int .i64 a] w fun e w' => e = .returned (.int .i64 0) ∧ w = w' := by
  have H := hid (gMade_no p w h)
  clear h
  go_enter Try.func43, Try.ntmps43
  go_wp2_with (go_at_call 103; refine H.out.mono ?_; rintro e w' ⟨rfl, rfl⟩)
  go_ret
  exact ⟨rfl, rfl⟩
end
/-- grants or view that nobody made -/
def NoGV (w : World) (p q : Option Addr) : Prop := NoGr w p ∨ ((∃ X B, p = some ⟨X, 0, none⟩ ∧ w.cell? ⟨X, 0, none⟩ = some (.pointer (some ⟨B, 0, none⟩))) ∧ NoVw w q)
theorem NoGV.grown {w w' : World} {p q : Option Addr} (h : NoGV w p q) (hg : w.grownBy w' none) : NoGV w' p q := by
  rcases h with h | ⟨⟨X, B, h, hc⟩, hv⟩
  · exact .inl (h.grown hg)
  · exact .inr ⟨⟨X, B, h, hg.cell hc (by simp)⟩, hv.grown hg⟩
theorem NoGV.noG {w : World} {p q : Option Addr} (h : NoGr w p) : NoGV w p q := .inl h
theorem NoGV.noV {w : World} {X B : Nat} {q : Option Addr} (h : w.cell? ⟨X, 0, none⟩ = some (.pointer (some ⟨B, 0, none⟩))) (hv : NoVw w q) : NoGV w (some ⟨X, 0, none⟩) q := .inr ⟨⟨X, B, rfl, h⟩, hv⟩
theorem NoVw.nil (w : World) : NoVw w none := .inl rfl
/-- an end of a copy by value -/
def endV (g : Bool) (d r p o : Int) : Value := .agg #[.bool g, .int .i64 d, .int .i64 r, .int .i64 p, .int .i64 o]
theorem gzMapV (X B : Nat) (q : Option Addr) (a b c : Int) (wr : Bool) (w : World) (h : w.cell? ⟨X, 0, none⟩ = some (.pointer (some ⟨B, 0, none⟩))) (hv : NoVw w q) : Calls Try.prog 37 #[.pointer (some ⟨X, 0, none⟩), .pointer q, .int .i64 a, .int .i64 b, .int .i64 c, .bool wr] w fun e w' => e = .returned (.tuple #[.int .i64 0, .int .i64 7]) ∧ w = w' := by
  have H := hid (gMade_yes X B w h)
  have HV := hid (gIsView_no q w hv)
  clear h hv
  go_enter Try.func37, Try.ntmps37
  go_wp2_with (first
    | (go_at_call 103; refine H.out.mono ?_; rintro e w' ⟨rfl, rfl⟩)
    | (go_at_call 104; refine HV.out.mono ?_; rintro e w' ⟨rfl, rfl⟩))
  go_ret2
  exact ⟨rfl, rfl⟩
theorem gzRead (X V G B : Nat) (S : Nat → Prop) (l : List PokeV) (n T : Nat) (f : Int → Option Value) (a b c d : Int) (w : World) (h : NoGr w (some ⟨X, 0, none⟩)) (hv : VV w V G B S l n T f) :
    Calls Try.prog 40 #[.pointer (some ⟨X, 0, none⟩), .pointer (some ⟨V, 0, none⟩), .int .i64 a, .int .i64 b, .int .i64 c, .int .i64 d] w fun e w' => e = .returned (.tuple #[.slice none 0 0, .int .i64 7]) ∧ w.grownBy w' none := by
  have H := hid (gzLive _ w h a b)
  have HV := hid (gIsView_yes V G B S l n T f w hv)
  clear h hv
  go_enter Try.func40, Try.ntmps40
  go_wp2_with (first
    | (go_at_call 104; refine HV.out.mono ?_; rintro e w' ⟨rfl, rfl⟩)
    | (go_at_call 112; refine H.out.mono ?_; rintro e w1 ⟨rfl, g1⟩; have G1 := hid g1; clear g1))
  go_ret2
  exact ⟨rfl, G1.out.trans (World.grownBy_alloc _ _ none)⟩
theorem gzFind (p q : Option Addr) (a : Int) (g : Bool) (d r pp o n : Int) (w : World) (h : NoGV w p q) :
    Calls Try.prog 117 #[.pointer p, .pointer q, .int .i64 a, .agg #[.bool g, .int .i64 d, .int .i64 r, .int .i64 pp, .int .i64 o], .int .i64 n] w fun e w' => e = .returned (.tuple #[.nilIface, .int .i64 7]) ∧ w.grownBy w' none := by
  have hg := World.grownBy_alloc w (.cells #[.bool g, .int .i64 d, .int .i64 r, .int .i64 pp, .int .i64 o] 96) none
  rcases h with h | ⟨⟨X, B, rfl, hc⟩, hv⟩
  · have H := hid (gMade_no p _ (h.grown hg))
    clear h hg
    go_enter Try.func117, Try.ntmps117
    go_wp2_with (go_at_call 103; refine H.out.mono ?_; rintro e w' ⟨rfl, rfl⟩)
    go_ret2
    exact ⟨rfl, World.grownBy_alloc _ _ none⟩
  · have H := hid (gMade_yes X B _ (hg.cell hc (by simp)))
    have HV := hid (gIsView_no q _ (hv.grown hg))
    clear hc hv hg
    go_enter Try.func117, Try.ntmps117
    go_wp2_with (first
      | (go_at_call 103; refine H.out.mono ?_; rintro e w' ⟨rfl, rfl⟩)
      | (go_at_call 104; refine HV.out.mono ?_; rintro e w' ⟨rfl, rfl⟩))
    go_ret2
    exact ⟨rfl, World.grownBy_alloc _ _ none⟩
theorem gzPull (p q : Option Addr) (a : Int) (g : Bool) (d r pp o n : Int) (w : World) (h : NoGV w p q) :
    Calls Try.prog 51 #[.pointer p, .pointer q, .int .i64 a, .agg #[.bool g, .int .i64 d, .int .i64 r, .int .i64 pp, .int .i64 o], .int .i64 n] w fun e w' => e = .returned (.tuple #[.slice none 0 0, .int .i64 7]) ∧ w.grownBy w' none := by
  have hg := World.grownBy_alloc w (.cells #[.bool g, .int .i64 d, .int .i64 r, .int .i64 pp, .int .i64 o] 96) none
  have H := hid (gzFind p q a g d r pp o n _ (h.grown hg))
  have HG := hid hg
  clear h hg
  go_enter Try.func51, Try.ntmps51
  go_wp2_with (go_at_call 117; refine H.out.mono ?_; rintro e w1 ⟨rfl, g1⟩; have G1 := hid (HG.out.trans g1); clear g1)
  go_ret2
  exact ⟨rfl, G1.out⟩
theorem gzPush (p q : Option Addr) (a : Int) (g : Bool) (d r pp o : Int) (x : Option Addr) (n k : Nat) (w : World) (h : NoGV w p q) :
    Calls Try.prog 53 #[.pointer p, .pointer q, .int .i64 a, .agg #[.bool g, .int .i64 d, .int .i64 r, .int .i64 pp, .int .i64 o], .slice x n k] w fun e w' => e = .returned (.int .i64 7) ∧ w.grownBy w' none := by
  have hg := World.grownBy_alloc w (.cells #[.bool g, .int .i64 d, .int .i64 r, .int .i64 pp, .int .i64 o] 96) none
  have H := hid (gzFind p q a g d r pp o n _ (h.grown hg))
  have HG := hid hg
  clear h hg
  go_enter Try.func53, Try.ntmps53
  go_wp2_with (go_at_call 117; refine H.out.mono ?_; rintro e w1 ⟨rfl, g1⟩; have G1 := hid (HG.out.trans g1); clear g1)
  go_ret
  exact ⟨rfl, G1.out⟩
theorem gzCopy (p q : Option Addr) (a : Int) (g : Bool) (d r pp o : Int) (g' : Bool) (d' r' pp' o' n : Int) (w : World) (h : NoGV w p q) :
    Calls Try.prog 45 #[.pointer p, .pointer q, .int .i64 a, .agg #[.bool g, .int .i64 d, .int .i64 r, .int .i64 pp, .int .i64 o], .agg #[.bool g', .int .i64 d', .int .i64 r', .int .i64 pp', .int .i64 o'], .int .i64 n] w fun e w' => e = .returned (.int .i64 7) ∧ w.grownBy w' none := by
  have hg := (World.grownBy_alloc w (.cells #[.bool g, .int .i64 d, .int .i64 r, .int .i64 pp, .int .i64 o] 96) none).trans (World.grownBy_alloc _ (.cells #[.bool g', .int .i64 d', .int .i64 r', .int .i64 pp', .int .i64 o'] 96) none)
  have H := hid (gzPull p q a g d r pp o n _ (h.grown hg))
  have HG := hid hg
  clear h hg
  go_enter Try.func45, Try.ntmps45
  go_wp2_with (go_at_call 51; refine H.out.mono ?_; rintro e w1 ⟨rfl, g1⟩; have G1 := hid (HG.out.trans g1); clear g1)
  go_ret
  exact ⟨rfl, G1.out⟩
end Go.Proofs.Ytibiianmpajabaa

/-
  Package grant: New and the small functions.
-/
set_option linter.unusedSimpArgs false
set_option linter.unusedVariables false
namespace Go.Proofs.Ytibiianmpajabaa
open Go.RowKit KM
set_option maxHeartbeats 2000000

theorem gNew_yes (B : Nat) (w : World) (M : Mach) (hM : PM w B M) (hn : 1 ≤ M.n) : Calls Try.prog 50 #[.pointer (some ⟨B, 0, none⟩)] w fun e w' =>
    e = .returned (.pointer (some ⟨w.heap.size + 1, 0, none⟩)) ∧ Row w' (w.heap.size + 1) 110 18 (gtop B w.heap.size (fun _ => 0) gst0) ∧ GMap w' w.heap.size 0 gst0 ∧ w.grownBy w' none := by
  have H := hid (Size_yes B M.n w hn hM.size)
  have hb : (M.n == 0) = false := by simp; omega
  have hmm := @run_makeMap Try.prog
  clear hM
  go_enter Try.func50, Try.ntmps50
  go_wp2_with (go_at_call 49; refine H.out.mono ?_; rintro e w' ⟨rfl, rfl⟩)
  go_ret
  refine ⟨by simp, ?_, (KMap.made w _ _ _ _).alloc _, (World.grownBy_alloc w _ none).trans (World.grownBy_alloc _ _ none)⟩
  have hs : (w.alloc (.map #[] 0)).heap.size = w.heap.size + 1 := by simp
  rw [← hs]
  exact Gen.Row.new (w.alloc (.map #[] 0)) _ 110 18 _ (by simp) fun k hk => by
    have : k = 0 ∨ k = 1 ∨ k = 2 ∨ k = 3 ∨ k = 4 ∨ k = 5 ∨ k = 6 ∨ k = 7 ∨ k = 8 ∨ k = 9 ∨ k = 10 ∨ k = 11 ∨ k = 12 ∨ k = 13 ∨ k = 14 ∨ k = 15 ∨ k = 16 ∨ k = 17 := by omega
    rcases this with rfl | rfl | rfl | rfl | rfl | rfl | rfl | rfl | rfl | rfl | rfl | rfl | rfl | rfl | rfl | rfl | rfl | rfl <;> rfl
theorem gIsDom_yes (d : Int) (w : World) (h : gdom d = true) : Calls Try.prog 105 #[.int .i64 d] w fun e w' => e = .returned (.bool true) ∧ w = w' := by
  obtain ⟨h0, h1⟩ := gdom_yes.1 h
  clear h
  go_enter Try.func105, Try.ntmps105
  go_wp2
  go_ret
  exact ⟨rfl, rfl⟩
theorem gIsDom_no (d : Int) (w : World) (h : gdom d = false) : Calls Try.prog 105 #[.int .i64 d] w fun e w' => e = .returned (.bool false) ∧ w = w' := by
  rcases gdom_no.1 h with h0 | h0
  · clear h
    go_enter Try.func105, Try.ntmps105
    go_wp2
    go_ret
    exact ⟨rfl, rfl⟩
  · have h1 : 0 ≤ d := by omega
    have hb : decide (d < 8) = false := by simp; omega
    clear h
    go_enter Try.func105, Try.ntmps105
    go_wp2
    go_ret
    exact ⟨rfl, rfl⟩
theorem gIsDom (d : Int) (w : World) : Calls Try.prog 105 #[.int .i64 d] w fun e w' => e = .returned (.bool (gdom d)) ∧ w = w' := by
  cases h : gdom d
  · exact gIsDom_no d w h
  · exact gIsDom_yes d w h
theorem gIsMap (b f p : Nat) (M : Mp) (T : Nat) (w : World) (h : PMap w b f p M T) : Calls Try.prog 118 #[.pointer (some ⟨b, 0, none⟩)] w fun e w' => e = .returned (.bool true) ∧ w = w' := by
  have H := hid (pFind_yes b f p M T 0 (I64.of (by omega) (by omega)) w h)
  clear h
  obtain ⟨x, hx⟩ : ∃ x, (M.findE 0).1 = x := ⟨_, rfl⟩
  obtain ⟨y, hy⟩ : ∃ y, (M.findE 0).2 = y := ⟨_, rfl⟩
  have hb : (y != 7) = true := by
    rw [← hy]; unfold Mp.findE; cases M.pl 0 <;> rfl
  rw [hx, hy] at H
  clear hx hy
  go_enter Try.func118, Try.ntmps118
  go_wp2_with (go_at_call 93; refine H.out.mono ?_; rintro e w' ⟨rfl, rfl⟩)
  go_ret
  exact ⟨rfl, rfl⟩
section
variable {w : World} {X B G : Nat} {pm : Nat → Nat × Nat × Nat} {np : Nat} {s : Gs} {T : Nat}
theorem gJoined (h : GA w X B G pm np s T) (d : Int) : Calls Try.prog 111 #[.pointer (some ⟨X, 0, none⟩), .int .i64 d] w fun e w' => e = .returned (.bool (s.g.joined d)) ∧ w = w' := by
  cases hd : gdom d with
  | false =>
    have hj : s.g.joined d = false := by simp [Gst.joined, hd]
    rw [hj]
    clear hj
    have H := hid (gIsDom_no d w hd)
    clear hd h
    go_enter Try.func111, Try.ntmps111
    go_wp2_with (go_at_call 105; refine H.out.mono ?_; rintro e w' ⟨rfl, rfl⟩)
    go_ret
    exact ⟨rfl, rfl⟩
  | true =>
    have H := hid (gIsDom_yes d w hd)
    obtain ⟨h0, h1⟩ := gdom_yes.1 hd
    obtain ⟨k, rfl⟩ : ∃ k : Nat, d = k := ⟨d.toNat, by omega⟩
    have hk : k < 8 := by omega
    have hc := h.plc hk
    have hj : s.g.joined k = (s.g.mem k).isSome := by simp [Gst.joined, hd]
    rw [hj]
    clear hj hd h
    cases hm : s.g.mem k with
    | none =>
      rw [hm] at hc
      have hc' : w.cell? ⟨X, 1 + k * 2 + 1, none⟩ = some (.pointer none) := hc
      clear hc hm
      go_enter Try.func111, Try.ntmps111
      go_wp2_with (go_at_call 105; refine H.out.mono ?_; rintro e w' ⟨rfl, rfl⟩)
      go_ret
      exact ⟨rfl, rfl⟩
    | some x =>
      obtain ⟨t, i⟩ := x
      rw [hm] at hc
      have hc' : w.cell? ⟨X, 1 + k * 2 + 1, none⟩ = some (.pointer (some ⟨(pm i).1, 0, none⟩)) := hc
      clear hc hm
      go_enter Try.func111, Try.ntmps111
      go_wp2_with (go_at_call 105; refine H.out.mono ?_; rintro e w' ⟨rfl, rfl⟩)
      go_ret
      exact ⟨rfl, rfl⟩
theorem gSlot (h : GA w X B G pm np s T) (d r : Int) : Calls Try.prog 106 #[.pointer (some ⟨X, 0, none⟩), .int .i64 d, .int .i64 r] w fun e w' => e = .returned (.bool (s.g.slot d r)) ∧ w = w' := by
  have H := hid (gJoined h d)
  clear h
  have hs : s.g.slot d r = (s.g.joined d && (decide (0 ≤ r) && decide (r < 32))) := rfl
  rw [hs]
  clear hs
  cases hj : s.g.joined d with
  | false =>
    rw [hj] at H
    clear hj
    go_enter Try.func106, Try.ntmps106
    go_wp2_with (go_at_call 111; refine H.out.mono ?_; rintro e w' ⟨rfl, rfl⟩)
    go_ret
    exact ⟨rfl, rfl⟩
  | true =>
    rw [hj] at H
    clear hj
    by_cases h0 : r < 0
    · have e : (true && (decide (0 ≤ r) && decide (r < 32))) = false := by simp; omega
      rw [e]
      clear e
      go_enter Try.func106, Try.ntmps106
      go_wp2_with (go_at_call 111; refine H.out.mono ?_; rintro e w' ⟨rfl, rfl⟩)
      go_ret
      exact ⟨rfl, rfl⟩
    · have h1 : 0 ≤ r := by omega
      by_cases h2 : r < 32
      · have e : (true && (decide (0 ≤ r) && decide (r < 32))) = true := by simp; omega
        rw [e]
        clear e
        go_enter Try.func106, Try.ntmps106
        go_wp2_with (go_at_call 111; refine H.out.mono ?_; rintro e w' ⟨rfl, rfl⟩)
        go_ret
        exact ⟨rfl, rfl⟩
      · have e : (true && (decide (0 ≤ r) && decide (r < 32))) = false := by simp; omega
        rw [e]
        clear e
        have hb : decide (r < 32) = false := by simp; omega
        go_enter Try.func106, Try.ntmps106
        go_wp2_with (go_at_call 111; refine H.out.mono ?_; rintro e w' ⟨rfl, rfl⟩)
        go_ret
        exact ⟨rfl, rfl⟩
end
theorem gKind (wr : Bool) (w : World) : Calls Try.prog 110 #[.bool wr] w fun e w' => e = .returned (.int .i64 (kindW wr)) ∧ w = w' := by
  cases wr
  · go_enter Try.func110, Try.ntmps110
    go_wp2
    go_ret
    exact ⟨rfl, rfl⟩
  · go_enter Try.func110, Try.ntmps110
    go_wp2
    go_ret
    exact ⟨rfl, rfl⟩
theorem gPageP (m : Int) (w : World) : Calls Try.prog 113 #[.int .i64 m] w fun e w' => e = .returned (.agg #[.int .i64 m, .int .i64 0, .int .i64 256]) ∧ w.grownBy w' none := by
  go_enter Try.func113, Try.ntmps113
  go_wp2
  first
    | (go_ret; exact ⟨rfl, World.grownBy.refl _ _⟩)
    | (go_returns; exact ⟨rfl, World.grownBy_alloc _ _ none⟩)
theorem gWithin (m first size off n : Int) (w : World) (h0 : 0 ≤ first) (h1 : first ≤ 256) (h2 : 0 ≤ size) (h3 : size ≤ 256) (hb : off ≤ 9223372036854775807) : Calls Try.prog 114 #[.agg #[.int .i64 m, .int .i64 first, .int .i64 size], .int .i64 off, .int .i64 n] w fun e w' =>
    e = .returned (.tuple #[.int .i64 ((⟨m, first, size, false⟩ : EndV).at off n).1, .int .i64 ((⟨m, first, size, false⟩ : EndV).at off n).2]) ∧ w.grownBy w' none := by
  by_cases ho : off < 0
  · have e : (⟨m, first, size, false⟩ : EndV).at off n = (0, 63) := by unfold EndV.at; rw [if_pos (by omega)]
    rw [e]
    clear e
    go_enter Try.func114, Try.ntmps114
    go_wp2
    go_ret2
    exact ⟨rfl, World.grownBy_alloc _ _ none⟩
  have ho' : 0 ≤ off := by omega
  by_cases hn : n < 0
  · have e : (⟨m, first, size, false⟩ : EndV).at off n = (0, 63) := by unfold EndV.at; rw [if_pos (by omega)]
    rw [e]
    clear e
    go_enter Try.func114, Try.ntmps114
    go_wp2
    go_ret2
    exact ⟨rfl, World.grownBy_alloc _ _ none⟩
  have hn' : 0 ≤ n := by omega
  by_cases hs : size - off < n
  · have e : (⟨m, first, size, false⟩ : EndV).at off n = (0, 63) := by unfold EndV.at; rw [if_pos (by simp only; omega)]
    rw [e]
    clear e
    go_enter Try.func114, Try.ntmps114
    go_wp2
    go_ret2
    exact ⟨rfl, World.grownBy_alloc _ _ none⟩
  · have e : (⟨m, first, size, false⟩ : EndV).at off n = (first + off, 0) := by unfold EndV.at; rw [if_neg (by simp only; omega)]
    rw [e]
    clear e
    have hs' : n ≤ size - off := by omega
    have hb2 : off ≤ 256 := by omega
    go_enter Try.func114, Try.ntmps114
    go_wp2
    go_ret2
    exact ⟨rfl, World.grownBy_alloc _ _ none⟩
end Go.Proofs.Ytibiianmpajabaa

/-
  Package grant: handle, live, owns, granted, entry.
-/
set_option linter.unusedSimpArgs false
set_option linter.unusedVariables false
namespace Go.Proofs.Ytibiianmpajabaa
open Go.RowKit KM
set_option maxHeartbeats 4000000

theorem Gst.free_spec {g : Gst} {c : Int} {h : Nat} (e : g.free c = some h) : h < 16 ∧ (∀ j : Nat, j < h → (g.mp (c, (j : Int))).isSome = true) ∧ g.mp (c, (h : Int)) = none := by
  refine ⟨Gst.free_lt e, fun j hj => ?_, Gst.free_is e⟩
  cases hm : g.mp (c, (j : Int)) with
  | some a => rfl
  | none =>
    exfalso
    have hl := Gst.free_lt e
    unfold Gst.free at e
    rw [List.find?_eq_some_iff_append] at e
    obtain ⟨_, ls, bs, hab, hno⟩ := e
    have hlen : ls.length = h := by
      have h1 : (List.range 16)[ls.length]? = some h := by rw [hab]; simp
      have h2 : ls.length < 16 := by
        have := congrArg List.length hab
        simp at this; omega
      rw [List.getElem?_range h2] at h1
      exact Option.some.inj h1
    have hmem : j ∈ ls := by
      have h1 : (List.range 16)[j]? = some j := List.getElem?_range (by omega)
      rw [hab, List.getElem?_append_left (by omega)] at h1
      exact List.mem_of_getElem? h1
    have := hno j hmem
    simp [hm] at this
theorem Gst.free_all {g : Gst} {c : Int} (e : g.free c = none) (j : Nat) (hj : j < 16) : (g.mp (c, (j : Int))).isSome = true := by
  unfold Gst.free at e
  have := List.find?_eq_none.1 e j (by simpa using hj)
  cases hm : g.mp (c, (j : Int)) <;> simp_all
theorem fit2_of {c : Int} {h : Nat} (h0 : 0 ≤ c) (h1 : c < 8) (h2 : h < 16) : fit2 (c, (h : Int)) := ⟨WalkArith.wf_i64 (by simp only; omega), WalkArith.wf_i64 (by simp only; omega)⟩
section
variable {w : World} {X B G : Nat} {pm : Nat → Nat × Nat × Nat} {np : Nat} {s : Gs} {T : Nat}
theorem gHandle_yes (h : GA w X B G pm np s T) (c : Int) (h0 : 0 ≤ c) (h1 : c < 8) (x : Nat) (hx : s.g.free c = some x) : Calls Try.prog 107 #[.pointer (some ⟨X, 0, none⟩), .int .i64 c] w fun e w' => e = .returned (.tuple #[.int .i64 x, .bool true]) ∧ w.grownBy w' none := by
  obtain ⟨hx1, hx2, hx3⟩ := Gst.free_spec hx
  have c17 := h.c17
  have H := hid h
  have HX := hid hx2
  have HN := hid hx3
  have hX := H.out.top.lt
  clear h hx hx2 hx3
  go_enter Try.func107, Try.ntmps107
  go_wp2
  go_loopw [9] (fun i wr => ∃ k : Nat, i = .int .i64 k ∧ k ≤ x ∧ w.grownBy wr none) (fun i _ => x - (intOf i).toNat)
  case atStart => exact ⟨0, rfl, by omega, World.grownBy.refl _ _⟩
  case round =>
    obtain ⟨k, rfl, hk, hg⟩ := hrel
    have c17r := hg.cell c17 (by simp)
    have HG := hid hg
    have HR := hid (H.out.grown hg).mp
    have hk0 : (0 : Int) ≤ k := by omega
    have hk16 : (k : Int) < 16 := by omega
    have HF := hid (fit2_of (h := k) h0 h1 (by omega))
    clear hg
    by_cases hlt : k < x
    · have hs := HX.out k hlt
      cases hm : s.g.mp (c, (k : Int)) with
      | none => rw [hm] at hs; cases hs
      | some a =>
        have e1 := hid (show ((s.g.mp (c, (k : Int))).map Mpd.val).getD mpd0.val = .agg #[.int .i64 a.h, .int .i64 a.c, .int .i64 a.o, .int .i64 a.r, .int .i64 a.m, .bool a.wr] by rw [hm]; rfl)
        have e2 := hid (show ((s.g.mp (c, (k : Int))).map Mpd.val).isSome = true by rw [hm]; rfl)
        clear hs hm
        go_wp2_with (at_lookup; refine wpList_look_ok_kmap _ rfl _ _ 108 rfl 190 key_ks Try.underlying108 mpd0.val (mapped_zero _) G T _ rfl HR.out (c, (k : Int)) rfl HF.out ?_; rw [e1.out, e2.out])
        go_roundw
        case rel => exact ⟨k + 1, by go_num, by omega, HG.out.trans (World.grownBy_alloc _ _ none)⟩
        case measure => simp [intOf]; omega
    · obtain rfl : k = x := by omega
      have e1 := hid (show ((s.g.mp (c, (k : Int))).map Mpd.val).getD mpd0.val = .agg #[.int .i64 0, .int .i64 0, .int .i64 0, .int .i64 0, .int .i64 0, .bool false] by rw [HN.out]; rfl)
      have e2 := hid (show ((s.g.mp (c, (k : Int))).map Mpd.val).isSome = false by rw [HN.out]; rfl)
      go_wp2_with (at_lookup; refine wpList_look_ok_kmap _ rfl _ _ 108 rfl 190 key_ks Try.underlying108 mpd0.val (mapped_zero _) G T _ rfl HR.out (c, (k : Int)) rfl HF.out ?_; rw [e1.out, e2.out])
      go_ret2
      exact ⟨rfl, HG.out.trans (World.grownBy_alloc _ _ none)⟩
theorem gHandle_no (h : GA w X B G pm np s T) (c : Int) (h0 : 0 ≤ c) (h1 : c < 8) (hx : s.g.free c = none) : Calls Try.prog 107 #[.pointer (some ⟨X, 0, none⟩), .int .i64 c] w fun e w' => e = .returned (.tuple #[.int .i64 0, .bool false]) ∧ w.grownBy w' none := by
  have c17 := h.c17
  have H := hid h
  have HX := hid (Gst.free_all hx)
  have hX := H.out.top.lt
  clear h hx
  go_enter Try.func107, Try.ntmps107
  go_wp2
  go_loopw [9] (fun i wr => ∃ k : Nat, i = .int .i64 k ∧ k ≤ 16 ∧ w.grownBy wr none) (fun i _ => 16 - (intOf i).toNat)
  case atStart => exact ⟨0, rfl, by omega, World.grownBy.refl _ _⟩
  case round =>
    obtain ⟨k, rfl, hk, hg⟩ := hrel
    have c17r := hg.cell c17 (by simp)
    have HG := hid hg
    have HR := hid (H.out.grown hg).mp
    have hk0 : (0 : Int) ≤ k := by omega
    clear hg
    by_cases hlt : k < 16
    · have hk16 : (k : Int) < 16 := by omega
      have HF := hid (fit2_of (h := k) h0 h1 (by omega))
      have hs := HX.out k hlt
      cases hm : s.g.mp (c, (k : Int)) with
      | none => rw [hm] at hs; cases hs
      | some a =>
        have e1 := hid (show ((s.g.mp (c, (k : Int))).map Mpd.val).getD mpd0.val = .agg #[.int .i64 a.h, .int .i64 a.c, .int .i64 a.o, .int .i64 a.r, .int .i64 a.m, .bool a.wr] by rw [hm]; rfl)
        have e2 := hid (show ((s.g.mp (c, (k : Int))).map Mpd.val).isSome = true by rw [hm]; rfl)
        clear hs hm
        go_wp2_with (at_lookup; refine wpList_look_ok_kmap _ rfl _ _ 108 rfl 190 key_ks Try.underlying108 mpd0.val (mapped_zero _) G T _ rfl HR.out (c, (k : Int)) rfl HF.out ?_; rw [e1.out, e2.out])
        go_roundw
        case rel => exact ⟨k + 1, by go_num, by omega, HG.out.trans (World.grownBy_alloc _ _ none)⟩
        case measure => simp [intOf]; omega
    · have hge : (16 : Int) ≤ k := by omega
      go_wp2
      go_ret2
      exact ⟨rfl, HG.out⟩
theorem gLive (h : GA w X B G pm np s T) (c x : Int) (hxw : (Lit.int .i64 x).wf = true) : Calls Try.prog 112 #[.pointer (some ⟨X, 0, none⟩), .int .i64 c, .int .i64 x] w fun e w' => e = .returned (.tuple #[(s.live c x).1.val, .int .i64 (s.live c x).2]) ∧ w.grownBy w' none := by
  have hg0 := World.grownBy_alloc w (.cells #[.int .i64 0, .int .i64 0, .int .i64 0, .int .i64 0, .int .i64 0, .bool false] 190) none
  have c0 := h.c0
  have c17 := h.c17
  have c0r := hg0.cell c0 (by simp)
  have hX := h.top.lt
  have HR := hid (h.grown hg0).mp
  have HG0 := hid hg0
  clear h hg0
  cases hd : gdom c with
  | false =>
    have hl : s.live c x = (mpd0, 1) := by unfold Gs.live; rw [hd]; rfl
    rw [hl]
    have HD := hid (fun w => gIsDom_no c w hd)
    clear hl hd
    go_enter Try.func112, Try.ntmps112
    go_wp2_with (first
      | (go_at_call 103; refine (gMade_yes X B _ c0r).mono ?_; rintro e w' ⟨rfl, rfl⟩)
      | (go_at_call 105; refine (HD.out _).mono ?_; rintro e w' ⟨rfl, rfl⟩))
    go_returns
    exact ⟨rfl, World.grownBy_alloc _ _ none⟩
  | true =>
    have HD := hid (fun w => gIsDom_yes c w hd)
    obtain ⟨h0, h1⟩ := gdom_yes.1 hd
    have HF := hid (show fit2 (c, x) from ⟨WalkArith.wf_i64 (by simp only; omega), hxw⟩)
    cases hm : s.g.mp (c, x) with
    | none =>
      have hl : s.live c x = (mpd0, 6) := by unfold Gs.live; rw [hd, hm]; rfl
      rw [hl]
      have e1 := hid (show ((s.g.mp (c, x)).map Mpd.val).getD mpd0.val = .agg #[.int .i64 0, .int .i64 0, .int .i64 0, .int .i64 0, .int .i64 0, .bool false] by rw [hm]; rfl)
      have e2 := hid (show ((s.g.mp (c, x)).map Mpd.val).isSome = false by rw [hm]; rfl)
      clear hl hd hm
      go_enter Try.func112, Try.ntmps112
      go_wp2_with (first
        | (go_at_call 103; refine (gMade_yes X B _ c0r).mono ?_; rintro e w' ⟨rfl, rfl⟩)
        | (go_at_call 105; refine (HD.out _).mono ?_; rintro e w' ⟨rfl, rfl⟩)
        | (at_lookup; refine wpList_look_ok_kmap _ rfl _ _ 108 rfl 190 key_ks Try.underlying108 mpd0.val (mapped_zero _) G T _ rfl HR.out (c, x) rfl HF.out ?_; rw [e1.out, e2.out]))
      go_returns
      exact ⟨rfl, HG0.out.trans (World.grownBy_alloc _ _ none)⟩
    | some a =>
      have hl : s.live c x = (a, 0) := by unfold Gs.live; rw [hd, hm]; rfl
      rw [hl]
      have e1 := hid (show ((s.g.mp (c, x)).map Mpd.val).getD mpd0.val = .agg #[.int .i64 a.h, .int .i64 a.c, .int .i64 a.o, .int .i64 a.r, .int .i64 a.m, .bool a.wr] by rw [hm]; rfl)
      have e2 := hid (show ((s.g.mp (c, x)).map Mpd.val).isSome = true by rw [hm]; rfl)
      clear hl hd hm
      have hv : a.val = .agg #[.int .i64 a.h, .int .i64 a.c, .int .i64 a.o, .int .i64 a.r, .int .i64 a.m, .bool a.wr] := rfl
      show Calls _ _ _ _ fun e w' => e = .returned (.tuple #[a.val, .int .i64 0]) ∧ _
      rw [hv]
      clear hv
      go_enter Try.func112, Try.ntmps112
      go_wp2_with (first
        | (go_at_call 103; refine (gMade_yes X B _ c0r).mono ?_; rintro e w' ⟨rfl, rfl⟩)
        | (go_at_call 105; refine (HD.out _).mono ?_; rintro e w' ⟨rfl, rfl⟩)
        | (at_lookup; refine wpList_look_ok_kmap _ rfl _ _ 108 rfl 190 key_ks Try.underlying108 mpd0.val (mapped_zero _) G T _ rfl HR.out (c, x) rfl HF.out ?_; rw [e1.out, e2.out]))
      go_returns
      exact ⟨rfl, (World.grownBy_alloc _ _ none).trans (World.grownBy_alloc _ _ none)⟩
theorem gOwns (h : GA w X B G pm np s T) {K : Int} (hok : s.M.ok K) (d m : Int) : Calls Try.prog 119 #[.pointer (some ⟨X, 0, none⟩), .int .i64 d, .int .i64 m] w fun e w' => e = .returned (.bool (s.owns d m)) ∧ w.grownBy w' none := by
  have c0 := h.c0
  cases hi : s.M.is m with
  | false =>
    have ho : s.owns d m = false := by simp [Gs.owns, hi]
    rw [ho]
    have H := hid (Frame_no B m w s.M K h.m hok (by have := hi; simp only [Mach.is, Bool.and_eq_false_iff, decide_eq_false_iff_not] at this; omega))
    clear ho hi h hok
    go_enter Try.func119, Try.ntmps119
    go_wp2_with (go_at_call 47; refine H.out.mono ?_; rintro e w1 ⟨rfl, g1⟩; have G1 := hid g1; clear g1)
    go_ret
    exact ⟨rfl, G1.out.trans (World.grownBy_alloc _ _ none)⟩
  | true =>
    obtain ⟨h0, h1⟩ := Mach.is_iff.1 hi
    obtain ⟨k, rfl⟩ : ∃ k : Nat, m = k := ⟨m.toNat, by omega⟩
    have ho : s.owns d k = ((s.M.fr k).owner == d) := by simp [Gs.owns, hi]
    rw [ho]
    have H := hid (Frame_yes B k w s.M K h.m hok h1)
    simp only [Fr.head] at H
    clear ho hi h hok
    cases hb : (s.M.fr k).owner == d
    · go_enter Try.func119, Try.ntmps119
      go_wp2_with (go_at_call 47; refine H.out.mono ?_; rintro e w1 ⟨rfl, g1⟩; have G1 := hid g1; clear g1)
      go_ret
      exact ⟨rfl, G1.out.trans (World.grownBy_alloc _ _ none)⟩
    · go_enter Try.func119, Try.ntmps119
      go_wp2_with (go_at_call 47; refine H.out.mono ?_; rintro e w1 ⟨rfl, g1⟩; have G1 := hid g1; clear g1)
      go_ret
      exact ⟨rfl, G1.out.trans (World.grownBy_alloc _ _ none)⟩
end
end Go.Proofs.Ytibiianmpajabaa

/-
  Package grant: granted, entry; Join, Leave.
-/
set_option linter.unusedSimpArgs false
set_option linter.unusedVariables false
namespace Go.Proofs.Ytibiianmpajabaa
open Go.RowKit KM
set_option maxHeartbeats 4000000
set_option maxRecDepth 100000

theorem Mach.get_fail {M : Mach} {i o k : Int} (h : (M.get i o k).1 ≠ 0) : (M.get i o k).2 = M := by
  unfold Mach.get Mach.take at h ⊢
  split; · rfl
  split; · rfl
  split; · rfl
  split; · rfl
  rename_i h1 h2 h3 h4
  rw [if_neg h1, if_neg h2, if_neg h3, if_neg h4] at h
  split
  · rfl
  · rename_i h5
    rw [if_neg h5] at h
    exact absurd rfl h
theorem Mach.put_n (M : Mach) (i k : Int) : (M.put i k).2.n = M.n := by unfold Mach.put Mach.drop; (repeat' split) <;> rfl
theorem Mach.get_n (M : Mach) (i o k : Int) : (M.get i o k).2.n = M.n := by unfold Mach.get Mach.take; (repeat' split) <;> rfl
/-- what a call leaves -/
structure GL (w : World) (X B G : Nat) (pm : Nat → Nat × Nat × Nat) (np : Nat) (s' : Gs) (T' : Nat) (w' : World) : Prop where
  a : GA w' X B G pm np s' T'
  c : Chg (gfoot X B G pm np) w w'
def Gs.grE (s : Gs) (o p : Int) : Int × Int := match s.granted o p with | some m => (m, 0) | none => (0, 60)
section
variable {w : World} {X B G : Nat} {pm : Nat → Nat × Nat × Nat} {np : Nat} {s : Gs} {T : Nat}
theorem GL.same (h : GA w X B G pm np s T) : GL w X B G pm np s T w := ⟨h, Chg.refl _ _⟩
theorem GL.grow (h : GA w X B G pm np s T) {w' : World} (hg : w.grownBy w' none) : GL w X B G pm np s T w' := ⟨h.grown hg, Chg.of0 hg⟩
theorem gGranted (h : GA w X B G pm np s T) {K : Int} (hok : s.M.ok K) (o : Nat) (ho : o < 8) (t : Int) (i : Nat) (hm : s.g.mem o = some (t, i)) (hi : i < np) (k : Int) (ro sub : Bool) (dom p off ln : Int) (hp : I64 p) :
    Calls Try.prog 109 #[.pointer (some ⟨X, 0, none⟩), .int .i64 o, .agg #[.int .i64 k, .bool ro, .bool sub, .int .i64 dom, .int .i64 p, .int .i64 off, .int .i64 ln]] w fun e w' =>
      e = .returned (.tuple #[.int .i64 (s.grE o p).1, .int .i64 (s.grE o p).2]) ∧ w.grownBy w' none := by
  obtain ⟨W, hW⟩ : ∃ W, w.alloc (.cells #[.int .i64 k, .bool ro, .bool sub, .int .i64 dom, .int .i64 p, .int .i64 off, .int .i64 ln] 77) = W := ⟨_, rfl⟩
  have hg : w.grownBy W none := hW ▸ World.grownBy_alloc _ _ none
  have hA := h.grown hg
  have c1 : W.cell? ⟨X, 1 + o * 2 + 1, none⟩ = some (.pointer (some ⟨(pm i).1, 0, none⟩)) := by have := hA.plc ho; rw [hm] at this; exact this
  have c4 : W.cell? ⟨w.heap.size, 4, none⟩ = some (.int .i64 p) := by rw [← hW]; simp [go_sem]
  have HP := hid (fun w' (hg' : W.grownBy w' none) => pGet_yes (pm i).1 (pm i).2.1 (pm i).2.2 (s.P i) T p hp w' ((hA.grown hg').p i hi))
  have HO := hid (fun w' m (hg' : W.grownBy w' none) => gOwns (hA.grown hg') hok o m)
  have ho0 : (0 : Int) ≤ o := by omega
  have ho8 : (o : Int) < 8 := by omega
  have HG := hid hg
  have hgr : s.granted o p = if ((s.P i).getE p).2 = 0 ∧ s.owns o ((s.P i).getE p).1 = true then some ((s.P i).getE p).1 else none := by
    unfold Gs.granted
    rw [Int.toNat_natCast, hm]
  obtain ⟨m, hm1⟩ : ∃ m, ((s.P i).getE p).1 = m := ⟨_, rfl⟩
  obtain ⟨e, he⟩ : ∃ e, ((s.P i).getE p).2 = e := ⟨_, rfl⟩
  rw [hm1, he] at HP hgr
  clear h hok hA hg hm hp hm1 he
  by_cases he0 : e = 0
  · subst he0
    cases hw : s.owns o m with
    | true =>
      have e1 : s.grE o p = (m, 0) := by unfold Gs.grE; rw [hgr, if_pos ⟨rfl, hw⟩]
      rw [e1]
      have HW := hid hw
      clear hgr e1 hw
      go_enter Try.func109, Try.ntmps109
      go_wp2_with fail
      go_quiet ((go_at_call 88; refine Calls.quiet_of_same (v := .tuple #[.int .i64 m, .int .i64 0]) ((HP.out _ (grownBy_drewN _ _ none)).mono ?_); rintro ex w' ⟨rfl, rfl⟩; exact ⟨rfl, rfl⟩))
      go_wp2_with (go_at_call 119; refine (HO.out _ _ (grownBy_drewN _ _ none)).mono ?_; rw [HW.out]; rintro e w1 ⟨rfl, g1⟩; have G1 := hid (HG.out.trans ((grownBy_drewN _ _ none).trans g1)); clear g1)
      go_ret2
      exact ⟨rfl, G1.out⟩
    | false =>
      have e1 : s.grE o p = (0, 60) := by unfold Gs.grE; rw [hgr, if_neg (by rw [hw]; simp)]
      rw [e1]
      have HW := hid hw
      clear hgr e1 hw
      go_enter Try.func109, Try.ntmps109
      go_wp2_with fail
      go_quiet ((go_at_call 88; refine Calls.quiet_of_same (v := .tuple #[.int .i64 m, .int .i64 0]) ((HP.out _ (grownBy_drewN _ _ none)).mono ?_); rintro ex w' ⟨rfl, rfl⟩; exact ⟨rfl, rfl⟩))
      go_wp2_with (go_at_call 119; refine (HO.out _ _ (grownBy_drewN _ _ none)).mono ?_; rw [HW.out]; rintro e w1 ⟨rfl, g1⟩; have G1 := hid (HG.out.trans ((grownBy_drewN _ _ none).trans g1)); clear g1)
      go_ret2
      exact ⟨rfl, G1.out⟩
  · have e1 : s.grE o p = (0, 60) := by unfold Gs.grE; rw [hgr, if_neg (fun h => he0 h.1)]
    rw [e1]
    have hb : (e != 0) = true := by simpa using he0
    clear hgr e1 he0
    go_enter Try.func109, Try.ntmps109
    go_wp2_with fail
    go_quiet ((go_at_call 88; refine Calls.quiet_of_same (v := .tuple #[.int .i64 m, .int .i64 e]) ((HP.out _ (grownBy_drewN _ _ none)).mono ?_); rintro ex w' ⟨rfl, rfl⟩; exact ⟨rfl, rfl⟩))
    go_wp2
    go_ret2
    exact ⟨rfl, HG.out.trans (grownBy_drewN _ _ none)⟩
theorem gLeave (h : GA w X B G pm np s T) {K : Int} (hok : s.M.ok K) (hK : K < 9223372036854775807) (d : Int) :
    Calls Try.prog 39 #[.pointer (some ⟨X, 0, none⟩), .int .i64 d] w fun e w' => e = .returned (.int .i64 (s.leave d).1) ∧ GL w X B G pm np (s.leave d).2 T w' := by
  have c0 := h.c0
  have HJ := hid (gJoined h d)
  cases hd : gdom d with
  | false =>
    have e1 : s.leave d = (1, s) := by unfold Gs.leave; rw [if_pos hd]
    rw [e1]
    have HD := hid (gIsDom_no d w hd)
    have HL := hid (GL.same h)
    clear h hok hd e1
    go_enter Try.func39, Try.ntmps39
    go_wp2_with (first
      | (go_at_call 103; refine (gMade_yes X B _ c0).mono ?_; rintro e w' ⟨rfl, rfl⟩)
      | (go_at_call 105; refine HD.out.mono ?_; rintro e w' ⟨rfl, rfl⟩))
    go_ret
    exact ⟨rfl, HL.out⟩
  | true =>
    have HD := hid (gIsDom_yes d w hd)
    obtain ⟨h0, h1⟩ := gdom_yes.1 hd
    obtain ⟨k, rfl⟩ : ∃ k : Nat, d = k := ⟨d.toNat, by omega⟩
    have hk : k < 8 := by omega
    have hj : s.g.joined k = (s.g.mem k).isSome := by simp [Gst.joined, hd]
    rw [hj] at HJ
    cases hm : s.g.mem k with
    | none =>
      have e1 : s.leave k = (6, s) := by unfold Gs.leave; rw [if_neg (by rw [hd]; simp), Int.toNat_natCast, hm]
      rw [e1]
      rw [hm] at HJ
      have HL := hid (GL.same h)
      clear h hok hd e1 hm hj
      go_enter Try.func39, Try.ntmps39
      go_wp2_with (first
        | (go_at_call 103; refine (gMade_yes X B _ c0).mono ?_; rintro e w' ⟨rfl, rfl⟩)
        | (go_at_call 105; refine HD.out.mono ?_; rintro e w' ⟨rfl, rfl⟩)
        | (go_at_call 111; refine HJ.out.mono ?_; simp only [Option.isSome_none]; rintro e w' ⟨rfl, rfl⟩))
      go_ret
      exact ⟨rfl, HL.out⟩
    | some x =>
      obtain ⟨t, i⟩ := x
      have e1 : s.leave k = (0, ⟨(s.M.put t 1).2, s.P, s.g.setMem k none⟩) := by unfold Gs.leave; rw [if_neg (by rw [hd]; simp), Int.toNat_natCast, hm]
      rw [e1]
      rw [hm] at HJ
      have c1 : w.cell? ⟨X, 1 + k * 2, none⟩ = some (.int .i64 t) := by have := h.tbl hk; rw [hm] at this; exact this
      have HP := hid (Put_any B t 1 w.drew s.M K h.m.drew hok hK)
      have HA := hid h
      have HK := hid hk
      have hX := h.top.lt
      clear h hok hd e1 hm hj
      go_enter Try.func39, Try.ntmps39
      go_wp2_with (first
        | (go_at_call 103; refine (gMade_yes X B _ c0).mono ?_; rintro e w' ⟨rfl, rfl⟩)
        | (go_at_call 105; refine HD.out.mono ?_; rintro e w' ⟨rfl, rfl⟩)
        | (go_at_call 111; refine HJ.out.mono ?_; simp only [Option.isSome_some]; rintro e w' ⟨rfl, rfl⟩))
      go_still_tail 11, (by kernel_rfl)
      change wpList _ _ _ _ _ w.drew
      go_wp2_with (go_at_call 71; refine HP.out.mono ?_; rintro e w3 ⟨rfl, h3, g3⟩; have HA3 := hid (HA.out.mach h3 ((grownBy_drew w _).trans g3)); have G3 := hid ((grownBy_drew w (some B)).trans g3); have d1 := HA3.out.tbl HK.out; have d2 := HA3.out.plc HK.out; have f1 := HA3.out.top.frozen (1 + k * 2); have f2 := HA3.out.top.frozen (1 + k * 2 + 1); clear h3 g3)
      go_ret
      have hm3 := HA3.out.member HK.out none
      refine ⟨rfl, hm3, ?_⟩
      have q1 := (grownBy_setCell w3 X (1 + k * 2) none (.int .i64 0)).trans (grownBy_setCell _ X (1 + k * 2 + 1) none (.pointer none))
      exact (Chg.of (S := gfoot X B G pm np) G3.out fun j e => .inl (.inr (.inl (Option.some.inj e).symm))).trans (Chg.of (S := gfoot X B G pm np) q1 fun j e => .inl (.inl (Option.some.inj e).symm)) fun _ e => .inl e
theorem gJoin (h : GA w X B G pm np s T) {K : Int} (hok : s.M.ok K) (hK : K < 9223372036854775807) (d mfn : Int) (i : Nat) (hi : i < np) :
    Calls Try.prog 52 #[.pointer (some ⟨X, 0, none⟩), .int .i64 d, .int .i64 mfn, .pointer (some ⟨(pm i).1, 0, none⟩)] w fun e w' => e = .returned (.int .i64 (s.join d mfn i).1) ∧ GL w X B G pm np (s.join d mfn i).2 T w' := by
  have c0 := h.c0
  have HJ := hid (gJoined h d)
  have HM := hid (gIsMap _ _ _ _ _ w (h.p i hi))
  cases hd : gdom d with
  | false =>
    have e1 : s.join d mfn i = (1, s) := by unfold Gs.join; rw [if_pos hd]
    rw [e1]
    have HD := hid (gIsDom_no d w hd)
    have HL := hid (GL.same h)
    clear h hok hd e1
    go_enter Try.func52, Try.ntmps52
    go_wp2_with (first
      | (go_at_call 103; refine (gMade_yes X B _ c0).mono ?_; rintro e w' ⟨rfl, rfl⟩)
      | (go_at_call 105; refine HD.out.mono ?_; rintro e w' ⟨rfl, rfl⟩))
    go_ret
    exact ⟨rfl, HL.out⟩
  | true =>
    have HD := hid (gIsDom_yes d w hd)
    obtain ⟨h0, h1⟩ := gdom_yes.1 hd
    obtain ⟨k, rfl⟩ : ∃ k : Nat, d = k := ⟨d.toNat, by omega⟩
    have hk : k < 8 := by omega
    have hj : s.g.joined k = (s.g.mem k).isSome := by simp [Gst.joined, hd]
    rw [hj] at HJ
    cases hm : s.g.mem k with
    | some x =>
      have e1 : s.join k mfn i = (8, s) := by unfold Gs.join; rw [if_neg (by rw [hd]; simp), Int.toNat_natCast, hm]; rfl
      rw [e1]
      rw [hm] at HJ
      have HL := hid (GL.same h)
      clear h hok hd e1 hm hj
      go_enter Try.func52, Try.ntmps52
      go_wp2_with (first
        | (go_at_call 103; refine (gMade_yes X B _ c0).mono ?_; rintro e w' ⟨rfl, rfl⟩)
        | (go_at_call 105; refine HD.out.mono ?_; rintro e w' ⟨rfl, rfl⟩)
        | (go_at_call 118; refine HM.out.mono ?_; rintro e w' ⟨rfl, rfl⟩)
        | (go_at_call 111; refine HJ.out.mono ?_; simp only [Option.isSome_some]; rintro e w' ⟨rfl, rfl⟩))
      go_ret
      exact ⟨rfl, HL.out⟩
    | none =>
      rw [hm] at HJ
      obtain ⟨r, hr⟩ : ∃ r, (s.M.get mfn k 1).1 = r := ⟨_, rfl⟩
      have HP := hid (Get_any B mfn k 1 w s.M K h.m hok hK)
      rw [hr] at HP
      have HA := hid h
      have HK := hid hk
      have hX := h.top.lt
      by_cases hr0 : r = 0
      · subst hr0
        have e1 : s.join k mfn i = (0, ⟨(s.M.get mfn k 1).2, s.P, s.g.setMem k (some (mfn, i))⟩) := by unfold Gs.join; rw [if_neg (by rw [hd]; simp), Int.toNat_natCast, hm, if_neg (by simp), if_pos hr]
        rw [e1]
        clear h hok hd e1 hm hj hr
        go_enter Try.func52, Try.ntmps52
        go_wp2_with (first
          | (go_at_call 103; refine (gMade_yes X B _ c0).mono ?_; rintro e w' ⟨rfl, rfl⟩)
          | (go_at_call 105; refine HD.out.mono ?_; rintro e w' ⟨rfl, rfl⟩)
          | (go_at_call 118; refine HM.out.mono ?_; rintro e w' ⟨rfl, rfl⟩)
          | (go_at_call 111; refine HJ.out.mono ?_; simp only [Option.isSome_none]; rintro e w' ⟨rfl, rfl⟩)
          | (go_at_call 69; refine HP.out.mono ?_; rintro e w3 ⟨rfl, h3, g3⟩; have HA3 := hid (HA.out.mach h3 g3); have G3 := hid g3; have d1 := HA3.out.tbl HK.out; have d2 := HA3.out.plc HK.out; have f1 := HA3.out.top.frozen (1 + k * 2); have f2 := HA3.out.top.frozen (1 + k * 2 + 1); clear h3 g3))
        go_ret
        have hm3 := HA3.out.member HK.out (some (mfn, i))
        refine ⟨rfl, hm3, ?_⟩
        have q1 := (grownBy_setCell w3 X (1 + k * 2) none (.int .i64 mfn)).trans (grownBy_setCell _ X (1 + k * 2 + 1) none (.pointer (some ⟨(pm i).1, 0, none⟩)))
        exact (Chg.of (S := gfoot X B G pm np) G3.out fun j e => .inl (.inr (.inl (Option.some.inj e).symm))).trans (Chg.of (S := gfoot X B G pm np) q1 fun j e => .inl (.inl (Option.some.inj e).symm)) fun _ e => .inl e
      · have e1 : s.join k mfn i = (r, s) := by unfold Gs.join; rw [if_neg (by rw [hd]; simp), Int.toNat_natCast, hm, if_neg (by simp), hr, if_neg hr0]
        rw [e1]
        have hf : (s.M.get mfn k 1).2 = s.M := Mach.get_fail (by rw [hr]; exact hr0)
        rw [hf] at HP
        have hb : (r != 0) = true := by simpa using hr0
        clear h hok hd e1 hm hj hr hf hr0
        go_enter Try.func52, Try.ntmps52
        go_wp2_with (first
          | (go_at_call 103; refine (gMade_yes X B _ c0).mono ?_; rintro e w' ⟨rfl, rfl⟩)
          | (go_at_call 105; refine HD.out.mono ?_; rintro e w' ⟨rfl, rfl⟩)
          | (go_at_call 118; refine HM.out.mono ?_; rintro e w' ⟨rfl, rfl⟩)
          | (go_at_call 111; refine HJ.out.mono ?_; simp only [Option.isSome_none]; rintro e w' ⟨rfl, rfl⟩)
          | (go_at_call 69; refine HP.out.mono ?_; rintro e w3 ⟨rfl, h3, g3⟩; have HA3 := hid (HA.out.mach h3 g3); have G3 := hid g3; clear h3 g3))
        go_ret
        exact ⟨rfl, HA3.out, Chg.of G3.out fun j e => .inl (.inr (.inl (Option.some.inj e).symm))⟩
end
end Go.Proofs.Ytibiianmpajabaa
