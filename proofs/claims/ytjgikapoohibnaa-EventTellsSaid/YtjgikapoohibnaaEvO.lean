/-
  Package tenementlaw07: scripts of calls that came in; both sides in memory behind w. No walk here.
-/
import Derived.Test.YtjgikapoohibnaaEvT
import Derived.Test.YtjgikapoohibnaaEvQ
import Derived.Test.YtjgikapoohibnaaOpen
import Derived.Laws.StructEq
set_option linter.unusedSimpArgs false
set_option linter.unusedVariables false
namespace Go.Proofs.Ytjgikapoohibnaa
open Go.RowKit Gen Go.ChangeShapes Go.WideShapes Go.ChangeAt Go.Deep
set_option maxHeartbeats 1000000

section
variable {H : Type} {enc : TypeId × Value → H} {w : World}
theorem eexists_list {S : Type} (P : Nat → S → Prop) : ∀ n, (∀ i, i < n → ∃ s, P i s) → ∃ ss : List S, ss.length = n ∧ ∀ j (h : j < ss.length), P j ss[j]
  | 0, _ => ⟨[], rfl, fun j h => by simp at h⟩
  | n + 1, h => by
    obtain ⟨ss, hl, hs⟩ := eexists_list P n fun i hi => h i (by omega)
    obtain ⟨s, hs'⟩ := h n (by omega)
    refine ⟨ss ++ [s], by simp [hl], fun j hj => ?_⟩
    simp only [List.length_append, List.length_cons, List.length_nil] at hj
    by_cases hjn : j < ss.length
    · rw [List.getElem_append_left hjn]; exact hs j hjn
    · obtain rfl : j = ss.length := by omega
      rw [List.getElem_append_right (by omega)]
      simpa [hl] using hs'
/-- a call as it lies in memory -/
def EOp.At (w : World) (p : Option Addr) (j : Nat) (o : EOp) : Prop := ∃ b off, p = some ⟨b, off, none⟩ ∧ b < w.heap.size ∧
  w.cell? ⟨b, off + j * 5, none⟩ = some (.int .i64 o.x) ∧ w.cell? ⟨b, off + j * 5 + 1, none⟩ = some (.int .i64 o.a) ∧ w.cell? ⟨b, off + j * 5 + 2, none⟩ = some (.int .i64 o.b) ∧ w.cell? ⟨b, off + j * 5 + 3, none⟩ = some (.int .i64 o.c) ∧ w.cell? ⟨b, off + j * 5 + 4, none⟩ = some (.bool o.on)
def EOpsIn (w : World) (p : Option Addr) (os : List EOp) : Prop := ∀ j (hj : j < os.length), os[j].At w p j
theorem eop_flat : Flat.isFlat Try.prog 29 [3, 3, 3, 3, 4] = true := by kernel_rfl
theorem open_eops {v : Value} (h : Flat.Came enc Try.prog w 0 (fun _ => true) true 22 v) : ∃ p os cap, v = .slice p (List.length (α := EOp) os) cap ∧ os.length ≤ 140737488355328 ∧ EOpsIn w p os := by
  obtain ⟨p, len, cap, rfl, hr, hl, hs⟩ := Flat.open_flats Try.underlying22 eop_flat (by simp) h
  have hb : Try.prog.bytesOf 29 = 40 := by kernel_rfl
  rw [hb] at hr
  unfold reachBytes at hr
  obtain ⟨ss, hss, hp⟩ := eexists_list (fun (j : Nat) (s : EOp) => s.At w p j) len (fun i hi => by
    obtain ⟨b, off, rfl, hb, hc⟩ := hs i hi
    obtain ⟨v0, c0, k0⟩ := hc 0 _ rfl
    obtain ⟨v1, c1, k1⟩ := hc 1 _ rfl
    obtain ⟨v2, c2, k2⟩ := hc 2 _ rfl
    obtain ⟨v3, c3, k3⟩ := hc 3 _ rfl
    obtain ⟨v4, c4, k4⟩ := hc 4 _ rfl
    obtain ⟨x, rfl, _⟩ := k0.int Try.underlying3
    obtain ⟨a, rfl, _⟩ := k1.int Try.underlying3
    obtain ⟨b', rfl, _⟩ := k2.int Try.underlying3
    obtain ⟨c, rfl, _⟩ := k3.int Try.underlying3
    obtain ⟨on, rfl⟩ := k4.bool Try.underlying4
    exact ⟨⟨x, a, b', c, on⟩, b, off, rfl, hb, c0, c1, c2, c3, c4⟩)
  subst hss
  exact ⟨p, ss, cap, rfl, by omega, hp⟩
end
/-- both sides in memory, laid behind w -/
structure EB (w W : World) (X Y : Nat) (S : Ev) (L : ELay) : Prop where
  x : EvAt W X S
  y : RE W Y S L
  ok : EOk S
  farX : w.heap.size ≤ X
  farY : ∀ k, L.foot Y k → w.heap.size ≤ k
  g : w.grownBy W none
/-- between the two calls -/
structure EM (w W : World) (X Y : Nat) (S S' : Ev) (L : ELay) : Prop where
  x : EvAt W X S'
  y : RE W Y S L
  ok : EOk S
  farX : w.heap.size ≤ X
  farY : ∀ k, L.foot Y k → w.heap.size ≤ k
  g : w.grownBy W none
section
variable {w W W' : World} {X Y : Nat} {S S' : Ev} {L : ELay}
theorem EB.more (h : EB w W X Y S L) (hg : W.grownBy W' none) : EB w W' X Y S L := ⟨h.x.grow0 hg, h.y.grow0 hg, h.ok, h.farX, h.farY, h.g.trans hg⟩
theorem EB.one (h : EB w W X Y S L) (h1 : ELeft X W S' W') : EM w W' X Y S S' L :=
  ⟨h1.1, h.y.keep h.x h1.2, h.ok, h.farX, h.farY, h.g.andThen h1.2 fun j e => .inl (by cases e; exact h.farX)⟩
theorem EM.more (h : EM w W X Y S S' L) (hg : W.grownBy W' none) : EM w W' X Y S S' L := ⟨h.x.grow0 hg, h.y.grow0 hg, h.ok, h.farX, h.farY, h.g.trans hg⟩
theorem EM.two (h : EM w W X Y S S' L) (h2 : RLeft Y L W S' W') (hk : EOk S') : EB w W' X Y S' L :=
  ⟨h.x.chg h2.2 (h.y.off h.x), h2.1, hk, h.farX, h.farY, h2.2.grown h.g h.farY⟩
theorem EB.move (h : EB w W X Y S L) {w0 : World} (hg : w0.grownBy w none) : EB w0 W X Y S L := ⟨h.x, h.y, h.ok, Nat.le_trans hg.size h.farX, fun k hk => Nat.le_trans hg.size (h.farY k hk), hg.trans h.g⟩
end
def efoot (X Y : Nat) (L : ELay) (k : Nat) : Prop := k = X ∨ L.foot Y k
/-- both sides in memory; since w only their blocks have changed -/
structure EC (w W : World) (X Y : Nat) (S : Ev) (L : ELay) : Prop where
  x : EvAt W X S
  y : RE W Y S L
  ok : EOk S
  c : Chg (efoot X Y L) w W
structure ECM (w W : World) (X Y : Nat) (S S' : Ev) (L : ELay) : Prop where
  x : EvAt W X S'
  y : RE W Y S L
  ok : EOk S
  c : Chg (efoot X Y L) w W
section
variable {w W W' : World} {X Y : Nat} {S S' : Ev} {L : ELay}
theorem EC.more (h : EC w W X Y S L) (hg : W.grownBy W' none) : EC w W' X Y S L := ⟨h.x.grow0 hg, h.y.grow0 hg, h.ok, h.c.trans (Chg.of0 hg) fun _ e => .inl e⟩
theorem EC.one (h : EC w W X Y S L) (h1 : ELeft X W S' W') : ECM w W' X Y S S' L :=
  ⟨h1.1, h.y.keep h.x h1.2, h.ok, h.c.trans (Chg.one (S := efoot X Y L) h1.2 (.inl rfl)) fun _ e => .inl e⟩
theorem ECM.two (h : ECM w W X Y S S' L) (h2 : RLeft Y L W S' W') (hk : EOk S') : EC w W' X Y S' L :=
  ⟨h.x.chg h2.2 (h.y.off h.x), h2.1, hk, h.c.trans h2.2 fun _ e => .inl (.inr e)⟩
theorem EB.toC (h : EB w W X Y S L) : EC W W X Y S L := ⟨h.x, h.y, h.ok, Chg.refl _ _⟩
theorem EB.ofC (h : EB w W X Y S L) (hc : EC W W' X Y S' L) : EB w W' X Y S' L :=
  ⟨hc.x, hc.y, hc.ok, h.farX, h.farY, hc.c.grown h.g fun k e => e.elim (fun e => e ▸ h.farX) (h.farY k)⟩
end
def Prt.vals (q : Prt) : Array Value := #[.int .i64 q.k, .int .i64 q.r, .int .i64 q.p, .int .i64 q.v, .bool q.pe, .bool q.ma]
set_option maxRecDepth 100000 in
theorem port_neq (q : Prt) (w : World) : (binOp .neq 35 q.val q.val).run Try.prog w = .ok (.bool false) w := by
  unfold Prt.val
  rw [run_neq_struct, run_equalIn_agg (d := 9999) _ _ _ _ (by kernel_rfl) (by kernel_rfl)]
  simp only [Program.fieldsOf, Try.underlying35]
  simp [go_sem, Op.eqFields, part, run_equalIn_int _ 9998 3 .i64 .i64 _ _ Try.underlying3, run_equalIn_bool' _ 9998 4 _ _ Try.underlying4]
set_option maxRecDepth 100000 in
theorem port_eql (q : Prt) (w : World) : (binOp .eql 35 q.val q.val).run Try.prog w = .ok (.bool true) w := by
  unfold Prt.val
  rw [run_eql_struct, run_equalIn_agg (d := 9999) _ _ _ _ (by kernel_rfl) (by kernel_rfl)]
  simp only [Program.fieldsOf, Try.underlying35]
  simp [go_sem, Op.eqFields, part, run_equalIn_int _ 9998 3 .i64 .i64 _ _ Try.underlying3, run_equalIn_bool' _ 9998 4 _ _ Try.underlying4]
end Go.Proofs.Ytjgikapoohibnaa
