/-
  Contracts of package phys: Left, Owned, Alloc.
-/
import Derived.Test.YtibiianmpajabaaPhysG
import Derived.RangeFuncBox
import Derived.Maps.AppendAt
set_option linter.unusedSimpArgs false
set_option linter.unusedVariables false
namespace Go.Proofs.Ytibiianmpajabaa
open Go.RowKit Go.Shelf
attribute [local go_sem] Oper.semAt_some
set_option maxHeartbeats 1000000

theorem ownFrom_grown {β : Type} {B : Nat} {w₀ : World} {row : Option Nat} (hB : w₀.heap.size ≤ B) : OwnFrom B (fun (_ : β) W => w₀.grownBy W row) :=
  fun _ X Y r hs hg hr => hs.andThen hg (fun j e => .inl (by have := (hr j e).1; omega))
theorem Kp3.set {b B1 B2 : Nat} (W : World) (B0 o : Nat) (v : Value) (h0 : b ≠ B0) (h1 : B1 ≠ B0) (h2 : B2 ≠ B0) : Kp3 b B1 B2 W (W.setCell ⟨B0, o, none⟩ v) :=
  ⟨heap_setCell_other W _ _ v h0, heap_setCell_other W _ _ v h1, heap_setCell_other W _ _ v h2⟩
theorem Kp3.put {b B1 B2 : Nat} {w : World} (h0 : b < w.heap.size) (h1 : B1 < w.heap.size) (h2 : B2 < w.heap.size) (W : World) (l : Nat) (o o' : Obj) (hl : w.heap.size ≤ l) (_ : W.heap[l]? = some o) (_ : o.isCells = false) (_ : o.isWalk = false) : Kp3 b B1 B2 W (W.putObj l o') :=
  ⟨World.putObj_heap_other (by omega), World.putObj_heap_other (by omega), World.putObj_heap_other (by omega)⟩

/-- a machine's pointer p over which the iterator goes, as over M -/
def Stops (p : Option Addr) (M : Mach) (w : World) : Prop := ∀ (n B1 B2 : Nat) (o : Int) (w1 : World), 3 ≤ n → w.heap.size ≤ B1 → w.grownBy w1 none →
  w1.heap[B1]? = some (.cells #[.pointer p] 23 (0, 0)) → w1.heap[B2]? = some (.cells #[.int .i64 o] 3 (0, 0)) →
  ∃ b, (b < w.heap.size ∨ b = B1) ∧ SeqStopsK Fence.wide n Try.prog 122 #[.pointer (some ⟨B1, 0, none⟩), .pointer (some ⟨B2, 0, none⟩)] (fun x : OwnFr M o => #[.int .i64 x.1]) (Kp3 b B1 B2)
      (fun xs => ownVals xs = M.ownedL o) (fun pre => ownVals pre <+: M.ownedL o) (M.ownedL o).length w1
theorem PM.stops {w : World} {b : Nat} {M : Mach} (hM : PM w b M) (hn1 : 1 ≤ M.n) (hn2 : M.n ≤ 256) : Stops (some ⟨b, 0, none⟩) M w :=
  fun n B1 B2 o w1 hn _ hg h1 h2 => ⟨b, .inl hM.lt, owned_stops n hn b B1 B2 M o w1 (hM.grown hg (by simp)) hn1 hn2 h1 h2⟩
theorem ownedL_len (M : Mach) (o : Int) (h2 : M.n ≤ 256) : (M.ownedL o).length ≤ 256 := by
  have := List.length_filter_le (fun k => (M.fr k).owner == o) (List.range M.n.toNat)
  simp only [List.length_range] at this
  unfold Mach.ownedL
  omega

set_option maxRecDepth 100000 in
theorem Left_any (p : Option Addr) (M : Mach) (w : World) (hst : Stops p M w) (hn2 : M.n ≤ 256) :
    Calls Try.prog 59 #[.pointer p] w fun e w' => e = .returned (.int .i64 M.leftN) ∧ w.grownBy w' none := by
  refine (callsIn_wide (n := 9)).1 ?_
  refine callsIn_of_wp_marks Try.func59 rfl trivial ?_ rfl
  simp only [Try.ntmps59, List.size_toArray, List.length_cons, List.length_nil, Nat.reduceAdd, Nat.reduceSub, Array.replicate_succ, Array.replicate_zero, List.push_toArray, List.append_toArray, List.nil_append, List.cons_append]
  gi_wp2_with (refine ⟨trivial, ?_⟩; gi_at_call 64; refine (callsIn_wide.2 (owned_any _ _ _)).mono ?_; rintro e w' ⟨rfl, rfl⟩)
  obtain ⟨W0, hW0⟩ : ∃ W0, ((w.alloc (.cells #[.int .i64 0] 3)).alloc (.cells #[.pointer p] 23)).alloc (.cells #[.int .i64 (-1)] 3) = W0 := ⟨_, rfl⟩
  have hs0 : W0.heap.size = w.heap.size + 3 := by rw [← hW0]; simp
  have b0 : Boxed W0 w.heap.size 3 (.int .i64 0) := by rw [← hW0]; exact ((Boxed.new w _ _).alloc _).alloc _
  have b1 : Boxed W0 (w.heap.size + 1) 23 (.pointer p) := by
    rw [← hW0]
    have := Boxed.new (w.alloc (.cells #[.int .i64 0] 3)) 23 (.pointer p)
    rw [World.size_alloc] at this
    exact this.alloc _
  have b2 : Boxed W0 (w.heap.size + 1 + 1) 3 (.int .i64 (-1)) := by
    rw [← hW0]
    have := Boxed.new ((w.alloc (.cells #[.int .i64 0] 3)).alloc (.cells #[.pointer p] 23)) 3 (.int .i64 (-1))
    rw [World.size_alloc, World.size_alloc] at this
    exact this
  have hg0 : w.grownBy W0 none := by rw [← hW0]; exact ((World.grownBy_alloc w _ none).trans (World.grownBy_alloc _ _ none)).trans (World.grownBy_alloc _ _ none)
  try simp only [World.size_alloc]
  rw [hW0]
  obtain ⟨b, hb, hseq⟩ := hst 8 (w.heap.size + 1) (w.heap.size + 1 + 1) (-1) W0 (by omega) (by omega) hg0 b1 b2
  have HL := ownedL_len M (-1) hn2
  have hbs : b < W0.heap.size ∧ b ≠ w.heap.size := by omega
  refine wpIn_rangeFunc_ownF rfl (by omega) (gf := 122) (lb := #[.pointer (some ⟨w.heap.size + 1, 0, none⟩), .pointer (some ⟨w.heap.size + 1 + 1, 0, none⟩)]) rfl trivial (enters_of Try.func122 (by kernel_rfl) rfl)
    hseq Kp3.trans (Kp3.put hbs.1 (by omega) (by omega)) (Below.refl _ _) (fun _ => rfl)
    (fun pre W => Boxed W w.heap.size 3 (.int .i64 pre.length) ∧ w.grownBy W none)
    (fun _ _ _ => False)
    (OwnFrom.and (Own.from (boxed_own w.heap.size 3 (fun pre => .int .i64 (List.length pre))) _) (ownFrom_grown (by omega)))
    (fun _ _ _ _ _ hs _ _ => hs)
    ⟨b0, hg0⟩
    (fun x => { tmps := #[.pointer p, undef, .int .i64 0, .pointer (some ⟨w.heap.size, 0, none⟩), .pointer p, .func (.func 122) #[] #[.pointer (some ⟨w.heap.size + 1, 0, none⟩), .pointer (some ⟨w.heap.size + 1 + 1, 0, none⟩)], .int .i64 x.1, undef, undef, undef], defers := [] }) ?assign ?body ?done ?stop
  case assign =>
    intro l x W K hK
    gi_wp2
    simpa using hK
  case body =>
    rintro l pre x W ⟨hbx, hg⟩ hlen
    have hc := hbx.cell
    have hf := hbx.frozen
    have hle : (pre.length : Int) < 256 := by omega
    have HB := hid hbx; have HG := hid hg
    clear hbx hg
    gi_wp2
    refine ⟨KeepsOthers.setCell _ _ _, Kp3.set _ _ _ _ hbs.2 (by omega) (by omega), ?_, HG.out.andThen (grownBy_setCell _ _ _ _ _) (fun j hj => by cases hj; exact .inl (Nat.le_refl _))⟩
    have := HB.out.set (.int .i64 ((pre.length : Int) + 1))
    simpa using this
  case done =>
    rintro D xs W hD hxs ⟨hbx, hg⟩ hK
    have hc := hbx.cell
    gi_wp2
    refine ⟨by simp, .inl ⟨_, _, rfl, run_takeDeferred hK, ?_⟩⟩
    refine ⟨_, results_tmp rfl _ _ _, ?_, ?_⟩
    · rw [Mach.leftN, ← hxs, ownVals, List.length_map]
      rfl
    · exact hg.andThen (grownBy_putObj' _ _ _) (fun j hj => by cases hj; exact .inl (by omega))
  case stop =>
    rintro D c pre W _ _ h _
    exact h.elim

theorem below_grown {w W : World} (h : w.grownBy W none) : Below w.heap.size w W := ⟨h.os, h.tape, h.output, h.size, fun k hk => h.block k hk (by simp)⟩
theorem grown_below {w W : World} (h : Below w.heap.size w W) : w.grownBy W none := ⟨h.os, h.tape, h.output, h.size, fun k hk _ => h.block k hk⟩
/-- below base, but for block B0, the world is as it was -/
structure SameBut (base B0 : Nat) (W W' : World) : Prop where
  os : W'.os = W.os
  tape : W'.tape = W.tape
  output : W'.output = W.output
  size : W.heap.size ≤ W'.heap.size
  block : ∀ k, k < W.heap.size → k < base → k ≠ B0 → W'.heap[k]? = W.heap[k]?
theorem appended3 {W w1 : World} {base B0 : Nat} {t e : TypeId} {size : Nat} {v v' : Value} {k m : Nat} {xs ys : List Value} {tmp : Obj}
    (hv : Boxed W B0 t v) (hte : t ≠ e) (hrow : W.ownsRow base e size v k xs) (hown' : w1.ownsRow base e size v' m ys) (hgrow : (W.alloc tmp).grownBy w1 v.ownBlock) :
    Boxed w1 B0 t v ∧ Boxed (w1.setCell ⟨B0, 0, none⟩ v') B0 t v' ∧ (w1.setCell ⟨B0, 0, none⟩ v').ownsRow base e size v' m ys ∧ KeepsOthers W (w1.setCell ⟨B0, 0, none⟩ v') ∧ SameBut base B0 W (w1.setCell ⟨B0, 0, none⟩ v') := by
  have hv1 : Boxed w1 B0 t v := (hv.alloc tmp).kept hgrow (hv.not_row hte hrow)
  have hob : ∀ j, some j = v.ownBlock → base ≤ j := by
    intro j ej
    rcases hrow.2 with ⟨rfl, _⟩ | ⟨g, cap, cur, rfl, hb, _, _⟩
    · simp [Value.ownBlock] at ej
    · obtain rfl : j = g := by simpa [Value.ownBlock] using ej
      exact hb
  refine ⟨hv1, hv1.set v', hown'.kept (grownBy_setCell' w1 B0 v') (.inr (hv1.not_row hte hown').symm), ?_, ?_⟩
  · refine ((KeepsOthers.alloc W tmp).trans (KeepsOthers.of_grownBy hgrow fun j o ej hj => ?_)).trans (KeepsOthers.setCell _ _ _)
    rcases (hrow.alloc tmp).2 with ⟨rfl, _⟩ | ⟨g, cap, cur, rfl, _, hgb, _⟩
    · simp [Value.ownBlock] at ej
    · obtain rfl : g = j := by simpa [Value.ownBlock] using ej
      rw [hgb] at hj; cases hj; rfl
  · refine ⟨hgrow.os, hgrow.tape, hgrow.output, ?_, fun q hq hqb hq0 => ?_⟩
    · have := hgrow.size; simp at this ⊢; omega
    · rw [heap_setCell_other _ _ _ _ hq0, hgrow.block q (by simp; omega) (fun e => by have := hob q e; omega)]
      exact Below.heap_alloc W tmp q hq
theorem SameBut.kp3 {base B0 b B1 B2 : Nat} {W W' : World} (h : SameBut base B0 W W') (h0 : b < W.heap.size) (h1 : B1 < W.heap.size) (h2 : B2 < W.heap.size) (g0 : b < base) (g1 : B1 < base) (g2 : B2 < base) (n0 : b ≠ B0) (n1 : B1 ≠ B0) (n2 : B2 ≠ B0) : Kp3 b B1 B2 W W' :=
  ⟨h.block b h0 g0 n0, h.block B1 h1 g1 n1, h.block B2 h2 g2 n2⟩
theorem SameBut.grown {base B0 : Nat} {w W W' : World} (h : SameBut base B0 W W') (hg : w.grownBy W none) (hb : w.heap.size ≤ base) (h0 : w.heap.size ≤ B0) : w.grownBy W' none :=
  ⟨h.os.trans hg.os, h.tape.trans hg.tape, h.output.trans hg.output, Nat.le_trans hg.size h.size, fun k hk _ => (h.block k (Nat.lt_of_lt_of_le hk hg.size) (by omega) (by omega)).trans (hg.block k hk (by simp))⟩
theorem ownsRow_base {W : World} {base base' : Nat} {e : TypeId} {size : Nat} {v : Value} {k : Nat} {xs : List Value} (h : W.ownsRow base e size v k xs) (hb : base' ≤ base) : W.ownsRow base' e size v k xs := by
  refine ⟨h.1, ?_⟩
  rcases h.2 with h2 | ⟨g, cap, cur, hv, hg, r⟩
  · exact .inl h2
  · exact .inr ⟨g, cap, cur, hv, by omega, r⟩
theorem info_int : (Try.prog.info? 3).map (fun i => (i.zero, i.size, i.bytes)) = some (some (.int .i64 0), 1, 8) := by kernel_rfl
/-- numbers as cells -/
def icells (l : List Nat) : List Value := l.map fun (k : Nat) => .int .i64 k
theorem icells_snoc (l : List Nat) (k : Nat) : icells (l ++ [k]) = icells l ++ [.int .i64 k] := by simp [icells]
theorem icells_len (l : List Nat) : (icells l).length = l.length := by simp [icells]
/-- a slice of numbers in a row of its own; nil just where there is none -/
def NewInts (w : World) (l : List Nat) (v : Value) (w' : World) : Prop := w'.ownsRow w.heap.size 3 1 v l.length (icells l) ∧ (v = .slice none 0 0 ↔ l = []) ∧ w.grownBy w' none
set_option maxRecDepth 100000 in
theorem Owned_any (p : Option Addr) (M : Mach) (o : Int) (w : World) (hst : Stops p M w) (hn2 : M.n ≤ 256) :
    Calls Try.prog 77 #[.pointer p, .int .i64 o] w fun e w' => ∃ v, e = .returned v ∧ NewInts w (M.ownedL o) v w' := by
  refine (callsIn_wide (n := 9)).1 ?_
  refine callsIn_of_wp_marks Try.func77 rfl trivial ?_ rfl
  simp only [Try.ntmps77, List.size_toArray, List.length_cons, List.length_nil, Nat.reduceAdd, Nat.reduceSub, Array.replicate_succ, Array.replicate_zero, List.push_toArray, List.append_toArray, List.nil_append, List.cons_append]
  gi_wp2_with (refine ⟨trivial, ?_⟩; gi_at_call 64; refine (callsIn_wide.2 (owned_any _ _ _)).mono ?_; rintro e w' ⟨rfl, rfl⟩)
  obtain ⟨W0, hW0⟩ : ∃ W0, ((w.alloc (.cells #[.slice none 0 0] 154)).alloc (.cells #[.pointer p] 23)).alloc (.cells #[.int .i64 o] 3) = W0 := ⟨_, rfl⟩
  have hs0 : W0.heap.size = w.heap.size + 3 := by rw [← hW0]; simp
  have b0 : Boxed W0 w.heap.size 154 (.slice none 0 0) := by rw [← hW0]; exact ((Boxed.new w _ _).alloc _).alloc _
  have b1 : Boxed W0 (w.heap.size + 1) 23 (.pointer p) := by
    rw [← hW0]
    have := Boxed.new (w.alloc (.cells #[.slice none 0 0] 154)) 23 (.pointer p)
    rw [World.size_alloc] at this
    exact this.alloc _
  have b2 : Boxed W0 (w.heap.size + 1 + 1) 3 (.int .i64 o) := by
    rw [← hW0]
    have := Boxed.new ((w.alloc (.cells #[.slice none 0 0] 154)).alloc (.cells #[.pointer p] 23)) 3 (.int .i64 o)
    rw [World.size_alloc, World.size_alloc] at this
    exact this
  have hg0 : w.grownBy W0 none := by rw [← hW0]; exact ((World.grownBy_alloc w _ none).trans (World.grownBy_alloc _ _ none)).trans (World.grownBy_alloc _ _ none)
  rw [hW0]
  obtain ⟨b, hb, hseq⟩ := hst 8 (w.heap.size + 1) (w.heap.size + 1 + 1) o W0 (by omega) (by omega) hg0 b1 b2
  have HL := ownedL_len M o hn2
  have hbs : b < W0.heap.size ∧ b ≠ w.heap.size := by omega
  obtain ⟨i0, hi, hz0, hz1, hz2⟩ := info_parts info_int
  refine wpIn_rangeFunc_ownF rfl (by omega) (gf := 122) (lb := #[.pointer (some ⟨w.heap.size + 1, 0, none⟩), .pointer (some ⟨w.heap.size + 1 + 1, 0, none⟩)]) rfl trivial (enters_of Try.func122 (by kernel_rfl) rfl)
    hseq Kp3.trans (Kp3.put hbs.1 (by omega) (by omega)) (Below.refl _ _) (fun _ => rfl)
    (fun pre W => (∃ v, Boxed W w.heap.size 154 v ∧ W.ownsRow (w.heap.size + 3) 3 1 v pre.length (icells (ownVals pre)) ∧ (v = .slice none 0 0 ↔ ownVals pre = [])) ∧ w.grownBy W none ∧ w.heap.size + 3 ≤ W.heap.size)
    (fun _ _ _ => False)
    (OwnFrom.and (Own.from (holdsRow_own (w.heap.size + 3) w.heap.size 154 3 1 (fun pre => List.length pre) (fun pre => icells (ownVals pre)) (fun pre v => v = .slice none 0 0 ↔ ownVals pre = [])) _) (OwnFrom.and (ownFrom_grown (by omega)) (fun _ _ _ _ hs hg _ => Nat.le_trans hs hg.size)))
    (fun _ _ _ _ _ hs _ _ => hs)
    ⟨⟨_, b0, World.ownsRow_nil _ _ _ _, by simp [ownVals]⟩, hg0, by omega⟩
    (fun x => { tmps := #[.pointer p, .int .i64 o, undef, undef, .slice none 0 0, .pointer (some ⟨w.heap.size, 0, none⟩), .int .i64 x.1, .pointer p, .int .i64 o, .func (.func 122) #[] #[.pointer (some ⟨w.heap.size + 1, 0, none⟩), .pointer (some ⟨w.heap.size + 1 + 1, 0, none⟩)], .int .i64 x.1, undef, undef, undef, undef, undef], defers := [] }) ?assign ?body ?done ?stop
  case assign =>
    intro l x W K hK
    gi_wp2
    exact hK
  case body =>
    rintro l pre x W ⟨⟨v, hv, hrow, hnil⟩, hg, hsW⟩ hlen
    have hc := hv.cell
    have hle : pre.length < 256 := by omega
    have HV := hid hv; have HR := hid hrow; have HN := hid hnil; have HG := hid hg; have Hi := hid hi; have Hz0 := hid hz0; have Hz1 := hid hz1; have Hz2 := hid hz2
    have Hsz : w.heap.size + 3 ≤ W.heap.size := hsW
    clear hv hrow hnil hg hi hz0 hz1 hz2 hsW
    gi_wp2_with (gi_at_builtin; refine wpListIn_append_own _ rfl _ _ 154 rfl (w.heap.size + 3) 3 i0 (.int .i64 0) 1 8 Try.underlying154 Hi.out Hz0.out Hz1.out Hz2.out rfl (by decide) _ _ _ rfl (HR.out.alloc _) ⟨W.heap.size, 0, none⟩ 1 1 [.int .i64 x.1] rfl rfl (cell_one_new _ _ _) (by simp [Value.oneCell']) (by unfold maxLen; omega) (by omega) (by simp; omega) ?_; intro v' w1 hown' hgrow _; obtain ⟨g', cap', rfl⟩ := ownsRow_succ hown'; obtain ⟨hv1, hv2, hr2, hk2, hs2⟩ := appended3 HV.out (by decide) HR.out hown' hgrow; have hc1 := hv1.cell; have hf1 := hv1.frozen; have HV2 := hid hv2; have HR2 := hid hr2; have HK2 := hid hk2; have HS2 := hid hs2; clear hv1 hv2 hr2 hk2 hs2 hown' hgrow)
    refine ⟨HK2.out, HS2.out.kp3 (by omega) (by omega) (by omega) (by omega) (by omega) (by omega) hbs.2 (by omega) (by omega), ⟨_, HV2.out, ?_, by simp [ownVals]⟩, HS2.out.grown HG.out (by omega) (Nat.le_refl _), Nat.le_trans Hsz HS2.out.size⟩
    have h := HR2.out
    rw [show icells (ownVals pre) ++ [Value.int .i64 (x.1 : Nat)] = icells (ownVals (pre ++ [x])) by simp [ownVals, icells]] at h
    simpa using h
  case done =>
    rintro D xs W hD hxs ⟨⟨v, hv, hrow, hnil⟩, hg, hsW⟩ hK
    have hc := hv.cell
    have HR := hid hrow; have HN := hid hnil
    clear hrow hnil
    gi_wp2
    refine ⟨by simp, .inl ⟨_, _, rfl, run_takeDeferred hK, ?_⟩⟩
    refine ⟨_, results_tmp rfl _ _ _, v, rfl, ?_, by rw [← hxs]; exact HN.out, hg.andThen (grownBy_putObj' _ _ _) (fun j hj => by cases hj; exact .inl (by omega))⟩
    have h := ownsRow_putObj (ownsRow_base HR.out (base' := w.heap.size) (by omega)) (.deferred none) hK rfl
    rw [← hxs, show (ownVals xs).length = xs.length by simp [ownVals]]
    exact h
  case stop =>
    rintro D c pre W _ _ h _
    exact h.elim

end Go.Proofs.Ytibiianmpajabaa
