/-
  Package grant: its calls on grants, and with views, that nobody made.
-/
import Derived.Test.YtbbaplcfhofeeaaK21
import Derived.Test.YtbbaplcfhofeeaaK03
import Derived.Handy
import Derived.Test.YtbbaplcfhofeeaaK18
import Derived.Test.YtbbaplcfhofeeaaK05
import Derived.Carry
import Derived.Deep.Cut
import Derived.Deep.AppendLies
import Derived.Test.YtbbaplcfhofeeaaK08
import Derived.Test.YtbbaplcfhofeeaaK19
import Derived.StillTailTactics
import Derived.Laws.BitsAllLaws
import Derived.ProofKit
import Derived.Laws.IdiomStrings
import Derived.Deep.QuietTactic
import Derived.BigQuiet
import Derived.Deep.RegionWith
set_option linter.unusedSimpArgs false
set_option linter.unusedVariables false
namespace Go.Proofs.Ytbbaplcfhofeeaa
open Go.RowKit
set_option maxHeartbeats 1000000

/-- nobody made the grants that p points to -/
def NoGr (w : World) (p : Option Addr) : Prop := p = none ∨ ∃ b, p = some ⟨b, 0, none⟩ ∧ w.cell? ⟨b, 0, none⟩ = some (.pointer none)
theorem NoGr.nil (w : World) : NoGr w none := .inl rfl
theorem NoGr.grown {w w' : World} {p : Option Addr} (h : NoGr w p) (hg : w.grownBy w' none) : NoGr w' p := by
  rcases h with h | ⟨b, h, hc⟩
  · exact .inl h
  · exact .inr ⟨b, h, hg.cell hc (by simp)⟩
theorem gMade_no (p : Option Addr) (w : World) (h : NoGr w p) : Calls Try.prog 35 #[.pointer p] w fun e w' => e = .returned (.bool false) ∧ w = w' := by
  rcases h with rfl | ⟨b, rfl, hc⟩
  · go_enter Try.func35, Try.ntmps35
    go_wp2
    go_ret
    exact ⟨rfl, rfl⟩
  · go_enter Try.func35, Try.ntmps35
    go_wp2
    go_ret
    exact ⟨rfl, rfl⟩
theorem gMade_yes (X B : Nat) (w : World) (h : w.cell? ⟨X, 0, none⟩ = some (.pointer (some ⟨B, 0, none⟩))) : Calls Try.prog 35 #[.pointer (some ⟨X, 0, none⟩)] w fun e w' => e = .returned (.bool true) ∧ w = w' := by
  go_enter Try.func35, Try.ntmps35
  go_wp2
  go_ret
  exact ⟨rfl, rfl⟩
/-- nobody made the view that p points to: it has no machine -/
def NoVw (w : World) (p : Option Addr) : Prop := p = none ∨ ∃ b, p = some ⟨b, 0, none⟩ ∧ w.cell? ⟨b, 0, none⟩ = some (.pointer none)
theorem NoVw.grown {w w' : World} {p : Option Addr} (h : NoVw w p) (hg : w.grownBy w' none) : NoVw w' p := by
  rcases h with h | ⟨b, h, hc⟩
  · exact .inl h
  · exact .inr ⟨b, h, hg.cell hc (by simp)⟩
/-- New of no machine -/
theorem gNew_nil (w : World) : Calls Try.prog 13 #[.pointer none] w fun e w' => e = .returned (.pointer none) ∧ w = w' := by
  go_enter Try.func13, Try.ntmps13
  go_wp2_with (go_at_call 24; refine (Size_nil _).mono ?_; rintro e w' ⟨rfl, rfl⟩)
  go_ret
  exact ⟨rfl, rfl⟩
theorem gNew_zero (b : Nat) (w : World) (h : w.cell? ⟨b, 0, none⟩ = some (.int .i64 0)) : Calls Try.prog 13 #[.pointer (some ⟨b, 0, none⟩)] w fun e w' => e = .returned (.pointer none) ∧ w = w' := by
  have H := hid (Size_zero b w h)
  clear h
  go_enter Try.func13, Try.ntmps13
  go_wp2_with (go_at_call 24; refine H.out.mono ?_; rintro e w' ⟨rfl, rfl⟩)
  go_ret
  exact ⟨rfl, rfl⟩
section
variable (p : Option Addr) (w : World) (h : NoGr w p)
include h
theorem gzJoin (a b : Int) (v : Value) : Calls Try.prog 31 #[.pointer p, .int .i64 a, .int .i64 b, v] w fun e w' => e = .returned (.int .i64 7) ∧ w = w' := by
  have H := hid (gMade_no p w h)
  clear h
  go_enter Try.func31, Try.ntmps31
  go_wp2_with (go_at_call 35; refine H.out.mono ?_; rintro e w' ⟨rfl, rfl⟩)
  go_ret
  exact ⟨rfl, rfl⟩
theorem gzLeave (a : Int) : Calls Try.prog 27 #[.pointer p, .int .i64 a] w fun e w' => e = .returned (.int .i64 7) ∧ w = w' := by
  have H := hid (gMade_no p w h)
  clear h
  go_enter Try.func27, Try.ntmps27
  go_wp2_with (go_at_call 35; refine H.out.mono ?_; rintro e w' ⟨rfl, rfl⟩)
  go_ret
  exact ⟨rfl, rfl⟩
end
/-- grants or view that nobody made -/
def NoGV (w : World) (p q : Option Addr) : Prop := NoGr w p ∨ ((∃ X B, p = some ⟨X, 0, none⟩ ∧ w.cell? ⟨X, 0, none⟩ = some (.pointer (some ⟨B, 0, none⟩))) ∧ NoVw w q)
theorem NoGV.grown {w w' : World} {p q : Option Addr} (h : NoGV w p q) (hg : w.grownBy w' none) : NoGV w' p q := by
  rcases h with h | ⟨⟨X, B, h, hc⟩, hv⟩
  · exact .inl (h.grown hg)
  · exact .inr ⟨⟨X, B, h, hg.cell hc (by simp)⟩, hv.grown hg⟩
theorem NoGV.noG {w : World} {p q : Option Addr} (h : NoGr w p) : NoGV w p q := .inl h
theorem NoGV.noV {w : World} {X B : Nat} {q : Option Addr} (h : w.cell? ⟨X, 0, none⟩ = some (.pointer (some ⟨B, 0, none⟩))) (hv : NoVw w q) : NoGV w (some ⟨X, 0, none⟩) q := .inr ⟨⟨X, B, rfl, h⟩, hv⟩
theorem NoVw.nil (w : World) : NoVw w none := .inl rfl
/-- an end of a copy by value -/
def endV (g : Bool) (d r p o : Int) : Value := .agg #[.bool g, .int .i64 d, .int .i64 r, .int .i64 p, .int .i64 o]
end Go.Proofs.Ytbbaplcfhofeeaa

/-
  Package grant: New and the small functions.
-/
set_option linter.unusedSimpArgs false
set_option linter.unusedVariables false
namespace Go.Proofs.Ytbbaplcfhofeeaa
open Go.RowKit KM
set_option maxHeartbeats 2000000

theorem gNew_yes (B : Nat) (w : World) (M : Mach) (hM : PM w B M) (hn : 1 ≤ M.n) : Calls Try.prog 13 #[.pointer (some ⟨B, 0, none⟩)] w fun e w' =>
    e = .returned (.pointer (some ⟨w.heap.size + 1, 0, none⟩)) ∧ Row w' (w.heap.size + 1) 82 18 (gtop B w.heap.size (fun _ => 0) gst0) ∧ GMap w' w.heap.size 0 gst0 ∧ w.grownBy w' none := by
  have H := hid (Size_yes B M.n w hn hM.size)
  have hb : (M.n == 0) = false := by simp; omega
  have hmm := @run_makeMap Try.prog
  clear hM
  go_enter Try.func13, Try.ntmps13
  go_wp2_with (go_at_call 24; refine H.out.mono ?_; rintro e w' ⟨rfl, rfl⟩)
  go_ret
  refine ⟨by simp, ?_, (KMap.made w _ _ _ _).alloc _, (World.grownBy_alloc w _ none).trans (World.grownBy_alloc _ _ none)⟩
  have hs : (w.alloc (.map #[] 0)).heap.size = w.heap.size + 1 := by simp
  rw [← hs]
  exact Gen.Row.new (w.alloc (.map #[] 0)) _ 82 18 _ (by simp) fun k hk => by
    have : k = 0 ∨ k = 1 ∨ k = 2 ∨ k = 3 ∨ k = 4 ∨ k = 5 ∨ k = 6 ∨ k = 7 ∨ k = 8 ∨ k = 9 ∨ k = 10 ∨ k = 11 ∨ k = 12 ∨ k = 13 ∨ k = 14 ∨ k = 15 ∨ k = 16 ∨ k = 17 := by omega
    rcases this with rfl | rfl | rfl | rfl | rfl | rfl | rfl | rfl | rfl | rfl | rfl | rfl | rfl | rfl | rfl | rfl | rfl | rfl <;> rfl
theorem gIsDom_yes (d : Int) (w : World) (h : gdom d = true) : Calls Try.prog 36 #[.int .i64 d] w fun e w' => e = .returned (.bool true) ∧ w = w' := by
  obtain ⟨h0, h1⟩ := gdom_yes.1 h
  clear h
  go_enter Try.func36, Try.ntmps36
  go_wp2
  go_ret
  exact ⟨rfl, rfl⟩
theorem gIsDom_no (d : Int) (w : World) (h : gdom d = false) : Calls Try.prog 36 #[.int .i64 d] w fun e w' => e = .returned (.bool false) ∧ w = w' := by
  rcases gdom_no.1 h with h0 | h0
  · clear h
    go_enter Try.func36, Try.ntmps36
    go_wp2
    go_ret
    exact ⟨rfl, rfl⟩
  · have h1 : 0 ≤ d := by omega
    have hb : decide (d < 8) = false := by simp; omega
    clear h
    go_enter Try.func36, Try.ntmps36
    go_wp2
    go_ret
    exact ⟨rfl, rfl⟩
theorem gIsDom (d : Int) (w : World) : Calls Try.prog 36 #[.int .i64 d] w fun e w' => e = .returned (.bool (gdom d)) ∧ w = w' := by
  cases h : gdom d
  · exact gIsDom_no d w h
  · exact gIsDom_yes d w h
theorem gIsMap (b f p : Nat) (M : Mp) (T : Nat) (w : World) (h : PMap w b f p M T) : Calls Try.prog 45 #[.pointer (some ⟨b, 0, none⟩)] w fun e w' => e = .returned (.bool true) ∧ w = w' := by
  have H := hid (pFind_yes b f p M T 0 (I64.of (by omega) (by omega)) w h)
  clear h
  obtain ⟨x, hx⟩ : ∃ x, (M.findE 0).1 = x := ⟨_, rfl⟩
  obtain ⟨y, hy⟩ : ∃ y, (M.findE 0).2 = y := ⟨_, rfl⟩
  have hb : (y != 7) = true := by
    rw [← hy]; unfold Mp.findE; cases M.pl 0 <;> rfl
  rw [hx, hy] at H
  clear hx hy
  go_enter Try.func45, Try.ntmps45
  go_wp2_with (go_at_call 57; refine H.out.mono ?_; rintro e w' ⟨rfl, rfl⟩)
  go_ret
  exact ⟨rfl, rfl⟩
section
variable {w : World} {X B G : Nat} {pm : Nat → Nat × Nat × Nat} {np : Nat} {s : Gs} {T : Nat}
theorem gJoined (h : GA w X B G pm np s T) (d : Int) : Calls Try.prog 37 #[.pointer (some ⟨X, 0, none⟩), .int .i64 d] w fun e w' => e = .returned (.bool (s.g.joined d)) ∧ w = w' := by
  cases hd : gdom d with
  | false =>
    have hj : s.g.joined d = false := by simp [Gst.joined, hd]
    rw [hj]
    clear hj
    have H := hid (gIsDom_no d w hd)
    clear hd h
    go_enter Try.func37, Try.ntmps37
    go_wp2_with (go_at_call 36; refine H.out.mono ?_; rintro e w' ⟨rfl, rfl⟩)
    go_ret
    exact ⟨rfl, rfl⟩
  | true =>
    have H := hid (gIsDom_yes d w hd)
    obtain ⟨h0, h1⟩ := gdom_yes.1 hd
    obtain ⟨k, rfl⟩ : ∃ k : Nat, d = k := ⟨d.toNat, by omega⟩
    have hk : k < 8 := by omega
    have hc := h.plc hk
    have hj : s.g.joined k = (s.g.mem k).isSome := by simp [Gst.joined, hd]
    rw [hj]
    clear hj hd h
    cases hm : s.g.mem k with
    | none =>
      rw [hm] at hc
      have hc' : w.cell? ⟨X, 1 + k * 2 + 1, none⟩ = some (.pointer none) := hc
      clear hc hm
      go_enter Try.func37, Try.ntmps37
      go_wp2_with (go_at_call 36; refine H.out.mono ?_; rintro e w' ⟨rfl, rfl⟩)
      go_ret
      exact ⟨rfl, rfl⟩
    | some x =>
      obtain ⟨t, i⟩ := x
      rw [hm] at hc
      have hc' : w.cell? ⟨X, 1 + k * 2 + 1, none⟩ = some (.pointer (some ⟨(pm i).1, 0, none⟩)) := hc
      clear hc hm
      go_enter Try.func37, Try.ntmps37
      go_wp2_with (go_at_call 36; refine H.out.mono ?_; rintro e w' ⟨rfl, rfl⟩)
      go_ret
      exact ⟨rfl, rfl⟩
end
end Go.Proofs.Ytbbaplcfhofeeaa

/-
  Package view: contract of Rest (a range over a map in any order).
-/
set_option linter.unusedSimpArgs false
set_option linter.unusedVariables false
namespace Go.Proofs.Ytbbaplcfhofeeaa
open Go.RowKit
set_option maxHeartbeats 1000000

/-- how many rewrites are not done yet -/
def restN (l : List PokeV) (n : Nat) : Nat := (l.filter fun p => decide ((n : Int) ≤ p.t)).length
def cntL (l : List PokeV) (n : Nat) (left : Int → Bool) : Nat := (l.filter fun p => decide ((n : Int) ≤ p.t) && !left p.t).length
theorem cnt_step {l : List PokeV} {n : Nat} {left : Int → Bool} {x : Int} (hx : left x = true) (hn : (n : Int) ≤ x) : cntL l n (fun g => left g && decide (g ≠ x)) = cntL l n left + (due l x).length := by
  induction l with
  | nil => rfl
  | cons p l ih =>
    unfold cntL due at ih ⊢
    by_cases e : p.t = x
    · have h1 : (decide ((n : Int) ≤ p.t) && !(left p.t && decide (p.t ≠ x))) = true := by simp [e, hn]
      have h2 : (decide ((n : Int) ≤ p.t) && !left p.t) = false := by simp [e, hx]
      have h3 : (p.t == x) = true := by simp [e]
      rw [List.filter_cons_of_pos (by simpa using h1), List.filter_cons_of_neg (by rw [h2]; simp), List.filter_cons_of_pos (by simpa using h3), List.length_cons, List.length_cons, ih]
      omega
    · have h3 : (p.t == x) = false := by simp [e]
      have h1 : (decide ((n : Int) ≤ p.t) && !(left p.t && decide (p.t ≠ x))) = (decide ((n : Int) ≤ p.t) && !left p.t) := by simp [e]
      have hr : (List.filter (fun p => p.t == x) (p :: l)) = List.filter (fun p => p.t == x) l := List.filter_cons_of_neg (by rw [h3]; simp)
      rw [hr]
      by_cases h2 : (decide ((n : Int) ≤ p.t) && !left p.t) = true
      · rw [List.filter_cons_of_pos (by rw [h1]; exact h2), List.filter_cons_of_pos (by exact h2), List.length_cons, List.length_cons, ih]
        omega
      · rw [List.filter_cons_of_neg (by rw [h1]; exact h2), List.filter_cons_of_neg (by exact h2), ih]
theorem cnt_end {l : List PokeV} {n : Nat} {left : Int → Bool} (h : ∀ g, left g = false) : cntL l n left = restN l n := by
  unfold cntL restN; simp [h]
theorem cnt_le (l : List PokeV) (n : Nat) (left : Int → Bool) : cntL l n left ≤ l.length := List.length_filter_le _ _
theorem due_mem {l : List PokeV} {p : PokeV} {x : Int} (h : p ∈ l) (e : p.t = x) : p ∈ due l x := by simp [due, h, e]
end Go.Proofs.Ytbbaplcfhofeeaa

/-
  Package view: contract of New.
-/
set_option linter.unusedSimpArgs false
set_option linter.unusedVariables false
namespace Go.Proofs.Ytbbaplcfhofeeaa
open Go.RowKit
set_option maxHeartbeats 1000000

def nilS : Value := .slice none 0 0
end Go.Proofs.Ytbbaplcfhofeeaa

/-
  Package view: contract of New, walked.
-/
set_option linter.unusedSimpArgs false
set_option linter.unusedVariables false
namespace Go.Proofs.Ytbbaplcfhofeeaa
open Go.RowKit
set_option maxHeartbeats 2000000

/-- rewrites that came in -/
def PokesIn (w : World) (pa : Option Addr) (l : List PokeV) : Prop := ∀ j (h : j < l.length), ∃ b off qa cap, pa = some ⟨b, off, none⟩ ∧ b < w.heap.size ∧
  w.cell? ⟨b, off + j * 4, none⟩ = some (.int .i64 l[j].t) ∧ w.cell? ⟨b, off + j * 4 + 1, none⟩ = some (.int .i64 l[j].i) ∧ w.cell? ⟨b, off + j * 4 + 2, none⟩ = some (.int .i64 l[j].off) ∧ w.cell? ⟨b, off + j * 4 + 3, none⟩ = some (.slice qa l[j].l.length cap) ∧
  l[j].fits ∧ InBytes w qa l[j].l
theorem PokesIn.grown {w w' : World} {pa : Option Addr} {l : List PokeV} (h : PokesIn w pa l) (hg : w.grownBy w' none) : PokesIn w' pa l := fun j hj => by
  obtain ⟨b, off, qa, cap, e, hb, d0, d1, d2, d3, hf, hi⟩ := h j hj
  refine ⟨b, off, qa, cap, e, Nat.lt_of_lt_of_le hb hg.size, hg.cell d0 (by simp), hg.cell d1 (by simp), hg.cell d2 (by simp), hg.cell d3 (by simp), hf, ?_⟩
  rcases hi with h | ⟨b, o, e, hb, hc⟩
  · exact .inl h
  · exact .inr ⟨b, o, e, Nat.lt_of_lt_of_le hb hg.size, fun k hk => hg.cell (hc k hk) (by simp)⟩
theorem info_fn : (Try.prog.info? 1).map (fun i => (i.zero, i.size, i.bytes)) = some (some .nilFunc, 1, 8) := by kernel_rfl
end Go.Proofs.Ytbbaplcfhofeeaa

/-
  Both machines side by side.
-/
set_option linter.unusedSimpArgs false
set_option linter.unusedVariables false
namespace Go.Proofs.Ytbbaplcfhofeeaa
open Go.RowKit
set_option maxHeartbeats 2000000

theorem Mach.alloc_vn (M : Mach) (o : Int) : (M.alloc o).2.2.n = M.n := by unfold Mach.alloc; (repeat' split) <;> rfl
theorem Mach.give_vn (M : Mach) (i t : Int) : (M.give i t).2.n = M.n := by unfold Mach.give; (repeat' split) <;> rfl
theorem Mach.get_vn (M : Mach) (i o k : Int) : (M.get i o k).2.n = M.n := by unfold Mach.get Mach.take; (repeat' split) <;> rfl
theorem upTo_ok' (n : Nat) (h1 : 1 ≤ n) (h2 : n ≤ 256) : (upTo n n).ok 0 := ⟨by show (1 : Int) ≤ n; omega, by show (n : Int) ≤ 256; omega, fun i hi => by
  have h : i < n := by simp only [upTo] at hi; omega
  show ((if i < n then blankFr else zeroFr).ok ∧ (if i < n then blankFr else zeroFr).tot ≤ 0)
  rw [if_pos h]; exact ⟨blankFr_ok, by decide⟩⟩
theorem grown_own {w W W' : World} {B : Nat} (h : w.grownBy W none) (g : W.grownBy W' (some B)) (hB : w.heap.size ≤ B) : w.grownBy W' none :=
  (Chg.of (S := fun k => w.heap.size ≤ k) g fun j e => .inl (by cases e; exact hB)).grown h fun _ h => h
theorem InBytes.grown {w w' : World} {pa : Option Addr} {l : List UInt8} (h : InBytes w pa l) (hg : w.grownBy w' none) : InBytes w' pa l := by
  rcases h with h | ⟨b, o, e, hb, hc⟩
  · exact .inl h
  · exact .inr ⟨b, o, e, Nat.lt_of_lt_of_le hb hg.size, fun k hk => hg.cell (hc k hk) (by simp)⟩
/-- bytes that came in, apart from what was made later -/
theorem InBytes.apart {w W : World} {pa : Option Addr} {l : List UInt8} (h : InBytes w pa l) (hg : w.grownBy W none) {L : Lay} {b : Nat} (far : ∀ k, L.foot b k → w.heap.size ≤ k) : Apart W L b pa l := fun k hk => by
  rcases h with h | ⟨sb, so, e, hb, hc⟩
  · rw [h] at hk; simp at hk
  · exact ⟨sb, so, e, fun h' => by have := far _ h'; omega, hg.cell (hc k hk) (by simp)⟩
/-- bytes that came in, as bytes apart from a block -/
theorem InBytes.is' {w : World} {pa : Option Addr} {l : List UInt8} (h : InBytes w pa l) (B : Nat) (hB : ∀ b o, pa = some ⟨b, o, none⟩ → l ≠ [] → b ≠ B) (cap : Nat) : IsBytes w B (.slice pa l.length cap) l := by
  by_cases h0 : l = []
  · subst h0; exact .inl ⟨⟨_, _, rfl⟩, rfl⟩
  rcases h with h | ⟨b, o, e, hb, hc⟩
  · exact absurd h h0
  · subst e
    refine .inr ⟨_, _, rfl, hB b o rfl h0, fun k x hx => ?_⟩
    obtain ⟨hk, rfl⟩ := List.getElem?_eq_some_iff.1 hx
    have e : (⟨b, o, none⟩ : Addr).add k = ⟨b, o + k, none⟩ := by unfold Addr.add; split <;> simp_all
    rw [e, hc k hk]
    simp [List.getD, List.getElem?_eq_getElem hk]
theorem InBytes.far {w W : World} {pa : Option Addr} {l : List UInt8} (h : InBytes w pa l) (hg : w.grownBy W none) {B : Nat} (hB : w.heap.size ≤ B) (cap : Nat) : IsBytes W B (.slice pa l.length cap) l := by
  refine (h.grown hg).is' B (fun b o e h0 => ?_) cap
  rcases h with h | ⟨b', o', e', hb, _⟩
  · exact absurd h h0
  · rw [e'] at e; cases e; omega
end Go.Proofs.Ytbbaplcfhofeeaa

/-
  Package tenementlaw02: begin.
-/
set_option linter.unusedSimpArgs false
set_option linter.unusedVariables false
namespace Go.Proofs.Ytbbaplcfhofeeaa
open Go.RowKit
set_option maxHeartbeats 2000000

/-- what a frame begins with -/
structure StartV where
  owner : Int
  kind : Int
  l : List UInt8
instance : Inhabited StartV := ⟨⟨0, 0, []⟩⟩
def Mach.start (M : Mach) (i : Int) (s : StartV) : Mach := ((((M.alloc (-2)).2.2.give i s.owner).2.get i s.owner s.kind).2.write i 0 s.l).2
/-- the machine that begin makes, behind k rounds -/
def beginK (ss : List StartV) (n : Nat) : Nat → Mach
  | 0 => upTo ((n + 1 : Nat) : Int) (n + 1)
  | k + 1 => (beginK ss n k).start k (ss.getD k default)
theorem Mach.start_ok {M : Mach} {T : Int} (h : M.ok T) (i : Int) (s : StartV) : (M.start i s).ok (T + 1) :=
  Mach.write_ok (Mach.get_ok (Mach.give_ok (Mach.alloc_ok h _) _ _) _ _ _) _ _ _
theorem Mach.start_n (M : Mach) (i : Int) (s : StartV) : (M.start i s).n = M.n := by
  unfold Mach.start; rw [Mach.vwrite_n, Mach.get_vn, Mach.give_vn, Mach.alloc_vn]
theorem beginK_ok (ss : List StartV) (n : Nat) (hn : n ≤ 8) (k : Nat) : (beginK ss n k).ok k := by
  induction k with
  | zero => exact upTo_ok' (n + 1) (by omega) (by omega)
  | succ k ih => have := Mach.start_ok ih k (ss.getD k default); simpa [beginK] using this
theorem beginK_n (ss : List StartV) (n k : Nat) : (beginK ss n k).n = ((n + 1 : Nat) : Int) := by
  induction k with
  | zero => rfl
  | succ k ih => exact (Mach.start_n _ _ _).trans ih

/-- starts that came in -/
def StartsIn (w : World) (pa : Option Addr) (ss : List StartV) : Prop := ∀ j (h : j < ss.length), ∃ sb off qa cap, pa = some ⟨sb, off, none⟩ ∧ sb < w.heap.size ∧
  w.cell? ⟨sb, off + j * 3, none⟩ = some (.int .i64 ss[j].owner) ∧ w.cell? ⟨sb, off + j * 3 + 1, none⟩ = some (.int .i64 ss[j].kind) ∧ w.cell? ⟨sb, off + j * 3 + 2, none⟩ = some (.slice qa ss[j].l.length cap) ∧ InBytes w qa ss[j].l ∧ ss[j].l.length ≤ 140737488351232
theorem StartsIn.grown {w w' : World} {pa : Option Addr} {ss : List StartV} (h : StartsIn w pa ss) (hg : w.grownBy w' none) : StartsIn w' pa ss := fun j hj => by
  obtain ⟨sb, off, qa, cap, e, hb, d0, d1, d2, hi, hl⟩ := h j hj
  exact ⟨sb, off, qa, cap, e, Nat.lt_of_lt_of_le hb hg.size, hg.cell d0 (by simp), hg.cell d1 (by simp), hg.cell d2 (by simp), hi.grown hg, hl⟩
end Go.Proofs.Ytbbaplcfhofeeaa

/-
  What came in, opened: frames' beginnings, rewrites. No walk here.
-/
set_option linter.unusedSimpArgs false
set_option linter.unusedVariables false
namespace Go.Proofs.Ytbbaplcfhofeeaa
open Go.RowKit Go.ChangeShapes Go.WideShapes Go.ChangeAt Go.Deep
set_option maxHeartbeats 1000000

section
variable {H : Type} {enc : TypeId × Value → H} {w : World}
theorem PokesIn.fits {pa : Option Addr} {l : List PokeV} (h : PokesIn w pa l) : ∀ p ∈ l, p.fits := fun p hp => by
  obtain ⟨j, hj, rfl⟩ := List.getElem_of_mem hp
  obtain ⟨_, _, _, _, _, _, _, _, _, _, hf, _⟩ := h j hj
  exact hf
end
end Go.Proofs.Ytbbaplcfhofeeaa

/-
  Package view: contract of Word.
-/
set_option linter.unusedSimpArgs false
set_option linter.unusedVariables false
namespace Go.Proofs.Ytbbaplcfhofeeaa
open Go.RowKit
set_option maxHeartbeats 1000000

theorem read_two (M : Mach) (i off : Int) : ((M.read i off 2).2 = 1 ∧ (M.read i off 2).1 = []) ∨ ((M.read i off 2).2 = 0 ∧ ∃ x y : UInt8, (M.read i off 2).1 = [x, y]) := by
  unfold Mach.read
  split
  · exact .inl ⟨rfl, rfl⟩
  split
  · exact .inl ⟨rfl, rfl⟩
  · refine .inr ⟨rfl, ?_⟩
    have : ((M.fr i.toNat).part off.toNat (2 : Int).toNat).length = 2 := part_len _ _ _
    match h : (M.fr i.toNat).part off.toNat (2 : Int).toNat, this with
    | [x, y], _ => exact ⟨x, y, rfl⟩
def wordOf (r : List UInt8 × Int) : Int := match r with | ([x, y], 0) => (x.toNat : Int) + 256 * (y.toNat : Int) | _ => 0
set_option maxRecDepth 100000 in
theorem or_word (x y : UInt8) : bits .or .u16 (x.toNat : Int) ((y.toNat : Int) * 256) = (x.toNat : Int) + 256 * (y.toNat : Int) := by
  have hx := x.toNat_lt
  have hy := y.toNat_lt
  have h := u16_or_nat x.toNat (y.toNat * 256) (by omega) (by omega)
  have e : ((y.toNat * 256 : Nat) : Int) = (y.toNat : Int) * 256 := by push_cast; rfl
  rw [e] at h
  rw [h]
  have := Nat.two_pow_add_eq_or_of_lt (i := 8) (b := x.toNat) (by omega) y.toNat
  rw [Nat.or_comm] at this
  rw [show y.toNat * 256 = 2 ^ 8 * y.toNat by omega, ← this]
  omega
end Go.Proofs.Ytbbaplcfhofeeaa

/-
  Bytes as strings. No walk here.
-/
set_option linter.unusedSimpArgs false
set_option linter.unusedVariables false
namespace Go.Proofs.Ytbbaplcfhofeeaa
open Go.RowKit
set_option maxHeartbeats 1000000

theorem vconv_empty (w : World) (pa : Option Addr) (cap : Nat) : (convert 103 9 (.slice pa 0 cap)).run Try.prog w = .ok (.string ⟨#[]⟩) w := by
  cases pa with
  | none => rw [run_convert_bytes_string w 103 9 5 none 0 cap Try.underlying103 Try.underlying5 Try.underlying9]; simp [Conv.bytesToString]; rfl
  | some a => exact run_convert_bytes_back w 103 9 5 a cap [] Try.underlying103 Try.underlying5 Try.underlying9 (fun j hj => by simp at hj)
theorem vconv_row (w : World) (g o n cap : Nat) (l : List UInt8) (hl : l.length = n) (hc : ∀ k, k < n → w.cell? ⟨g, o + k, none⟩ = some (.int .u8 (l.getD k 0).toNat)) :
    (convert 103 9 (.slice (some ⟨g, o, none⟩) n cap)).run Try.prog w = .ok (.string ⟨l.toArray⟩) w := by
  subst hl
  refine run_convert_bytes_back w 103 9 5 ⟨g, o, none⟩ cap l Try.underlying103 Try.underlying5 Try.underlying9 (fun j hj => ?_)
  have e : (⟨g, o, none⟩ : Addr).add j = ⟨g, o + j, none⟩ := by unfold Addr.add; split <;> simp_all
  rw [e, hc j hj]
  simp [List.getD, List.getElem?_eq_getElem hj]
theorem in_string {w : World} {l : List UInt8} {p : Option Addr} (h : InBytes w p l) (c : Nat) (W : World) (hg : w.grownBy W none) : (convert 103 9 (.slice p l.length c)).run Try.prog W = .ok (.string ⟨l.toArray⟩) W := by
  rcases h with rfl | ⟨b, o, rfl, _, hc⟩
  · exact vconv_empty W _ _
  · exact vconv_row W b o _ _ _ rfl fun k hk => hg.cell (hc k hk) (by simp)
end Go.Proofs.Ytbbaplcfhofeeaa

/-
  Bytes as strings; a machine behind reads. No walk here.
-/
set_option linter.unusedSimpArgs false
set_option linter.unusedVariables false
namespace Go.Proofs.Ytbbaplcfhofeeaa
open Go.RowKit
set_option maxHeartbeats 1000000

theorem kept_string {w : World} {S : Nat → Prop} {l : List UInt8} {p : Option Addr} (h : KeptBytes w S p l) (c : Nat) (W : World) (hg : w.grownBy W none) : (convert 103 9 (.slice p l.length c)).run Try.prog W = .ok (.string ⟨l.toArray⟩) W := by
  rcases h with rfl | ⟨g, rfl, _, hc⟩
  · exact vconv_empty W _ _
  · exact vconv_row W g 0 _ _ _ rfl fun k hk => by rw [Nat.zero_add]; exact hg.cell (hc k hk) (by simp)

/-- the machine behind k reads -/
def Mach.after (M : Mach) (l : List PokeV) : Nat → Mach
  | 0 => M
  | k + 1 => (M.after l k).rews (due l k)
theorem Mach.after_ok {M : Mach} {T : Int} (h : M.ok T) (l : List PokeV) (k : Nat) : (M.after l k).ok T := by
  induction k with
  | zero => exact h
  | succ k ih => exact Mach.rews_ok _ ih
theorem Mach.after_n (M : Mach) (l : List PokeV) (k : Nat) : (M.after l k).n = M.n := by
  induction k with
  | zero => rfl
  | succ k ih => exact (Mach.rews_n _ _).trans ih
theorem Mach.after_fr (M : Mach) (l : List PokeV) (k j : Nat) : ((M.after l k).fr j).owner = (M.fr j).owner ∧ ((M.after l k).fr j).ty = (M.fr j).ty ∧ ((M.fr j).may = false → (M.after l k).fr j = M.fr j) := by
  induction k with
  | zero => exact ⟨rfl, rfl, fun _ => rfl⟩
  | succ k ih =>
    obtain ⟨h1, h2, h3⟩ := ih
    obtain ⟨g1, g2, g3⟩ := Mach.rews_fr (due l k) (M.after l k) j
    refine ⟨g1.trans h1, g2.trans h2, fun h => (g3 ?_).trans (h3 h)⟩
    unfold Fr.may at h ⊢
    rw [h1, h2]; exact h
theorem read_page (M : Mach) (j : Nat) (hj : (j : Int) < M.n) : M.read j 0 256 = ((M.fr j).part 0 256, 0) := by
  unfold Mach.read
  rw [if_neg (by rw [Mach.is_yes (by omega) hj]; simp), if_neg (by rw [inP_yes (by omega) (by omega) (by omega)]; simp)]
  simp
end Go.Proofs.Ytbbaplcfhofeeaa

/-
  Package tenementref02 over the reference's machine: the view in block U; New, Rest.
-/
set_option linter.unusedSimpArgs false
set_option linter.unusedVariables false
namespace Go.Proofs.Ytbbaplcfhofeeaa
open Go.RowKit
set_option maxHeartbeats 4000000

def rvTop (b : Nat) (pa : Option Addr) (len cap : Nat) (n : Int) (k : Nat) : Value := if k = 0 then .pointer (some ⟨b, 0, none⟩) else if k = 1 then .slice pa len cap else .int .i64 n
section
variable {w : World} {U b : Nat} {pa : Option Addr} {len cap : Nat} {n : Int}
end
def cntT (l : List PokeV) (n : Nat) (k : Nat) : Nat := ((l.take k).filter fun p => decide ((n : Int) ≤ p.t)).length
theorem cntT_le (l : List PokeV) (n k : Nat) : cntT l n k ≤ k := Nat.le_trans (List.length_filter_le _ _) (by simp; omega)
theorem cntT_all (l : List PokeV) (n : Nat) : cntT l n l.length = restN l n := by simp [cntT, restN]
theorem cntT_yes (l : List PokeV) (n k : Nat) (h : k < l.length) (hy : (n : Int) ≤ l[k].t) : cntT l n (k + 1) = cntT l n k + 1 := by
  unfold cntT
  rw [List.take_add_one, List.getElem?_eq_getElem h, List.filter_append]
  simp [hy]
theorem cntT_no (l : List PokeV) (n k : Nat) (h : k < l.length) (hy : ¬ (n : Int) ≤ l[k].t) : cntT l n (k + 1) = cntT l n k := by
  unfold cntT
  rw [List.take_add_one, List.getElem?_eq_getElem h, List.filter_append]
  simp [hy]
end Go.Proofs.Ytbbaplcfhofeeaa

/-
  Package tenementref02 over the reference's machine: rewrite.
-/
set_option linter.unusedSimpArgs false
set_option linter.unusedVariables false
namespace Go.Proofs.Ytbbaplcfhofeeaa
open Go.RowKit
set_option maxHeartbeats 4000000

theorem rew_in {M : Mach} {p : PokeV} (h : M.is p.i = false ∨ inP p.off p.l.length = false) : M.rew p = M := by
  unfold Mach.rew Mach.write
  rcases h with e | e
  · simp [e]
  · split <;> simp [e]
theorem rew_no {M : Mach} {p : PokeV} (h : (M.fr p.i.toNat).may = false) : M.rew p = M := by
  unfold Mach.rew Mach.may
  simp [h]
theorem rew_yes {M : Mach} {p : PokeV} (h : M.is p.i = true) (hm : (M.fr p.i.toNat).may = true) : M.rew p = (M.write p.i p.off p.l).2 := by
  unfold Mach.rew Mach.may
  simp [h, hm]
def pokeV (p : PokeV) (qa : Option Addr) (qc : Nat) : Value := .agg #[.int .i64 p.t, .int .i64 p.i, .int .i64 p.off, .slice qa p.l.length qc]
theorem may_no' {f : Fr} (h : f.may = false) : f.owner < 0 ∨ (0 ≤ f.owner ∧ f.ty = 2) ∨ (0 ≤ f.owner ∧ f.ty ≠ 2 ∧ f.ty = 3) := by
  unfold Fr.may at h
  by_cases h0 : 0 ≤ f.owner
  · by_cases h2 : f.ty = 2
    · exact .inr (.inl ⟨h0, h2⟩)
    · by_cases h3 : f.ty = 3
      · exact .inr (.inr ⟨h0, h2, h3⟩)
      · simp [h0, h2, h3] at h
  · exact .inl (by omega)
theorem may_yes' {f : Fr} (h : f.may = true) : 0 ≤ f.owner ∧ f.ty ≠ 2 ∧ f.ty ≠ 3 := by
  unfold Fr.may at h
  simp only [Bool.and_eq_true, decide_eq_true_eq, bne_iff_ne] at h
  exact ⟨h.1.1, h.1.2, h.2⟩
theorem Apart.grown {w W : World} {L : Lay} {b : Nat} {pa : Option Addr} {l : List UInt8} (h : Apart w L b pa l) (hg : w.grownBy W none) : Apart W L b pa l := fun k hk => by
  obtain ⟨sb, so, e, hn, hc⟩ := h k hk
  exact ⟨sb, so, e, hn, hg.cell hc (by simp)⟩
end Go.Proofs.Ytbbaplcfhofeeaa

/-
  Package tenementref02 over the reference's machine: Read.
-/
set_option linter.unusedSimpArgs false
set_option linter.unusedVariables false
namespace Go.Proofs.Ytbbaplcfhofeeaa
open Go.RowKit
set_option maxHeartbeats 1200000

theorem due_take_yes {l : List PokeV} {k : Nat} (h : k < l.length) {n : Int} (hy : l[k].t = n) (M : Mach) : M.rews (due (l.take (k + 1)) n) = (M.rews (due (l.take k) n)).rew l[k] := by
  rw [List.take_succ_eq_append_getElem h, due_snoc_yes hy, Mach.rews_snoc]
theorem due_take_no {l : List PokeV} {k : Nat} (h : k < l.length) {n : Int} (hy : l[k].t ≠ n) (M : Mach) : M.rews (due (l.take (k + 1)) n) = M.rews (due (l.take k) n) := by
  rw [List.take_succ_eq_append_getElem h, due_snoc_no hy]
end Go.Proofs.Ytbbaplcfhofeeaa

/-
  Package tenementref02 over the reference's machine: Read, whole.
-/
set_option linter.unusedSimpArgs false
set_option linter.unusedVariables false
namespace Go.Proofs.Ytbbaplcfhofeeaa
open Go.RowKit
set_option maxHeartbeats 1200000

theorem read_bad {M : Mach} {i off n : Int} (h : M.is i = false ∨ inP off n = false) : M.read i off n = ([], 1) := by
  unfold Mach.read
  rcases h with e | e
  · simp [e]
  · cases M.is i <;> simp [e]
theorem read_good {M : Mach} {i off n : Int} (h : M.is i = true) (hp : inP off n = true) : M.read i off n = ((M.fr i.toNat).part off.toNat n.toNat, 0) := by
  unfold Mach.read
  simp [h, hp]
end Go.Proofs.Ytbbaplcfhofeeaa

/-
  Package grant: handle, live, owns, granted, entry.
-/
set_option linter.unusedSimpArgs false
set_option linter.unusedVariables false
namespace Go.Proofs.Ytbbaplcfhofeeaa
open Go.RowKit KM
set_option maxHeartbeats 4000000

theorem Gst.free_spec {g : Gst} {c : Int} {h : Nat} (e : g.free c = some h) : h < 16 ∧ (∀ j : Nat, j < h → (g.mp (c, (j : Int))).isSome = true) ∧ g.mp (c, (h : Int)) = none := by
  refine ⟨Gst.free_lt e, fun j hj => ?_, Gst.free_is e⟩
  cases hm : g.mp (c, (j : Int)) with
  | some a => rfl
  | none =>
    exfalso
    have hl := Gst.free_lt e
    unfold Gst.free at e
    rw [List.find?_eq_some_iff_append] at e
    obtain ⟨_, ls, bs, hab, hno⟩ := e
    have hlen : ls.length = h := by
      have h1 : (List.range 16)[ls.length]? = some h := by rw [hab]; simp
      have h2 : ls.length < 16 := by
        have := congrArg List.length hab
        simp at this; omega
      rw [List.getElem?_range h2] at h1
      exact Option.some.inj h1
    have hmem : j ∈ ls := by
      have h1 : (List.range 16)[j]? = some j := List.getElem?_range (by omega)
      rw [hab, List.getElem?_append_left (by omega)] at h1
      exact List.mem_of_getElem? h1
    have := hno j hmem
    simp [hm] at this
theorem Gst.free_all {g : Gst} {c : Int} (e : g.free c = none) (j : Nat) (hj : j < 16) : (g.mp (c, (j : Int))).isSome = true := by
  unfold Gst.free at e
  have := List.find?_eq_none.1 e j (by simpa using hj)
  cases hm : g.mp (c, (j : Int)) <;> simp_all
theorem fit2_of {c : Int} {h : Nat} (h0 : 0 ≤ c) (h1 : c < 8) (h2 : h < 16) : fit2 (c, (h : Int)) := ⟨WalkArith.wf_i64 (by simp only; omega), WalkArith.wf_i64 (by simp only; omega)⟩
section
variable {w : World} {X B G : Nat} {pm : Nat → Nat × Nat × Nat} {np : Nat} {s : Gs} {T : Nat}
end
end Go.Proofs.Ytbbaplcfhofeeaa
