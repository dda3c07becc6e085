/-
  Package cons: a console, the view and the machine in one memory; what a ring's numbers do.
-/
import Derived.Test.YtnplkifohocekaaDoorCoZ
import Derived.Test.YtnplkifohocekaaDoorViewE
import Derived.Deep.RegionHeld3
set_option linter.unusedSimpArgs false
set_option linter.unusedVariables false
namespace Go.Proofs.YtnplkifohocekaaDoor.Co
open Go.RowKit Go.Lib Go.Proofs.YtnplkifohocekaaDoor.Bk
set_option maxHeartbeats 2000000
/-- a console's cells, by place -/
def cnV (mfn : Int) (tk : Nat) (L R : Value) (pt : Nat) : Nat → Value
  | 0 => .int .i64 mfn
  | 1 => .bool true
  | 2 => .int .u16 tk
  | 3 => L
  | 4 => R
  | 5 => .int .u16 pt
  | _ => undef
/-- a console at block C, a view at V of the machine at B -/
structure FW (w : World) (V G B C : Nat) (S : Nat → Prop) (l : List PokeV) (n T : Nat) (M : Mach) (X : Int) (mfn : Int) (tk : Nat) (L R : Value) (pt : Nat) : Prop where
  view : ∃ f, VV w V G B S l n T f
  mach : PM w B M
  ok : M.ok X
  con : Row w C 74 6 (cnV mfn tk L R pt)
  nV : V ≠ C
  nG : G ≠ C
  nB : B ≠ C
  nS : ¬ S C
/-- what the four may change -/
def fset (V G B C : Nat) (k : Nat) : Prop := k = V ∨ k = G ∨ k = B ∨ k = C
variable {w w' : World} {V G B C : Nat} {S : Nat → Prop} {l : List PokeV} {n T : Nat} {M M' : Mach} {X mfn : Int} {tk pt : Nat} {L R : Value}
theorem FW.lt (h : FW w V G B C S l n T M X mfn tk L R pt) : ∀ k, fset V G B C k → k < w.heap.size := by
  obtain ⟨f, hv⟩ := h.view
  rintro k (rfl | rfl | rfl | rfl)
  · exact hv.foot_lt (.inl rfl)
  · exact hv.foot_lt (.inr (.inl rfl))
  · exact h.mach.lt
  · exact h.con.lt
theorem FW.grown (h : FW w V G B C S l n T M X mfn tk L R pt) (hg : w.grownBy w' none) : FW w' V G B C S l n T M X mfn tk L R pt := by
  obtain ⟨f, hv⟩ := h.view
  exact ⟨⟨f, hv.grown hg⟩, h.mach.grown hg (by simp), h.ok, h.con.grown hg (by simp), h.nV, h.nG, h.nB, h.nS⟩
theorem FW.read (h : FW w V G B C S l n T M X mfn tk L R pt) (hr : VRead w V G B S l n T M w') : FW w' V G B C S l (n + 1) T (M.rews (due l n)) X mfn tk L R pt ∧ Chg (fset V G B C) w w' :=
  ⟨⟨hr.view, hr.mach, Mach.rews_ok _ h.ok, h.con.chg hr.chg (fun hx => hx.elim (fun e => h.nV e.symm) fun hx => hx.elim (fun e => h.nG e.symm) fun e => h.nB e.symm), h.nV, h.nG, h.nB, h.nS⟩, hr.chg.mono fun k hk => by
    rcases hk with e | e | e
    · exact .inl e
    · exact .inr (.inl e)
    · exact .inr (.inr (.inl e))⟩
theorem FW.left (h : FW w V G B C S l n T M X mfn tk L R pt) (hm : PM w' B M') (hg : w.grownBy w' (some B)) (hok : M'.ok X) : FW w' V G B C S l n T M' X mfn tk L R pt ∧ Chg (fset V G B C) w w' := by
  obtain ⟨f, hv⟩ := h.view
  exact ⟨⟨⟨f, hv.mach hg⟩, hm, hok, h.con.grown hg (by simp; exact fun e => h.nB e.symm), h.nV, h.nG, h.nB, h.nS⟩, Chg.of hg fun j e => .inl (by cases e; exact .inr (.inr (.inl rfl)))⟩
/-- a number is stored -/
theorem FW.set (h : FW w V G B C S l n T M X mfn tk L R pt) {k : Nat} {v : Value} {tk' pt' : Nat} {L' R' : Value} (hv : cnV mfn tk' L' R' pt' k = v) (ho : ∀ j, j < 6 → j ≠ k → cnV mfn tk' L' R' pt' j = cnV mfn tk L R pt j) :
    FW (w.setCell ⟨C, k, none⟩ v) V G B C S l n T M X mfn tk' L' R' pt' ∧ Chg (fset V G B C) w (w.setCell ⟨C, k, none⟩ v) := by
  obtain ⟨f, hV⟩ := h.view
  have hg : w.grownBy (w.setCell ⟨C, k, none⟩ v) (some C) := ⟨rfl, rfl, rfl, by simp, fun j _ hj => heap_setCell_other w ⟨C, k, none⟩ j v (fun e => hj (by rw [e]))⟩
  have hc : Chg (fun k => k = C) w (w.setCell ⟨C, k, none⟩ v) := Chg.of hg fun j e => .inl (by cases e; rfl)
  refine ⟨⟨⟨f, hV.chg hc ?_⟩, h.mach.setOther _ h.nB _, h.ok, h.con.set hv ho, h.nV, h.nG, h.nB, h.nS⟩, hc.mono fun k hk => .inr (.inr (.inr hk))⟩
  rintro k (rfl | rfl | hk) e
  · exact h.nV e
  · exact h.nG e
  · exact h.nS (e ▸ hk)
/-- bytes that none of the four holds -/
def Far (V G B C : Nat) (p : Option Addr) (m : Nat) : Prop := ∀ a, p = some a → 0 < m → ¬ fset V G B C a.block
theorem BA.chg {S' : Nat → Prop} {p : Option Addr} {b : List UInt8} (h : BA w p b) (hc : Chg S' w w') (hf : ∀ a, p = some a → 0 < b.length → ¬ S' a.block) : BA w' p b := fun k hk => by
  obtain ⟨g, o, e, hcell⟩ := h k hk
  exact ⟨g, o, e, hc.cell hcell (show ¬ S' g from hf _ e (by omega))⟩
theorem BA.is {p : Option Addr} {b : List UInt8} (h : BA w p b) (c : Nat) (hB : ∀ a, p = some a → 0 < b.length → a.block ≠ B) : IsBytes w B (.slice p b.length c) b := by
  cases b with
  | nil => exact .inl ⟨⟨p, c, rfl⟩, rfl⟩
  | cons x b =>
    obtain ⟨g, o, rfl⟩ := h.ptr (by simp)
    refine .inr ⟨⟨g, o, none⟩, c, rfl, hB _ rfl (by simp), fun k y hk => ?_⟩
    have hk2 : k < (x :: b).length := (List.getElem?_eq_some_iff.1 hk).1
    have e : (⟨g, o, none⟩ : Addr).add k = ⟨g, o + k, none⟩ := by unfold Addr.add; split <;> simp_all
    rw [e, h.at hk2]
    simp [List.getD, hk]
/-- reach: where the next byte stands, and how many stand there -/
theorem cReach (c k : Nat) (own cnt sz : Nat) (w : World) (hc : w.cell? ⟨c, k, none⟩ = some (.int .u16 own)) (ho : own < 65536) (hn : cnt ≤ 140737488355328) (hs : sz = 64 ∨ sz = 128) :
    Calls Tryd.prog 73 #[.pointer (some ⟨c, k, none⟩), .int .i64 cnt, .int .i64 sz] w fun e w' => e = .returned (.tuple #[.int .i64 ((own % sz : Nat) : Int), .int .i64 ((min cnt (sz - own % sz) : Nat) : Int)]) ∧ w = w' := by
  have hoi : (own : Int) ≤ 65535 := by omega
  have ho0 : (0 : Int) ≤ own := by omega
  have hni : (cnt : Int) ≤ 140737488355328 := by omega
  rcases hs with rfl | rfl
  · have e1 : ((own % 64 : Nat) : Int) = (own : Int) % 64 := by omega
    have e2 : ((min cnt (64 - own % 64) : Nat) : Int) = min (cnt : Int) (64 - (own : Int) % 64) := by omega
    rw [e1, e2]
    clear e1 e2
    go_enter Tryd.func73, Tryd.ntmps73
    go_wp2
    go_ret2
    exact ⟨rfl, rfl⟩
  · have e1 : ((own % 128 : Nat) : Int) = (own : Int) % 128 := by omega
    have e2 : ((min cnt (128 - own % 128) : Nat) : Int) = min (cnt : Int) (128 - (own : Int) % 128) := by omega
    rw [e1, e2]
    clear e1 e2
    go_enter Tryd.func73, Tryd.ntmps73
    go_wp2
    go_ret2
    exact ⟨rfl, rfl⟩
theorem cut_to (p : Option Addr) (len c k : Nat) (hk : k ≤ c) (hp : p = none → c = 0) (W : World) : (Instr.slice 22 (.slice p len c) none (some (.int .i64 (k : Int))) none).run Tryd.prog W = .ok (.slice p k c) W := by
  have i5 := u8_size
  cases h5 : Tryd.prog.info? 5 with
  | none => rw [h5] at i5; cases i5
  | some x =>
  rw [h5] at i5
  simp only [Option.map_some, Option.some.injEq] at i5
  have hel : Tryd.prog.elem 22 = 5 := by kernel_rfl
  rw [run_slice_h (P := Tryd.prog) W 22 p len c (by rw [hel]; exact Tryd.underlying22) .i64 (k : Int) (by omega) (by omega), hel]
  simp only [sizeOf, typeInfo, h5, sliced]
  cases p with
  | none =>
    obtain rfl := hp rfl
    obtain rfl : k = 0 := by omega
    simp [i5, h5, sizeOf, typeInfo, Result.andThen]
  | some a =>
    have e : a.add 0 = a := by unfold Addr.add; split <;> simp_all
    simp [i5, h5, sizeOf, typeInfo, Result.andThen, e]
end Go.Proofs.YtnplkifohocekaaDoor.Co
