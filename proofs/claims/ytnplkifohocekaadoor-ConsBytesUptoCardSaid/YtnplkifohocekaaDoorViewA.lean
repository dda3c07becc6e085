/-
  Package view: a rewrite as a closure, and what its call does.
-/
import Derived.Test.YtnplkifohocekaaDoorVSpec
import Derived.Test.YtnplkifohocekaaDoorVMap
import Derived.WalkSpells
import Derived.Lib.SliceRun
import Derived.Laws.AppendOwnNone
set_option linter.unusedSimpArgs false
set_option linter.unusedVariables false
namespace Go.Proofs.YtnplkifohocekaaDoor
open Go.RowKit
set_option maxHeartbeats 1000000

theorem grow_any {w w' : World} (h : w.grownBy w' none) (row : Option Nat) : w.grownBy w' row := ⟨h.os, h.tape, h.output, h.size, fun k hk _ => h.block k hk (by simp)⟩
theorem grow_then {w w1 w2 : World} {row : Option Nat} (h : w.grownBy w1 none) (g : w1.grownBy w2 row) : w.grownBy w2 row :=
  ⟨g.os.trans h.os, g.tape.trans h.tape, g.output.trans h.output, Nat.le_trans h.size g.size, fun k hk hr => (g.block k (Nat.lt_of_lt_of_le hk h.size) hr).trans (h.block k hk (by simp))⟩
/-- bytes in a row that lies in S -/
def KeptBytes (w : World) (S : Nat → Prop) (q : Option Addr) (l : List UInt8) : Prop := l = [] ∨ ∃ g, q = some ⟨g, 0, none⟩ ∧ S g ∧ ∀ k, k < l.length → w.cell? ⟨g, k, none⟩ = some (.int .u8 (l.getD k 0).toNat)
theorem KeptBytes.chg {S S' : Nat → Prop} {w w' : World} {q : Option Addr} {l : List UInt8} (h : KeptBytes w S q l) (hc : Chg S' w w') (hS : ∀ k, S k → ¬ S' k) : KeptBytes w' S q l := by
  rcases h with h | ⟨g, e, hg, hb⟩
  · exact .inl h
  · exact .inr ⟨g, e, hg, fun k hk => hc.cell (hb k hk) (hS _ hg)⟩
theorem KeptBytes.is {w : World} {S : Nat → Prop} {q : Option Addr} {l : List UInt8} (h : KeptBytes w S q l) (c B : Nat) (hB : ¬ S B) : IsBytes w B (.slice q l.length c) l := by
  rcases h with rfl | ⟨g, rfl, hg, hb⟩
  · exact .inl ⟨⟨_, _, rfl⟩, rfl⟩
  · refine .inr ⟨_, _, rfl, fun e => hB (e ▸ hg), fun k x hx => ?_⟩
    obtain ⟨hk, rfl⟩ := List.getElem?_eq_some_iff.1 hx
    have e : (⟨g, 0, none⟩ : Addr).add k = ⟨g, k, none⟩ := by unfold Addr.add; split <;> simp_all
    rw [e, hb k hk]
    simp [List.getD, List.getElem?_eq_getElem hk]
set_option maxRecDepth 100000 in
theorem vClone (pa : Option Addr) (cap : Nat) (l : List UInt8) (w : World) (h : InBytes w pa l) (hl : l.length ≤ 140737488351232) :
    Calls Tryd.prog 67 #[.slice pa l.length cap] w fun e w' => ∃ q c, e = .returned (.slice q l.length c) ∧ KeptBytes w' (fun k => w.heap.size ≤ k ∧ k < w'.heap.size) q l ∧ w.grownBy w' none := by
  have hq := fun w => Lib.run_eql_slice_nil (P := Tryd.prog) w 22 _ pa l.length cap 0 0 Tryd.underlying22
  cases pa with
  | none =>
    have hz : l = [] := by
      rcases h with h | ⟨b, o, e, _⟩
      · exact h
      · cases e
    subst hz
    clear h
    have hq0 := fun w => Lib.run_eql_slice_nil (P := Tryd.prog) w 22 _ none 0 cap 0 0 Tryd.underlying22
    simp only [List.length_nil]
    clear hq
    go_enter Tryd.func67, Tryd.ntmps67
    go_wp2
    go_ret
    exact ⟨none, 0, rfl, .inl rfl, World.grownBy.refl _ _⟩
  | some a =>
    obtain ⟨i0, hi, hz0, hz1, hz2⟩ := info_parts info_u8
    have Hi := hid hi; have Hz0 := hid hz0; have Hz1 := hid hz1; have Hz2 := hid hz2
    clear hi hz0 hz1 hz2
    have HG0 := hid (World.grownBy_alloc w (.cells #[] 5) none)
    have HOn := hid (World.ownsRow_made (base := w.heap.size) (e := 5) (size := 1) w #[] 0 (Nat.le_refl _) (by unfold maxLen; omega) (by simp))
    have HNw := hid (show ∀ j u, (bcells l)[j]? = some u → (w.alloc (.cells #[] 5)).cell? (a.add j) = some u from fun j u hu => by
      rw [bcells_get, Option.map_eq_some_iff] at hu
      obtain ⟨x, hx, rfl⟩ := hu
      obtain ⟨hj, rfl⟩ := List.getElem?_eq_some_iff.1 hx
      rcases h with rfl | ⟨b, o, e, _, hc⟩
      · simp at hj
      · cases e
        have e : (⟨b, o, none⟩ : Addr).add j = ⟨b, o + j, none⟩ := by unfold Addr.add; split <;> simp_all
        rw [e]
        have := HG0.out.cell (hc j hj) (by simp)
        rw [this]
        simp [List.getD, List.getElem?_eq_getElem hj])
    have HL := hid (bcells_len l)
    clear h
    go_enter Tryd.func67, Tryd.ntmps67
    go_wp2_with (at_builtin; refine wpList_append_own _ rfl _ _ 22 rfl w.heap.size 5 i0 (.int .u8 0) 1 1 Tryd.underlying22 Hi.out Hz0.out Hz1.out Hz2.out rfl (by decide) _ 0 [] rfl HOn.out a l.length cap (bcells l) rfl (by rw [HL.out, Nat.mul_one]) HNw.out (bcells_one l) (by unfold maxLen; omega) (by omega) (by simp) ?_; intro v' w1 hown' hgrow hnil; clear hnil; simp only [Nat.zero_add, List.nil_append] at hown'; have HO1 := hid hown'; have HG1 := hid (HG0.out.andThen hgrow (fun j hj => .inl (HOn.out.lt j hj).1)); clear hown' hgrow)
    go_ret
    obtain ⟨q, c, hv⟩ := ownsRow_slice HO1.out
    subst hv
    refine ⟨q, c, rfl, ?_, HG1.out⟩
    by_cases h0 : l = []
    · exact .inl h0
    · obtain ⟨n, hn⟩ : ∃ n, l.length = n + 1 := ⟨l.length - 1, by have := List.length_pos_iff.2 h0; omega⟩
      have hO := HO1.out
      rw [hn] at hO
      obtain ⟨g, c', e, hb, hr⟩ := ownsRow_row hO
      injection e with e
      refine .inr ⟨g, e, ⟨hb, hr.lt⟩, fun k hk => ?_⟩
      rw [hr.cell (by omega)]
      have : (bcells l)[k]? = some (.int .u8 (l.getD k 0).toNat) := by rw [bcells_get, List.getElem?_eq_getElem hk]; simp [List.getD, List.getElem?_eq_getElem hk]
      simp [List.getD, this]

/-- v is a rewrite of the machine in block B; all that it leads to lies in S -/
def Clo (w : World) (S : Nat → Prop) (B : Nat) (v : Value) (p : PokeV) : Prop :=
  ∃ mi pi bi q c, v = .func (.func 68) #[] #[.pointer (some ⟨mi, 0, none⟩), .pointer (some ⟨pi, 0, none⟩), .pointer (some ⟨bi, 0, none⟩)] ∧ S mi ∧ S pi ∧ S bi ∧
    w.cell? ⟨mi, 0, none⟩ = some (.pointer (some ⟨B, 0, none⟩)) ∧ w.cell? ⟨pi, 1, none⟩ = some (.int .i64 p.i) ∧ w.cell? ⟨pi, 2, none⟩ = some (.int .i64 p.off) ∧ w.cell? ⟨bi, 0, none⟩ = some (.slice q p.l.length c) ∧ KeptBytes w S q p.l
theorem Clo.chg {S S' : Nat → Prop} {w w' : World} {B : Nat} {v : Value} {p : PokeV} (h : Clo w S B v p) (hc : Chg S' w w') (hS : ∀ k, S k → ¬ S' k) : Clo w' S B v p := by
  obtain ⟨mi, pi, bi, q, c, e, s1, s2, s3, c1, c2, c3, c4, hb⟩ := h
  exact ⟨mi, pi, bi, q, c, e, s1, s2, s3, hc.cell c1 (hS _ s1), hc.cell c2 (hS _ s2), hc.cell c3 (hS _ s2), hc.cell c4 (hS _ s3), hb.chg hc hS⟩
theorem Clo.mono {S S' : Nat → Prop} {w : World} {B : Nat} {v : Value} {p : PokeV} (h : Clo w S B v p) (hS : ∀ k, S k → S' k) : Clo w S' B v p := by
  obtain ⟨mi, pi, bi, q, c, e, s1, s2, s3, c1, c2, c3, c4, hb⟩ := h
  refine ⟨mi, pi, bi, q, c, e, hS _ s1, hS _ s2, hS _ s3, c1, c2, c3, c4, ?_⟩
  rcases hb with h | ⟨g, e, hg, hb⟩
  · exact .inl h
  · exact .inr ⟨g, e, hS _ hg, hb⟩
/-- numbers of a rewrite that a program can hold -/
def PokeV.fits (p : PokeV) : Prop := (Lit.int .i64 p.t).wf = true ∧ (Lit.int .i64 p.i).wf = true ∧ (Lit.int .i64 p.off).wf = true ∧ p.l.length ≤ 140737488351232
set_option maxRecDepth 100000 in
theorem vRewrite (B : Nat) (p : PokeV) (pa : Option Addr) (cap : Nat) (w : World) (hf : p.fits) (hb : InBytes w pa p.l) :
    Calls Tryd.prog 47 #[.pointer (some ⟨B, 0, none⟩), .agg #[.int .i64 p.t, .int .i64 p.i, .int .i64 p.off, .slice pa p.l.length cap]] w fun e w' => ∃ v, e = .returned v ∧ Clo w' (fun k => w.heap.size ≤ k ∧ k < w'.heap.size) B v p ∧ w.grownBy w' none := by
  have hmf : ∀ (fn : Fn) (first cap : Array Value) (w : World), (Instr.makeFunc fn first cap).run Tryd.prog w = .ok (.func fn first cap) w := fun _ _ _ _ => rfl
  obtain ⟨W, hW, hg, hs, c0, d1, d2, d3⟩ : ∃ W, (w.alloc (.cells #[.pointer (some ⟨B, 0, none⟩)] 27)).alloc (.cells #[.int .i64 p.t, .int .i64 p.i, .int .i64 p.off, .slice pa p.l.length cap] 120) = W ∧ w.grownBy W none ∧ W.heap.size = w.heap.size + 2 ∧
      W.cell? ⟨w.heap.size, 0, none⟩ = some (.pointer (some ⟨B, 0, none⟩)) ∧ W.cell? ⟨w.heap.size + 1, 1, none⟩ = some (.int .i64 p.i) ∧ W.cell? ⟨w.heap.size + 1, 2, none⟩ = some (.int .i64 p.off) ∧ W.cell? ⟨w.heap.size + 1, 3, none⟩ = some (.slice pa p.l.length cap) := by
    refine ⟨_, rfl, (World.grownBy_alloc w _ none).trans (World.grownBy_alloc _ _ none), by simp, ?_, ?_, ?_, ?_⟩ <;> simp [go_sem]
  have hbW : InBytes W pa p.l := by
    rcases hb with h | ⟨b, o, e, hlt, hc⟩
    · exact .inl h
    · exact .inr ⟨b, o, e, Nat.lt_of_lt_of_le hlt hg.size, fun k hk => hg.cell (hc k hk) (by simp)⟩
  have HB := hid hbW
  have HG := hid hg
  have HS := hid hs
  have HL := hid hf.2.2.2
  clear hb hbW hf hg hs
  go_enter Tryd.func47, Tryd.ntmps47
  go_wp2_with (go_at_call 67; refine (vClone pa cap p.l _ HB.out HL.out).mono ?_; rintro e w1 ⟨q, c, rfl, hk, g1⟩; have HK := hid hk; have k0 := g1.cell c0 (by simp); have k1 := g1.cell d1 (by simp); have k2 := g1.cell d2 (by simp); have HG1 := hid (HG.out.trans g1); have HS1 := hid g1.size; clear hk g1)
  go_ret
  have hgA := World.grownBy_alloc w1 (.cells #[.slice q p.l.length c] 22) none
  have hsz : (w1.alloc (.cells #[.slice q p.l.length c] 22)).heap.size = w1.heap.size + 1 := by simp
  have h1 := HS.out
  have h2 := HS1.out
  refine ⟨_, rfl, ⟨w.heap.size, w.heap.size + 1, w1.heap.size, q, c, rfl, ⟨by omega, by rw [hsz]; omega⟩, ⟨by omega, by rw [hsz]; omega⟩, ⟨by omega, by rw [hsz]; omega⟩, hgA.cell k0 (by simp), hgA.cell k1 (by simp), hgA.cell k2 (by simp), by simp [go_sem], ?_⟩, HG1.out.trans hgA⟩
  rcases HK.out with h | ⟨g, e, ⟨hg1, hg2⟩, hb⟩
  · exact .inl h
  · exact .inr ⟨g, e, ⟨by omega, by rw [hsz]; omega⟩, fun k hk => hgA.cell (hb k hk) (by simp)⟩

/-- writable -/
theorem vWritable (o t c n : Int) (w : World) : Calls Tryd.prog 70 #[.agg #[.int .i64 o, .int .i64 t, .int .i64 c, .int .i64 n]] w fun e w' => e = .returned (.bool (decide (0 ≤ o) && (t != 2) && (t != 3))) ∧ w.grownBy w' none := by
  by_cases h0 : 0 ≤ o
  · by_cases h2 : t = 2
    · subst h2
      go_enter Tryd.func70, Tryd.ntmps70
      go_wp2
      go_ret
      exact ⟨by simp, World.grownBy_alloc w _ none⟩
    · have h2b : (t != 2) = true := by simp [h2]
      go_enter Tryd.func70, Tryd.ntmps70
      go_wp2
      go_ret
      exact ⟨by simp [h0, h2], World.grownBy_alloc w _ none⟩
  · have h0b : decide (0 ≤ o) = false := by simp [h0]
    go_enter Tryd.func70, Tryd.ntmps70
    go_wp2
    go_ret
    exact ⟨by simp [h0b], World.grownBy_alloc w _ none⟩
/-- what the call of a rewrite leaves -/
def Rewr (w : World) (B : Nat) (M' : Mach) (e : Ending) (w' : World) : Prop := (∃ v, e = .returned v) ∧ PM w' B M' ∧ w.grownBy w' (some B)
set_option maxRecDepth 100000 in
theorem vDo (B mi pi bi : Nat) (p : PokeV) (q : Option Addr) (c : Nat) (S : Nat → Prop) (w : World) (M : Mach) (T : Int) (hM : PM w B M) (hok : M.ok T) (hf : p.fits) (hB : ¬ S B) (s1 : S mi) (s2 : S pi) (s3 : S bi)
    (c1 : w.cell? ⟨mi, 0, none⟩ = some (.pointer (some ⟨B, 0, none⟩))) (c2 : w.cell? ⟨pi, 1, none⟩ = some (.int .i64 p.i)) (c3 : w.cell? ⟨pi, 2, none⟩ = some (.int .i64 p.off)) (c4 : w.cell? ⟨bi, 0, none⟩ = some (.slice q p.l.length c)) (hb : KeptBytes w S q p.l) :
    Calls Tryd.prog 68 #[.pointer (some ⟨mi, 0, none⟩), .pointer (some ⟨pi, 0, none⟩), .pointer (some ⟨bi, 0, none⟩)] w (Rewr w B (M.rew p)) := by
  obtain ⟨_, wi, wo, hl⟩ := hf
  have hob := (bounds_i64 wo).2
  have HM := hid hM
  have HOk := hid hok
  have HKb := hid hb
  have HBn := hid hB
  have HL := hid hl
  have HOb := hid hob
  clear hM hok hb hB hl hob wi wo
  cases hi : M.is p.i with
  | false =>
    have hi2 : p.i < 0 ∨ M.n ≤ p.i := by
      have := mt Mach.is_iff.2 (by rw [hi]; simp : ¬ M.is p.i = true)
      omega
    have HV := hid (show M.rew p = M by unfold Mach.rew Mach.may; rw [hi]; rfl)
    have HI := hid hi2
    clear hi hi2
    go_enter Tryd.func68, Tryd.ntmps68
    go_wp2_with (go_at_call 69; refine (Frame_no B p.i _ M T HM.out HOk.out HI.out).mono ?_; rintro e w1 ⟨rfl, g1⟩; have HG1 := hid g1; clear g1)
    go_end0
    exact ⟨⟨_, rfl⟩, by rw [HV.out]; exact (HM.out.grown HG1.out (by simp)).alloc _, grow_any (HG1.out.trans (World.grownBy_alloc _ _ none)) _⟩
  | true =>
    obtain ⟨h0, h1⟩ := Mach.is_iff.1 hi
    obtain ⟨j, hj⟩ := Int.eq_ofNat_of_zero_le h0
    rw [hj] at c2 h1
    have HFr := hid (Frame_yes B j w M T HM.out HOk.out h1)
    unfold Fr.head at HFr
    have HJ := hid (show p.i.toNat = j by omega)
    cases hm : (M.fr j).may with
    | false =>
      have HV := hid (show M.rew p = M by unfold Mach.rew Mach.may; rw [HJ.out, hm]; simp)
      have HMy := hid (show (decide (0 ≤ (M.fr j).owner) && ((M.fr j).ty != 2) && ((M.fr j).ty != 3)) = false from hm)
      clear hi h0 h1 hm
      go_enter Tryd.func68, Tryd.ntmps68
      go_wp2_with (first
        | (go_at_call 69; refine HFr.out.mono ?_; rintro e w1 ⟨rfl, g1⟩; have HG1 := hid (g1.trans (World.grownBy_alloc w1 (.cells #[.int .i64 (M.fr j).owner, .int .i64 (M.fr j).ty, .int .i64 (M.fr j).cnt, .int .i64 (M.fr j).tot] 112) none)); clear g1)
        | (go_at_call 70; refine (vWritable _ _ _ _ _).mono ?_; rw [HMy.out]; rintro e w2 ⟨rfl, g2⟩; have HG2 := hid (HG1.out.trans g2); clear g2))
      go_end0
      exact ⟨⟨_, rfl⟩, by rw [HV.out]; exact HM.out.grown HG2.out (by simp), grow_any HG2.out _⟩
    | true =>
      have HV := hid (show M.rew p = (M.write p.i p.off p.l).2 by unfold Mach.rew Mach.may; rw [HJ.out, hi, hm]; simp)
      have HMy := hid (show (decide (0 ≤ (M.fr j).owner) && ((M.fr j).ty != 2) && ((M.fr j).ty != 3)) = true from hm)
      have HI := hid hj
      clear hi h0 h1 hm hj
      go_enter Tryd.func68, Tryd.ntmps68
      go_wp2_with (first
        | (go_at_call 69; refine HFr.out.mono ?_; rintro e w1 ⟨rfl, g1⟩; have HG1 := hid (g1.trans (World.grownBy_alloc w1 (.cells #[.int .i64 (M.fr j).owner, .int .i64 (M.fr j).ty, .int .i64 (M.fr j).cnt, .int .i64 (M.fr j).tot] 112) none)); clear g1)
        | (go_at_call 70; refine (vWritable _ _ _ _ _).mono ?_; rw [HMy.out]; rintro e w2 ⟨rfl, g2⟩; have HG2 := hid (HG1.out.trans g2); have k1 := HG2.out.cell c1 (by simp); have k2 := HG2.out.cell c2 (by simp); have k3 := HG2.out.cell c3 (by simp); have k4 := HG2.out.cell c4 (by simp); clear g2)
        | (go_at_call 22; refine (Write_any B j p.off _ p.l _ M T (HM.out.grown HG2.out (by simp)) HOk.out HOb.out ((HKb.out.chg (Chg.of0 (S := fun _ => False) HG2.out) (fun _ _ h => h)).is c B HBn.out) (by have := HL.out; omega)).mono ?_; rintro e w3 ⟨rfl, h3, g3⟩; have HM3 := hid h3; have HG3 := hid (grow_then HG2.out g3); clear h3 g3))
      go_end0
      exact ⟨⟨_, rfl⟩, by rw [HV.out, HI.out]; exact HM3.out, HG3.out⟩
end Go.Proofs.YtnplkifohocekaaDoor
