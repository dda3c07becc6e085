/-
  Package mmu: the whole object in memory; its small calls.
-/
import Derived.Test.YtbbaplcfhofeeaaK10
import Derived.Lib.Builder
import Derived.Deep.RegionLaw
set_option linter.unusedSimpArgs false
set_option linter.unusedVariables false
namespace Go.Proofs.Ytbbaplcfhofeeaa
open Go.RowKit
set_option maxHeartbeats 1000000

structure Sp where
  root : Int
  pins : List (Int × Int)
def upS (sp : Nat → Sp) (d : Nat) (s : Sp) : Nat → Sp := fun e => if e = d then s else sp e
theorem upS_same (sp : Nat → Sp) (d : Nat) (s : Sp) : upS sp d s d = s := by simp [upS]
theorem upS_other (sp : Nat → Sp) (d e : Nat) (s : Sp) (h : e ≠ d) : upS sp d s e = sp e := by simp [upS, h]
def xtop (B : Nat) (sp : Nat → Sp) (pv : Nat → Value) (k : Nat) : Value := if k = 0 then .pointer (some ⟨B, 0, none⟩) else if k % 2 = 1 then .int .i64 (sp (k / 2)).root else pv (k / 2 - 1)
/-- block X holds the page tables: machine in block B, each domain's root, its pins -/
structure PS (w : World) (B X : Nat) (M : Mach) (sp : Nat → Sp) (pv : Nat → Value) : Prop where
  m : PM w B M
  top : Row w X 76 17 (xtop B sp pv)
  pin : ∀ d, d < 8 → PinsAt w (pv d) (sp d).pins
  sep : ∀ d e g, d < 8 → e < 8 → d ≠ e → (pv d).ownBlock = some g → (pv e).ownBlock ≠ some g
def xfoot (B X : Nat) (pv : Nat → Value) (k : Nat) : Prop := k = B ∨ k = X ∨ ∃ d, d < 8 ∧ (pv d).ownBlock = some k
section
variable {w w' : World} {B X : Nat} {M M' : Mach} {sp : Nat → Sp} {pv : Nat → Value}
theorem PS.c0 (h : PS w B X M sp pv) : w.cell? ⟨X, 0, none⟩ = some (.pointer (some ⟨B, 0, none⟩)) := h.top.cell (k := 0) (by omega)
theorem PS.root (h : PS w B X M sp pv) {d : Nat} (hd : d < 8) : w.cell? ⟨X, 1 + d * 2, none⟩ = some (.int .i64 (sp d).root) := by
  rw [h.top.cell (k := 1 + d * 2) (by omega)]
  unfold xtop
  rw [if_neg (by omega), if_pos (by omega), show (1 + d * 2) / 2 = d by omega]
theorem PS.pins (h : PS w B X M sp pv) {d : Nat} (hd : d < 8) : w.cell? ⟨X, 1 + d * 2 + 1, none⟩ = some (pv d) := by
  rw [h.top.cell (k := 1 + d * 2 + 1) (by omega)]
  unfold xtop
  rw [if_neg (by omega), if_neg (by omega), show (1 + d * 2 + 1) / 2 - 1 = d by omega]
theorem PS.XB (h : PS w B X M sp pv) : X ≠ B := (h.top.pm_ne h.m (by decide)).symm
theorem PinsAt.row {v : Value} {l : List (Int × Int)} (h : PinsAt w v l) {g : Nat} (hg : v.ownBlock = some g) : ∃ N Y, Row w g 154 N Y := by
  rcases h with ⟨rfl, _⟩ | ⟨g', c, rfl, h1, h2, h3⟩
  · simp [Value.ownBlock] at hg
  · obtain rfl : g' = g := by simpa [Value.ownBlock] using hg
    exact ⟨_, _, h2⟩
theorem PS.pinX (h : PS w B X M sp pv) {d : Nat} (hd : d < 8) : (pv d).ownBlock ≠ some X := fun e => by
  obtain ⟨N, Y, hr⟩ := (h.pin d hd).row e
  exact Row.type_ne hr h.top (by decide) rfl
theorem PS.pinB (h : PS w B X M sp pv) {d : Nat} (hd : d < 8) : (pv d).ownBlock ≠ some B := fun e => by
  obtain ⟨N, Y, hr⟩ := (h.pin d hd).row e
  exact Row.pm_ne hr h.m (by decide) rfl
theorem PS.lt (h : PS w B X M sp pv) {k : Nat} (hk : xfoot B X pv k) : k < w.heap.size := by
  rcases hk with rfl | rfl | ⟨d, hd, e⟩
  · exact h.m.lt
  · exact h.top.lt
  · exact (h.pin d hd).lt e
theorem PS.xm (h : PS w B X M sp pv) : XM w w B X M := ⟨h.m, h.c0, World.grownBy.refl _ _, h.XB⟩
theorem PS.core (h : PS w B X M sp pv) (hx : XM w w' B X M') : PS w' B X M' sp pv :=
  ⟨hx.m, h.top.grown hx.g (by have := h.XB; simpa using this), fun d hd => (h.pin d hd).grown hx.g (fun g e e' => h.pinB hd (by rw [e, e'])), h.sep⟩
theorem PS.chg {S : Nat → Prop} (h : PS w B X M sp pv) (hc : Chg S w w') (hS : ∀ k, xfoot B X pv k → ¬ S k) : PS w' B X M sp pv :=
  ⟨h.m.chg hc (hS _ (.inl rfl)), h.top.chg hc (hS _ (.inr (.inl rfl))), fun d hd => (h.pin d hd).chg hc fun g e => hS _ (.inr (.inr ⟨d, hd, e⟩)), h.sep⟩
theorem PS.grown (h : PS w B X M sp pv) (hg : w.grownBy w' none) : PS w' B X M sp pv := h.chg (S := fun _ => False) (Chg.of0 hg) fun _ _ e => e
/-- a root is set -/
theorem PS.setRoot (h : PS w B X M sp pv) {d : Nat} (hd : d < 8) (r : Int) : PS (w.setCell ⟨X, 1 + d * 2, none⟩ (.int .i64 r)) B X M (upS sp d { sp d with root := r }) pv := by
  have hg := grownBy_setCell w X (1 + d * 2) none (.int .i64 r)
  refine ⟨h.m.grown hg (by have := h.XB; simp; omega), h.top.set (k := 1 + d * 2) ?_ (fun j hj hne => ?_), fun e he => ?_, h.sep⟩
  · unfold xtop
    rw [if_neg (by omega), if_pos (by omega), show (1 + d * 2) / 2 = d by omega, upS_same]
  · unfold xtop
    by_cases h0 : j = 0
    · simp [h0]
    rw [if_neg h0, if_neg h0]
    by_cases h1 : j % 2 = 1
    · rw [if_pos h1, if_pos h1, upS_other _ _ _ _ (by omega)]
    · rw [if_neg h1, if_neg h1]
  · have := (h.pin e he).grown hg (fun g e' e2 => h.pinX he (by rw [e', e2]))
    by_cases ed : e = d
    · subst ed; rw [upS_same]; exact this
    · rw [upS_other _ _ _ _ ed]; exact this
/-- pins are laid anew -/
theorem PS.setPins (h : PS w B X M sp pv) {d : Nat} (hd : d < 8) {v : Value} {l : List (Int × Int)} (hp : PinsAt w' v l) (hg : w.grownBy w' (pv d).ownBlock) (hn : v.ownBlock = (pv d).ownBlock ∨ ∀ g, v.ownBlock = some g → w.heap.size ≤ g) :
    PS (w'.setCell ⟨X, 1 + d * 2 + 1, none⟩ v) B X M (upS sp d { sp d with pins := l }) (fun e => if e = d then v else pv e) := by
  have htop := h.top.grown hg (fun e => h.pinX hd e.symm)
  have hm := h.m.grown hg (fun e => h.pinB hd e.symm)
  have hX : v.ownBlock ≠ some X := fun e => by
    obtain ⟨N, Y, hr⟩ := hp.row e
    exact Row.type_ne hr htop (by decide) rfl
  have hs := grownBy_setCell w' X (1 + d * 2 + 1) none v
  have hXB := h.XB
  refine ⟨hm.grown hs (by simp; omega), htop.set (k := 1 + d * 2 + 1) ?_ (fun j hj hne => ?_), fun e he => ?_, fun a b g ha hb hab e1 e2 => ?_⟩
  · unfold xtop
    rw [if_neg (by omega), if_neg (by omega)]
    simp only []
    rw [if_pos (by omega)]
  · unfold xtop
    by_cases h0 : j = 0
    · simp [h0]
    rw [if_neg h0, if_neg h0]
    by_cases h1 : j % 2 = 1
    · rw [if_pos h1, if_pos h1]
      by_cases ed : j / 2 = d
      · rw [ed, upS_same]
      · rw [upS_other _ _ _ _ ed]
    · rw [if_neg h1, if_neg h1]
      simp only []
      rw [if_neg (by omega)]
  · by_cases ed : e = d
    · subst ed
      rw [upS_same, if_pos rfl]
      exact hp.grown hs fun g e' e2 => hX (by rw [e', e2])
    · rw [upS_other _ _ _ _ ed, if_neg ed]
      refine ((h.pin e he).grown hg fun g e1 e2 => ?_).grown hs fun g e' e2 => h.pinX he (by rw [e', e2])
      exact h.sep e d g he hd ed e1 e2.symm
  · have key : ∀ x, x < 8 → x ≠ d → v.ownBlock = some g → (pv x).ownBlock ≠ some g := fun x hx hxd ev ex => by
      rcases hn with hn | hn
      · rw [hn] at ev; exact h.sep x d g hx hd hxd ex ev
      · have := hn g ev; have := (h.pin x hx).lt ex; omega
    by_cases ead : a = d
    · subst ead
      rw [if_pos rfl] at e1; rw [if_neg (fun e => hab e.symm)] at e2
      exact key b hb (fun e => hab e.symm) e1 e2
    · rw [if_neg ead] at e1
      by_cases ebd : b = d
      · subst ebd; rw [if_pos rfl] at e2; exact key a ha ead e2 e1
      · rw [if_neg ebd] at e2; exact h.sep a b g ha hb hab e1 e2
end
/-- what a call leaves -/
def XL (w w' : World) (B X : Nat) (pv : Nat → Value) (M' : Mach) (sp' : Nat → Sp) : Prop :=
  ∃ pv', PS w' B X M' sp' pv' ∧ Chg (xfoot B X pv) w w' ∧ ∀ k, xfoot B X pv' k → xfoot B X pv k ∨ w.heap.size ≤ k
theorem XL.same {w w' : World} {B X : Nat} {pv : Nat → Value} {M : Mach} {sp : Nat → Sp} (h : PS w B X M sp pv) (hg : w.grownBy w' none) : XL w w' B X pv M sp := ⟨pv, h.grown hg, Chg.of0 hg, fun _ h => .inl h⟩
theorem XL.of {w w' : World} {B X : Nat} {pv : Nat → Value} {M M' : Mach} {sp : Nat → Sp} (h : PS w B X M sp pv) (hx : XM w w' B X M') : XL w w' B X pv M' sp := ⟨pv, h.core hx, Chg.of hx.g (fun j e => .inl (.inl (Option.some.inj e).symm)), fun _ h => .inl h⟩
theorem XL.trans {w w1 w2 : World} {B X : Nat} {pv pv1 : Nat → Value} {M2 : Mach} {sp2 : Nat → Sp} (hc : Chg (xfoot B X pv) w w1) (hf : ∀ k, xfoot B X pv1 k → xfoot B X pv k ∨ w.heap.size ≤ k) (h2 : XL w1 w2 B X pv1 M2 sp2) : XL w w2 B X pv M2 sp2 := by
  obtain ⟨pv2, h, c, f⟩ := h2
  exact ⟨pv2, h, hc.trans c hf, fun k hk => (f k hk).elim (hf k) fun e => .inr (Nat.le_trans hc.size e)⟩

theorem xmade_yes (X B : Nat) (w : World) (h : w.cell? ⟨X, 0, none⟩ = some (.pointer (some ⟨B, 0, none⟩))) : Calls Try.prog 33 #[.pointer (some ⟨X, 0, none⟩)] w fun e w' => e = .returned (.bool true) ∧ w = w' := by
  go_enter Try.func33, Try.ntmps33
  go_wp2
  go_ret
  exact ⟨rfl, rfl⟩
theorem xisDomain (d : Int) (w : World) : Calls Try.prog 34 #[.int .i64 d] w fun e w' => e = .returned (.bool (domOk d)) ∧ w = w' := by
  unfold domOk
  by_cases h0 : 0 ≤ d
  · by_cases h8 : d < 8
    · go_enter Try.func34, Try.ntmps34
      go_wp2
      go_ret
      exact ⟨by simp [h0, h8], rfl⟩
    · have h8' : 8 ≤ d := by omega
      go_enter Try.func34, Try.ntmps34
      go_wp2
      go_ret
      exact ⟨by simp [h0, h8], rfl⟩
  · have h0' : d < 0 := by omega
    have hz : (decide (0 ≤ d) && decide (d < 8)) = false := by simp [h0]
    rw [hz]
    clear hz
    go_enter Try.func34, Try.ntmps34
    go_wp2
    go_ret
    exact ⟨rfl, rfl⟩
theorem xhas (X B : Nat) (i : Int) (w : World) (M : Mach) (h : w.cell? ⟨X, 0, none⟩ = some (.pointer (some ⟨B, 0, none⟩))) (hM : PM w B M) (hn : 1 ≤ M.n) : Calls Try.prog 47 #[.pointer (some ⟨X, 0, none⟩), .int .i64 i] w fun e w' => e = .returned (.bool (M.is i)) ∧ w = w' := by
  have HS := hid (Size_yes B M.n w hn hM.size)
  clear hM
  unfold Mach.is
  by_cases h0 : 0 ≤ i
  · by_cases h8 : i < M.n
    · go_enter Try.func47, Try.ntmps47
      go_wp2_with (go_at_call 24; refine HS.out.mono ?_; rintro e w' ⟨rfl, rfl⟩)
      go_ret
      exact ⟨by simp [h0, h8], rfl⟩
    · have h8' : M.n ≤ i := by omega
      go_enter Try.func47, Try.ntmps47
      go_wp2_with (go_at_call 24; refine HS.out.mono ?_; rintro e w' ⟨rfl, rfl⟩)
      go_ret
      exact ⟨by simp [h0, h8], rfl⟩
  · have h0' : i < 0 := by omega
    have hz : (decide (0 ≤ i) && decide (i < M.n)) = false := by simp [h0]
    rw [hz]
    clear hz
    go_enter Try.func47, Try.ntmps47
    go_wp2
    go_ret
    exact ⟨rfl, rfl⟩
end Go.Proofs.Ytbbaplcfhofeeaa

/-
  Package mmu: Root, Pins.
-/
set_option linter.unusedSimpArgs false
set_option linter.unusedVariables false
namespace Go.Proofs.Ytbbaplcfhofeeaa
open Go.RowKit
set_option maxHeartbeats 1000000

theorem domOk_nat {d : Int} (h : domOk d = true) : ∃ k : Nat, d = k ∧ k < 8 := by
  have : 0 ≤ d ∧ d < 8 := by simpa [domOk] using h
  exact ⟨d.toNat, by omega, by omega⟩
theorem domOk_cast {k : Nat} (h : k < 8) : domOk (k : Int) = true := by simp [domOk]; omega
theorem xRoot_yes (X B d : Nat) (w : World) (M : Mach) (sp : Nat → Sp) (pv : Nat → Value) (hd : d < 8) (h : PS w B X M sp pv) : Calls Try.prog 20 #[.pointer (some ⟨X, 0, none⟩), .int .i64 d] w fun e w' => e = .returned (.int .i64 (sp d).root) ∧ w = w' := by
  have hc := h.c0
  have hr := h.root hd
  have hd0 : (0 : Int) ≤ d := by omega
  have hd8 : (d : Int) < 8 := by omega
  have hok := domOk_cast hd
  clear h
  go_enter Try.func20, Try.ntmps20
  go_wp2_with (first
    | (go_at_call 33; refine (xmade_yes _ B _ hc).mono ?_; rintro e w' ⟨rfl, rfl⟩)
    | (go_at_call 34; refine (xisDomain _ _).mono ?_; rintro e w' ⟨rfl, rfl⟩))
  go_ret
  exact ⟨rfl, rfl⟩
theorem xRoot_no (X B : Nat) (d : Int) (w : World) (M : Mach) (sp : Nat → Sp) (pv : Nat → Value) (hd : domOk d = false) (h : PS w B X M sp pv) : Calls Try.prog 20 #[.pointer (some ⟨X, 0, none⟩), .int .i64 d] w fun e w' => e = .returned (.int .i64 (-1)) ∧ w = w' := by
  have hc := h.c0
  clear h
  go_enter Try.func20, Try.ntmps20
  go_wp2_with (first
    | (go_at_call 33; refine (xmade_yes _ B _ hc).mono ?_; rintro e w' ⟨rfl, rfl⟩)
    | (go_at_call 34; refine (xisDomain _ _).mono ?_; rintro e w' ⟨rfl, rfl⟩))
  go_ret
  exact ⟨rfl, rfl⟩
end Go.Proofs.Ytbbaplcfhofeeaa

/-
  Package mmu: Pin.
-/
set_option linter.unusedSimpArgs false
set_option linter.unusedVariables false
namespace Go.Proofs.Ytbbaplcfhofeeaa
open Go.RowKit
set_option maxHeartbeats 1000000

def pinV (M : Mach) (sp : Nat → Sp) (o i lv : Int) : Int × Mach × (Nat → Sp) :=
  if domOk o = false ∨ ¬ (lv = 1 ∨ lv = 2) ∨ M.is i = false then (1, M, sp) else
  if 0 ≤ pinAt (sp o.toNat).pins i then (8, M, sp) else
  if (refT lv M o i).1 ≠ 0 then ((refT lv M o i).1, M, sp) else (0, (refT lv M o i).2, upS sp o.toNat { sp o.toNat with pins := (sp o.toNat).pins ++ [(i, lv)] })
theorem wpList_pins {ops : Array Oper} {rest : List Oper} {o : Oper} {a : Act} {w : World} {Q : Exit → Act → World → Prop} (hgd : o.guard = none) (s x : Operand) (ho : o.op = .call { callee := .builtin .append, args := #[s, x], argTypes := #[71, 71] })
    (v : Value) (l : List (Int × Int)) (hs : a.eval s = v) (h : PinsAt w v l) (ad : Addr) (c : Nat) (l2 : List (Int × Int)) (hx : a.eval x = .slice (some ad) l2.length c) (h2 : l2 ≠ []) (hnews : ∀ j u, (pinC l2)[j]? = some u → w.cell? (ad.add j) = some u) (hb : l.length + l2.length ≤ 8000000000000)
    (hK : ∀ v' w', PinsAt w' v' (l ++ l2) → w.grownBy w' v.ownBlock → (v'.ownBlock = v.ownBlock ∨ ∀ g, v'.ownBlock = some g → w.heap.size ≤ g) → wpList Try.prog ops Q rest (a.put o.dst v') w') : wpList Try.prog ops Q (o :: rest) a w := by
  obtain ⟨v', w', hr, h1, h2, h3⟩ := run_pins_append w o.type v l l2 h ad c h2 hnews hb
  refine wpList_plain hgd fun K hK' => ?_
  unfold Oper.wp execOp
  simp only [ho, resolve, invoke, builtin, Sem.run_bind, Sem.run_pure, Result.andThen_ok, List.map_toArray, List.map_cons, List.map_nil, hs, hx, hr]
  exact hK' _ _ (hK v' w' h1 h2 h3)
theorem pin_new (w : World) (i lv : Int) : ∀ j u, (pinC [(i, lv)])[j]? = some u → (w.alloc (.cells #[.int .i64 i, .int .i64 lv] 154)).cell? ((⟨w.heap.size, 0, none⟩ : Addr).add j) = some u := by
  have hr : Row (w.alloc (.cells #[.int .i64 i, .int .i64 lv] 154)) w.heap.size 154 ([(i, lv)].length * 2) (fun k => (pinC [(i, lv)]).getD k undef) := (row2 w 154 (.int .i64 i) (.int .i64 lv)).congr fun k hk => rfl
  exact row_news hr
theorem XL.pin {w w4 w5 : World} {B X : Nat} {pv : Nat → Value} {M M' : Mach} {sp : Nat → Sp} {d : Nat} {v : Value} {l : List (Int × Int)} (h : PS w B X M sp pv) (hx : XM w w4 B X M') (hd : d < 8) (hp : PinsAt w5 v l) (hg : w4.grownBy w5 (pv d).ownBlock) (hn : v.ownBlock = (pv d).ownBlock ∨ ∀ g, v.ownBlock = some g → w4.heap.size ≤ g) :
    XL w (w5.setCell ⟨X, 1 + d * 2 + 1, none⟩ v) B X pv M' (upS sp d { sp d with pins := l }) := by
  have h4 := h.core hx
  have c1 : Chg (xfoot B X pv) w w4 := Chg.of hx.g fun j e => .inl (.inl (Option.some.inj e).symm)
  have c2 : Chg (xfoot B X pv) w4 w5 := Chg.of hg fun j e => .inl (.inr (.inr ⟨d, hd, e⟩))
  have c3 : Chg (xfoot B X pv) w5 (w5.setCell ⟨X, 1 + d * 2 + 1, none⟩ v) := Chg.of (grownBy_setCell w5 X (1 + d * 2 + 1) none v) fun j e => .inl (.inr (.inl (Option.some.inj e).symm))
  refine ⟨_, h4.setPins hd hp hg hn, (c1.trans c2 fun _ h => .inl h).trans c3 fun _ h => .inl h, fun k hk => ?_⟩
  rcases hk with e | e | ⟨q, hq, e⟩
  · exact .inl (.inl e)
  · exact .inl (.inr (.inl e))
  · simp only at e
    by_cases eq : q = d
    · subst eq
      rw [if_pos rfl] at e
      rcases hn with hn | hn
      · rw [hn] at e; exact .inl (.inr (.inr ⟨q, hq, e⟩))
      · exact .inr (Nat.le_trans hx.g.size (hn k e))
    · rw [if_neg eq] at e
      exact .inl (.inr (.inr ⟨q, hq, e⟩))
/-- a level and how it is told -/
def LvOf (lv : Int) (K fn : Nat) : Prop := ∀ wd : World, Calls Try.prog 64 #[.int .i64 lv] wd fun x w' => x = .returned (.tuple #[.agg #[.int .i64 K, .func (.func fn) #[] #[]], .bool true]) ∧ wd.grownBy w' none
theorem lvOf1 : LvOf 1 2 69 := levelOf_1
theorem lvOf2 : LvOf 2 3 70 := levelOf_2
theorem xm2 {w0 w : World} {B X : Nat} {M : Mach} (h : XM w0 w B X M) (a b : Value) (t : TypeId) : XM w0 (w.alloc (.cells #[a, b] t)) B X M := h.more (World.grownBy_alloc w _ none)
end Go.Proofs.Ytbbaplcfhofeeaa

/-
  Package mmu: Unpin.
-/
set_option linter.unusedSimpArgs false
set_option linter.unusedVariables false
namespace Go.Proofs.Ytbbaplcfhofeeaa
open Go.RowKit
set_option maxHeartbeats 1000000

/-- a reference as a table goes, by its level -/
theorem xunref {B X : Nat} {w : World} {M : Mach} {T : Int} {F : Cnt} {lv : Int} {j : Nat} (hl : lv = 1 ∨ lv = 2) (hF : Inv2 M (F.add j (lv.toNat + 1))) (hj : (j : Int) < M.n) (h : XM w w B X M) (hok : M.ok T) (hT : T < 4611686018427387904) :
    Calls Try.prog 49 #[.pointer (some ⟨X, 0, none⟩), .int .i64 j, .int .i64 (lv + 1)] w fun e w' => e = .returned (.tuple #[]) ∧ XM w w' B X (unrefT lv M j) := by
  unfold unrefT
  rcases hl with rfl | rfl
  · rw [if_pos rfl]
    refine xdr1 h hok hT j (CHolds.put_ok0 hF.inv.holds ?_ hj (by decide))
    rw [full1_2]
    unfold full
    have : 0 < (F.add j ((1 : Int).toNat + 1)) j 2 := Cnt.add_pos F j 2
    omega
  · rw [if_neg (by decide)]
    exact xdr2 hF hj h hok hT
theorem lvOf_any {lv : Int} (hl : lv = 1 ∨ lv = 2) : ∃ K fn : Nat, LvOf lv K fn ∧ (K : Int) = lv + 1 := by
  rcases hl with rfl | rfl
  · exact ⟨2, _, lvOf1, rfl⟩
  · exact ⟨3, _, lvOf2, rfl⟩
theorem pinC_take (l : List (Int × Int)) (i : Nat) (hi : i ≤ l.length) (j : Nat) (u : Value) (h : (pinC (l.take i))[j]? = some u) : (pinC l)[j]? = some u := by
  have : pinC l = pinC (l.take i) ++ pinC (l.drop i) := by rw [← pinC_app, List.take_append_drop]
  rw [this, List.getElem?_append_left (List.getElem?_eq_some_iff.1 h).1]
  exact h
theorem pinC_drop (l : List (Int × Int)) (i : Nat) (hi : i ≤ l.length) (j : Nat) (u : Value) (h : (pinC (l.drop i))[j]? = some u) : (pinC l)[i * 2 + j]? = some u := by
  have : pinC l = pinC (l.take i) ++ pinC (l.drop i) := by rw [← pinC_app, List.take_append_drop]
  have hlen : (pinC (l.take i)).length = i * 2 := by rw [pinC_len, List.length_take]; congr 1; omega
  rw [this, List.getElem?_append_right (by omega), hlen, show i * 2 + j - i * 2 = j by omega]
  exact h
theorem setCells_nil (w : World) (b o : Nat) : w.setCells b o [] = w := by simp [World.setCells]
theorem run_pins_cut (w : World) (ty : TypeId) (g cap : Nat) (l : List (Int × Int)) (i : Nat) (hi : i < l.length) (hrow : Row w g 154 (l.length * 2) (fun k => (pinC l).getD k undef)) (m c : Nat) (hm : m = l.length - (i + 1)) (ad : Addr) (had : m ≠ 0 → ad = ⟨g, (i + 1) * 2, none⟩) (hl : l.length ≤ 1000000) :
    ∃ p' c' w', (Builtin.append_ #[71, 71] ty #[.slice (some ⟨g, 0, none⟩) i i, .slice (some ad) m c]).run Try.prog w = .ok (.slice p' (l.length - 1) c') w' ∧ PinsAt w' (.slice p' (l.length - 1) c') (l.eraseIdx i) ∧ w.grownBy w' none ∧ (p' = some ⟨g, 0, none⟩ ∨ ∀ q, (Value.slice p' (l.length - 1) c').ownBlock = some q → w.heap.size ≤ q) := by
  obtain ⟨i0, hi0, hz0, hz1, hz2⟩ := info_parts info_pin
  have er : l.eraseIdx i = l.take i ++ l.drop (i + 1) := List.eraseIdx_eq_take_drop_succ ..
  have hlt : (l.take i).length = i := by rw [List.length_take]; omega
  have hld : (l.drop (i + 1)).length = m := by rw [List.length_drop]; omega
  have hlen : (l.eraseIdx i).length = l.length - 1 := List.length_eraseIdx_of_lt hi
  have hnews := row_news hrow
  have hadd : ∀ o j : Nat, (⟨g, o, none⟩ : Addr).add j = ⟨g, o + j, none⟩ := fun o j => by cases j <;> rfl
  by_cases h0 : m = 0
  · subst h0
    have hd0 : l.drop (i + 1) = [] := List.eq_nil_of_length_eq_zero hld
    have hr := run_append_room_cells (P := Try.prog) w 71 ty 154 i0 Try.underlying71 hi0 g 0 i i ad 0 c [] (by simp) (by simp) (by simp) (by omega) (by simp) (by simp)
    rw [setCells_nil] at hr
    have ei : i + 0 = l.length - 1 := by omega
    rw [ei] at hr
    refine ⟨_, _, _, hr, ?_, World.grownBy.refl _ _, .inl rfl⟩
    have e2 : l.eraseIdx i = l.take i := by rw [er, hd0, List.append_nil]
    refine .inr ⟨g, i, by rw [hlen], by rw [hlen]; omega, ?_, .inl (by rw [hlen]; omega)⟩
    rw [e2]
    obtain ⟨cur, hc, hn, hk⟩ := hrow
    refine ⟨cur, hc, by rw [hlt]; omega, fun k hkk => ?_⟩
    rw [hlt] at hkk
    rw [hk k (by omega)]
    have : k < (pinC (l.take i)).length := by rw [pinC_len, hlt]; exact hkk
    have := pinC_take l i (by omega) k _ (List.getElem?_eq_getElem this)
    simp [List.getD, this, List.getElem?_eq_getElem ‹k < (pinC (l.take i)).length›]
  · obtain rfl := had h0
    obtain ⟨v', w', hr, ho, hg⟩ := run_append_arg_grows (P := Try.prog) w 71 ty 154 i0 (.agg #[.int .i64 0, .int .i64 0]) 2 16 Try.underlying71 hi0 hz0 hz1 hz2 rfl (by decide) ⟨g, 0, none⟩ i i (pinC (l.take i)) (by rw [pinC_len, hlt])
      (fun j u hj => by have := hnews j u (pinC_take l i (by omega) j u hj); exact this) ⟨g, (i + 1) * 2, none⟩ m c (pinC (l.drop (i + 1))) (by rw [pinC_len, hld])
      (fun j u hj => by have := hnews _ u (pinC_drop l (i + 1) (by omega) j u hj); rw [hadd] at this ⊢; rwa [Nat.zero_add] at this) (by omega) (by unfold maxLen; omega) (by omega)
    rw [← pinC_app, ← er] at ho
    have ho' : w'.ownsRow w.heap.size 154 2 v' (l.eraseIdx i).length (pinC (l.eraseIdx i)) := by
      rw [hlen]; have e : i + m = l.length - 1 := by omega
      rwa [e] at ho
    have hp := PinsAt.of_own ho'
    obtain ⟨p', c', e⟩ := hp.slice
    rw [hlen] at e
    subst e
    exact ⟨p', c', w', hr, hp, hg, .inr (own_new ho')⟩
theorem step_pins_cut {ops : Array Oper} {o : Oper} {a : Act} {w : World} {K : Act → World → Prop} {Q : Exit → Act → World → Prop} {E : Prop} (hgd : o.guard = none) (s x : Operand)
    (ho : o.op = .call { callee := .builtin .append, args := #[s, x], argTypes := #[71, 71] }) (g : Nat) (l : List (Int × Int)) (i : Nat) (hi : i < l.length) (hrow : Row w g 154 (l.length * 2) (fun k => (pinC l).getD k undef)) (m c : Nat) (hm : m = l.length - (i + 1)) (ad : Addr) (had : m ≠ 0 → ad = ⟨g, (i + 1) * 2, none⟩) (hl : l.length ≤ 1000000)
    (hs : a.eval s = .slice (some ⟨g, 0, none⟩) i i) (hx : a.eval x = .slice (some ad) m c)
    (h : ∀ p' c' w', PinsAt w' (.slice p' (l.length - 1) c') (l.eraseIdx i) → w.grownBy w' none → (p' = some ⟨g, 0, none⟩ ∨ ∀ q, (Value.slice p' (l.length - 1) c').ownBlock = some q → w.heap.size ≤ q) → K (a.put o.dst (.slice p' (l.length - 1) c')) w') :
    if Region.wanted o (yielded ops a.tmps) = true then Oper.wp Try.prog o a w K Q else E := by
  have hw : Region.wanted o (yielded ops a.tmps) = true := by simp [Region.wanted, hgd]
  rw [if_pos hw]
  obtain ⟨p', c', w', hr, h1, h2, h3⟩ := run_pins_cut w o.type g c l i hi hrow m c hm ad had hl
  unfold Oper.wp execOp
  simp only [ho, resolve, invoke, builtin, Sem.run_bind, Sem.run_pure, Result.andThen_ok, List.map_toArray, List.map_cons, List.map_nil, hs, hx, hr]
  exact h p' c' w' h1 h2 h3
def unpinV (M : Mach) (sp : Nat → Sp) (o i : Int) : Int × Mach × (Nat → Sp) :=
  if domOk o = false then (1, M, sp) else
  match (sp o.toNat).pins[pinIx (sp o.toNat).pins i]? with
  | none => (6, M, sp)
  | some p => (0, unrefT p.2 M p.1.toNat, upS sp o.toNat { sp o.toNat with pins := (sp o.toNat).pins.eraseIdx (pinIx (sp o.toNat).pins i) })
end Go.Proofs.Ytbbaplcfhofeeaa

/-
  Package mmu: Unpin whole; Base; Drop.
-/
set_option linter.unusedSimpArgs false
set_option linter.unusedVariables false
namespace Go.Proofs.Ytbbaplcfhofeeaa
open Go.RowKit
set_option maxHeartbeats 1000000

theorem pinIx_at {l : List (Int × Int)} {i : Int} (h : pinIx l i < l.length) : (l[pinIx l i]).1 = i := by
  have h' : l.findIdx (fun p : Int × Int => p.1 == i) < l.length := h
  have := List.findIdx_getElem (w := h')
  simpa [pinIx] using this
/-- the pins of a state are of frames that are there, of a level that there is -/
def PinsOk (M : Mach) (sp : Nat → Sp) : Prop := ∀ d, d < 8 → (sp d).pins.length ≤ 1000000 ∧ ∀ p ∈ (sp d).pins, M.is p.1 = true ∧ (p.2 = 1 ∨ p.2 = 2)
def dropRoot (M : Mach) (r : Int) : Mach := if r = -1 then M else untabG 2 3 dp2 M r.toNat
def baseV (M : Mach) (sp : Nat → Sp) (o i : Int) : Int × Mach × (Nat → Sp) :=
  if domOk o = false ∨ (i ≠ -1 ∧ M.is i = false) then (1, M, sp) else
  if i = -1 then (0, dropRoot M (sp o.toNat).root, upS sp o.toNat { sp o.toNat with root := -1 }) else
  if (tabG 3 take2 M o i).1 ≠ 0 then ((tabG 3 take2 M o i).1, M, sp) else (0, dropRoot (tabG 3 take2 M o i).2 (sp o.toNat).root, upS sp o.toNat { sp o.toNat with root := i })
theorem xBase_dom (X B : Nat) (o i : Int) (w : World) (M : Mach) (sp : Nat → Sp) (pv : Nat → Value) (h : PS w B X M sp pv) (hd : domOk o = false) :
    Calls Try.prog 32 #[.pointer (some ⟨X, 0, none⟩), .int .i64 o, .int .i64 i] w fun e w' => e = .returned (.int .i64 1) ∧ XL w w' B X pv M sp := by
  have HP := hid h
  have hc := h.c0
  clear h
  go_enter Try.func32, Try.ntmps32
  go_wp2_with (first
    | (go_at_call 33; refine (xmade_yes _ B _ hc).mono ?_; rintro e w1 ⟨rfl, rfl⟩)
    | (go_at_call 34; refine (xisDomain _ _).mono ?_; rintro e w1 ⟨rfl, rfl⟩))
  go_ret
  exact ⟨rfl, XL.same HP.out (World.grownBy.refl _ _)⟩
/-- a root is set behind the machine's change -/
theorem XL.root {w w5 : World} {B X : Nat} {pv : Nat → Value} {M M' : Mach} {sp : Nat → Sp} {d : Nat} (h : PS w B X M sp pv) (hx : XM w w5 B X M') (hd : d < 8) (r : Int) : XL w (w5.setCell ⟨X, 1 + d * 2, none⟩ (.int .i64 r)) B X pv M' (upS sp d { sp d with root := r }) :=
  ⟨pv, (h.core hx).setRoot hd r, (Chg.of hx.g (fun j e => .inl (.inl (Option.some.inj e).symm)) : Chg (xfoot B X pv) w w5).trans (Chg.of (S := xfoot B X pv) (grownBy_setCell w5 X (1 + d * 2) none _) fun j e => .inl (.inr (.inl (Option.some.inj e).symm))) fun _ h => .inl h, fun _ h => .inl h⟩
set_option maxRecDepth 100000 in
theorem xBase_none (X B d : Nat) (w : World) (M M' : Mach) (sp : Nat → Sp) (pv : Nat → Value) (h : PS w B X M sp pv) (hd : d < 8) (hM : (sp d).root = -1 → M' = M)
    (hdr : (sp d).root ≠ -1 → ∀ W, XM W W B X M → Calls Try.prog 49 #[.pointer (some ⟨X, 0, none⟩), .int .i64 (sp d).root, .int .i64 3] W fun e w' => e = .returned (.tuple #[]) ∧ XM W w' B X M') :
    Calls Try.prog 32 #[.pointer (some ⟨X, 0, none⟩), .int .i64 d, .int .i64 (-1)] w fun e w' => e = .returned (.int .i64 0) ∧ XL w w' B X pv M' (upS sp d { sp d with root := -1 }) := by
  have HP := hid h
  have hc := h.c0
  have hd0 : (0 : Int) ≤ d := by omega
  have hd8 : (d : Int) < 8 := by omega
  have hdk := domOk_cast hd
  have r0 := h.root hd
  have r1 := h.top.frozen (1 + d * 2)
  generalize hr : (sp d).root = r at *
  by_cases h1 : r = -1
  · obtain rfl := hM h1
    subst h1
    clear h hdr hM
    go_enter Try.func32, Try.ntmps32
    go_wp2_with (first
      | (go_at_call 33; refine (xmade_yes _ B _ hc).mono ?_; rintro e w1 ⟨rfl, rfl⟩)
      | (go_at_call 34; refine (xisDomain _ _).mono ?_; rintro e w1 ⟨rfl, rfl⟩))
    go_ret
    exact ⟨rfl, XL.root HP.out HP.out.xm hd (-1)⟩
  · have h1b : (r == -1) = false := by simp [h1]
    have h1n : (r != -1) = true := by simp [h1]
    have HD := hid (hdr h1)
    clear h hdr hM r1
    go_enter Try.func32, Try.ntmps32
    go_wp2_with (first
      | (go_at_call 33; refine (xmade_yes _ B _ hc).mono ?_; rintro e w1 ⟨rfl, rfl⟩)
      | (go_at_call 34; refine (xisDomain _ _).mono ?_; rintro e w1 ⟨rfl, rfl⟩)
      | (go_at_call 49; refine (HD.out _ HP.out.xm).mono ?_; rintro e w5 ⟨rfl, h5⟩; have H5 := hid (h5); have HP5 := hid (HP.out.core h5); have z0 := HP5.out.root hd; have z1 := HP5.out.top.frozen (1 + d * 2); clear h5))
    go_ret
    exact ⟨rfl, XL.root HP.out H5.out hd (-1)⟩
set_option maxRecDepth 100000 in
theorem xBase_some (X B d : Nat) (i : Int) (w : World) (M M' M'' : Mach) (T : Int) (c : Int) (sp : Nat → Sp) (pv : Nat → Value) (h : PS w B X M sp pv) (hd : d < 8) (hok : M.ok T) (hin : i ≠ -1) (hi : M.is i = true) (hcM : c ≠ 0 → M' = M)
    (ht : ∀ W, XM W W B X M → Calls Try.prog 48 #[.pointer (some ⟨X, 0, none⟩), .int .i64 d, .int .i64 i, .int .i64 3] W fun e w' => e = .returned (.int .i64 c) ∧ XM W w' B X M')
    (hM : (sp d).root = -1 → M'' = M') (hdr : c = 0 → (sp d).root ≠ -1 → ∀ W, XM W W B X M' → Calls Try.prog 49 #[.pointer (some ⟨X, 0, none⟩), .int .i64 (sp d).root, .int .i64 3] W fun e w' => e = .returned (.tuple #[]) ∧ XM W w' B X M'') :
    Calls Try.prog 32 #[.pointer (some ⟨X, 0, none⟩), .int .i64 d, .int .i64 i] w fun e w' => e = .returned (.int .i64 c) ∧ (c ≠ 0 → XL w w' B X pv M sp) ∧ (c = 0 → XL w w' B X pv M'' (upS sp d { sp d with root := i })) := by
  have HP := hid h
  have hc := h.c0
  have hd0 : (0 : Int) ≤ d := by omega
  have hd8 : (d : Int) < 8 := by omega
  have hdk := domOk_cast hd
  have HT := hid ht
  have HN := hid hok.n1
  have hib : (i == -1) = false := by simp [hin]
  have hinb : (i != -1) = true := by simp [hin]
  by_cases hz : c = 0
  · subst hz
    generalize hr : (sp d).root = r at *
    by_cases h1 : r = -1
    · obtain rfl := hM h1
      subst h1
      clear h ht hdr hM hcM hok
      go_enter Try.func32, Try.ntmps32
      go_wp2_with (first
        | (go_at_call 33; refine (xmade_yes _ B _ hc).mono ?_; rintro e w1 ⟨rfl, rfl⟩)
        | (go_at_call 34; refine (xisDomain _ _).mono ?_; rintro e w1 ⟨rfl, rfl⟩)
        | (go_at_call 47; refine (xhas _ B _ _ M HP.out.c0 HP.out.m HN.out).mono ?_; rintro e w1 ⟨rfl, rfl⟩; rw [hi])
        | (go_at_call 48; refine (HT.out _ HP.out.xm).mono ?_; rintro e w4 ⟨rfl, h4⟩; have H4 := hid h4; have HP4 := hid (HP.out.core h4); have r0 := HP4.out.root hd; rw [hr] at r0; have z1 := HP4.out.top.frozen (1 + d * 2); clear h4))
      go_ret
      exact ⟨rfl, fun e => absurd rfl e, fun _ => XL.root HP.out H4.out hd i⟩
    · have h1b : (r == -1) = false := by simp [h1]
      have h1n : (r != -1) = true := by simp [h1]
      have HD := hid (hdr rfl h1)
      clear h ht hdr hM hcM hok
      go_enter Try.func32, Try.ntmps32
      go_wp2_with (first
        | (go_at_call 33; refine (xmade_yes _ B _ hc).mono ?_; rintro e w1 ⟨rfl, rfl⟩)
        | (go_at_call 34; refine (xisDomain _ _).mono ?_; rintro e w1 ⟨rfl, rfl⟩)
        | (go_at_call 47; refine (xhas _ B _ _ M HP.out.c0 HP.out.m HN.out).mono ?_; rintro e w1 ⟨rfl, rfl⟩; rw [hi])
        | (go_at_call 48; refine (HT.out _ HP.out.xm).mono ?_; rintro e w4 ⟨rfl, h4⟩; have H4 := hid h4; have HP4 := hid (HP.out.core h4); have r0 := HP4.out.root hd; (try rw [hr] at r0); clear h4)
        | (go_at_call 49; refine (HD.out _ HP4.out.xm).mono ?_; rintro e w5 ⟨rfl, h5⟩; have H5 := hid (XM.step H4.out h5); have HP5 := hid (HP4.out.core h5); have z0 := HP5.out.root hd; have z1 := HP5.out.top.frozen (1 + d * 2); clear h5))
      go_ret
      exact ⟨rfl, fun e => absurd rfl e, fun _ => XL.root HP.out H5.out hd i⟩
  · have hzb : (c != 0) = true := by simp [hz]
    have hM' := hcM hz
    have HM' := hid hM'
    clear h ht hdr hM hcM hok hM'
    go_enter Try.func32, Try.ntmps32
    go_wp2_with (first
      | (go_at_call 33; refine (xmade_yes _ B _ hc).mono ?_; rintro e w1 ⟨rfl, rfl⟩)
      | (go_at_call 34; refine (xisDomain _ _).mono ?_; rintro e w1 ⟨rfl, rfl⟩)
      | (go_at_call 47; refine (xhas _ B _ _ M HP.out.c0 HP.out.m HN.out).mono ?_; rintro e w1 ⟨rfl, rfl⟩; rw [hi])
      | (go_at_call 48; refine (HT.out _ HP.out.xm).mono ?_; rintro e w4 ⟨rfl, h4⟩; have H4 := hid h4; have HP4 := hid (HP.out.core h4); have r0 := HP4.out.root hd; (try rw [hr] at r0); clear h4))
    go_ret
    have h4 := H4.out
    rw [HM'.out] at h4
    exact ⟨rfl, fun _ => XL.of HP.out h4, fun e => absurd e hz⟩
theorem xBase_has (X B d : Nat) (i : Int) (w : World) (M : Mach) (T : Int) (sp : Nat → Sp) (pv : Nat → Value) (h : PS w B X M sp pv) (hd : d < 8) (hok : M.ok T) (hin : i ≠ -1) (hi : M.is i = false) :
    Calls Try.prog 32 #[.pointer (some ⟨X, 0, none⟩), .int .i64 d, .int .i64 i] w fun e w' => e = .returned (.int .i64 1) ∧ XL w w' B X pv M sp := by
  have HP := hid h
  have hc := h.c0
  have hd0 : (0 : Int) ≤ d := by omega
  have hd8 : (d : Int) < 8 := by omega
  have hdk := domOk_cast hd
  have HN := hid hok.n1
  have hib : (i == -1) = false := by simp [hin]
  have hinb : (i != -1) = true := by simp [hin]
  clear h hok
  go_enter Try.func32, Try.ntmps32
  go_wp2_with (first
    | (go_at_call 33; refine (xmade_yes _ B _ hc).mono ?_; rintro e w1 ⟨rfl, rfl⟩)
    | (go_at_call 34; refine (xisDomain _ _).mono ?_; rintro e w1 ⟨rfl, rfl⟩)
    | (go_at_call 47; refine (xhas _ B _ _ M HP.out.c0 HP.out.m HN.out).mono ?_; rintro e w1 ⟨rfl, rfl⟩; rw [hi]))
  go_ret
  exact ⟨rfl, XL.same HP.out (World.grownBy.refl _ _)⟩
theorem xBase (X B : Nat) (o i : Int) (w : World) (M : Mach) (T : Int) (F : Cnt) (sp : Nat → Sp) (pv : Nat → Value) (h : PS w B X M sp pv) (hok : M.ok T) (hT : T + 20000 < 4611686018427387904) (hF : Inv2 M F)
    (hrt : ∀ d, d < 8 → (sp d).root ≠ -1 → M.is (sp d).root = true ∧ ∃ F' : Cnt, F = F'.add (sp d).root.toNat 3) :
    Calls Try.prog 32 #[.pointer (some ⟨X, 0, none⟩), .int .i64 o, .int .i64 i] w fun e w' => e = .returned (.int .i64 (baseV M sp o i).1) ∧ XL w w' B X pv (baseV M sp o i).2.1 (baseV M sp o i).2.2 := by
  unfold baseV
  cases hd : domOk o with
  | false => rw [if_pos (.inl rfl)]; exact xBase_dom X B o i w M sp pv h hd
  | true =>
    obtain ⟨d, rfl, hd8⟩ := domOk_nat hd
    simp only [Int.toNat_natCast, Bool.true_eq_false, false_or]
    by_cases hi1 : i = -1
    · subst hi1
      rw [if_neg (by simp), if_pos rfl]
      refine xBase_none X B d w M _ sp pv h hd8 (fun e => by unfold dropRoot; rw [if_pos e]) fun e W hW => ?_
      obtain ⟨a, F', b⟩ := hrt d hd8 e
      obtain ⟨a0, a1⟩ := Mach.is_iff.1 a
      have := xdr2 (F := F') (j := (sp d).root.toNat) (by rw [← b]; exact hF) (by rw [Int.toNat_of_nonneg a0]; exact a1) hW hok (by omega)
      rw [Int.toNat_of_nonneg a0] at this
      unfold dropRoot
      rw [if_neg e]
      exact this
    · cases hi : M.is i with
      | false => rw [if_pos ⟨hi1, rfl⟩]; exact xBase_has X B d i w M T sp pv h hd8 hok hi1 hi
      | true =>
        rw [if_neg (by simp), if_neg hi1]
        have hok' : (tabG 3 take2 M d i).2.ok (T + (1 + 65 * 64 : Nat)) := tabG_ok' (c := 65) (fun h o n => take2_ok h o n) hok d i
        have hno := tabG_no (K := 3) (tk := take2) (M := M) (o := d) (t := i)
        have hye := fun he => (tabG_yes lvl2 (o := d) (t := i) hF he).1
        have hsm := tabG_same lvl2 M d i
        have hta := fun W (hW : XM W W B X M) => xta2 (o := d) (i := i) hF.inv hW hok (by omega)
        generalize tabG 3 take2 M d i = r at *
        obtain ⟨c, M'⟩ := r
        simp only at hok' hno hye hsm hta ⊢
        refine (xBase_some X B d i w M M' (dropRoot M' (sp d).root) T c sp pv h hd8 hok hi1 hi hno hta (fun e => by unfold dropRoot; rw [if_pos e]) fun hc e W hW => ?_).mono ?_
        · obtain ⟨a, F', b⟩ := hrt d hd8 e
          obtain ⟨a0, a1⟩ := Mach.is_iff.1 a
          have hF2 := hye hc
          rw [b, Cnt.add_comm] at hF2
          have := xdr2 (j := (sp d).root.toNat) hF2 (by rw [Int.toNat_of_nonneg a0, hsm.n]; exact a1) hW hok' (by omega)
          rw [Int.toNat_of_nonneg a0] at this
          unfold dropRoot
          rw [if_neg e]
          exact this
        · rintro e w' ⟨rfl, h1, h2⟩
          by_cases hz : c = 0
          · rw [if_neg (by simpa using hz)]; exact ⟨by rw [hz], h2 hz⟩
          · rw [if_pos hz]; exact ⟨rfl, h1 hz⟩
end Go.Proofs.Ytbbaplcfhofeeaa

/-
  Package mmu: Drop.
-/
set_option linter.unusedSimpArgs false
set_option linter.unusedVariables false
namespace Go.Proofs.Ytbbaplcfhofeeaa
open Go.RowKit
set_option maxHeartbeats 1000000

theorem make4 (w : World) : (Instr.makeSlice 103 (.int .i64 4) (.int .i64 4)).run Try.prog w = .ok (.slice (some ⟨w.heap.size, 0, none⟩) 4 4) (w.alloc (.cells (madeCells #[.int .u8 0] 4) 5)) := u8_make w 4 (by omega)
theorem wpList_make4 {ops : Array Oper} {rest : List Oper} {o : Oper} {a : Act} {w : World} {Q : Exit → Act → World → Prop} (hgd : o.guard = none) (ho : o.op = .makeSlice 103 (.const (.int .i64 4)) (.const (.int .i64 4)))
    (h : ∀ w', Row w' w.heap.size 5 4 (fun _ => .int .u8 0) → w.grownBy w' none → wpList Try.prog ops Q rest (a.put o.dst (.slice (some ⟨w.heap.size, 0, none⟩) 4 4)) w') : wpList Try.prog ops Q (o :: rest) a w :=
  wpList_exec hgd (v := .slice (some ⟨w.heap.size, 0, none⟩) 4 4) (w' := w.alloc (.cells (madeCells #[.int .u8 0] 4) 5)) (by unfold execOp; simp [ho, Act.eval]; rw [make4 w]; rfl)
    (h _ ⟨_, heap_alloc_new w _, by simp [madeCells], fun k hk => by simp [madeCells, hk, Nat.mod_one]⟩ (World.grownBy_alloc w _ none))
def bRow (n j k : Nat) : Value := if k < j then .int .u8 ((le4 n).getD k 0).toNat else .int .u8 0
end Go.Proofs.Ytbbaplcfhofeeaa
