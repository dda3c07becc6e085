/-
  Package mmu: Pin.
-/
import Derived.Test.YtemeihamkdpmoaaK19
set_option linter.unusedSimpArgs false
set_option linter.unusedVariables false
namespace Go.Proofs.Ytemeihamkdpmoaa
open Go.RowKit
set_option maxHeartbeats 1000000

def pinV (M : Mach) (sp : Nat → Sp) (o i lv : Int) : Int × Mach × (Nat → Sp) :=
  if domOk o = false ∨ ¬ (lv = 1 ∨ lv = 2) ∨ M.is i = false then (1, M, sp) else
  if 0 ≤ pinAt (sp o.toNat).pins i then (8, M, sp) else
  if (refT lv M o i).1 ≠ 0 then ((refT lv M o i).1, M, sp) else (0, (refT lv M o i).2, upS sp o.toNat { sp o.toNat with pins := (sp o.toNat).pins ++ [(i, lv)] })
theorem wpList_pins {ops : Array Oper} {rest : List Oper} {o : Oper} {a : Act} {w : World} {Q : Exit → Act → World → Prop} (hgd : o.guard = none) (s x : Operand) (ho : o.op = .call { callee := .builtin .append, args := #[s, x], argTypes := #[100, 100] })
    (v : Value) (l : List (Int × Int)) (hs : a.eval s = v) (h : PinsAt w v l) (ad : Addr) (c : Nat) (l2 : List (Int × Int)) (hx : a.eval x = .slice (some ad) l2.length c) (h2 : l2 ≠ []) (hnews : ∀ j u, (pinC l2)[j]? = some u → w.cell? (ad.add j) = some u) (hb : l.length + l2.length ≤ 8000000000000)
    (hK : ∀ v' w', PinsAt w' v' (l ++ l2) → w.grownBy w' v.ownBlock → (v'.ownBlock = v.ownBlock ∨ ∀ g, v'.ownBlock = some g → w.heap.size ≤ g) → wpList Try.prog ops Q rest (a.put o.dst v') w') : wpList Try.prog ops Q (o :: rest) a w := by
  obtain ⟨v', w', hr, h1, h2, h3⟩ := run_pins_append w o.type v l l2 h ad c h2 hnews hb
  refine wpList_plain hgd fun K hK' => ?_
  unfold Oper.wp execOp
  simp only [ho, resolve, invoke, builtin, Sem.run_bind, Sem.run_pure, Result.andThen_ok, List.map_toArray, List.map_cons, List.map_nil, hs, hx, hr]
  exact hK' _ _ (hK v' w' h1 h2 h3)
theorem pin_new (w : World) (i lv : Int) : ∀ j u, (pinC [(i, lv)])[j]? = some u → (w.alloc (.cells #[.int .i64 i, .int .i64 lv] 158)).cell? ((⟨w.heap.size, 0, none⟩ : Addr).add j) = some u := by
  have hr : Row (w.alloc (.cells #[.int .i64 i, .int .i64 lv] 158)) w.heap.size 158 ([(i, lv)].length * 2) (fun k => (pinC [(i, lv)]).getD k undef) := (row2 w 158 (.int .i64 i) (.int .i64 lv)).congr fun k hk => rfl
  exact row_news hr
theorem XL.pin {w w4 w5 : World} {B X : Nat} {pv : Nat → Value} {M M' : Mach} {sp : Nat → Sp} {d : Nat} {v : Value} {l : List (Int × Int)} (h : PS w B X M sp pv) (hx : XM w w4 B X M') (hd : d < 8) (hp : PinsAt w5 v l) (hg : w4.grownBy w5 (pv d).ownBlock) (hn : v.ownBlock = (pv d).ownBlock ∨ ∀ g, v.ownBlock = some g → w4.heap.size ≤ g) :
    XL w (w5.setCell ⟨X, 1 + d * 2 + 1, none⟩ v) B X pv M' (upS sp d { sp d with pins := l }) := by
  have h4 := h.core hx
  have c1 : Chg (xfoot B X pv) w w4 := Chg.of hx.g fun j e => .inl (.inl (Option.some.inj e).symm)
  have c2 : Chg (xfoot B X pv) w4 w5 := Chg.of hg fun j e => .inl (.inr (.inr ⟨d, hd, e⟩))
  have c3 : Chg (xfoot B X pv) w5 (w5.setCell ⟨X, 1 + d * 2 + 1, none⟩ v) := Chg.of (grownBy_setCell w5 X (1 + d * 2 + 1) none v) fun j e => .inl (.inr (.inl (Option.some.inj e).symm))
  refine ⟨_, h4.setPins hd hp hg hn, (c1.trans c2 fun _ h => .inl h).trans c3 fun _ h => .inl h, fun k hk => ?_⟩
  rcases hk with e | e | ⟨q, hq, e⟩
  · exact .inl (.inl e)
  · exact .inl (.inr (.inl e))
  · simp only at e
    by_cases eq : q = d
    · subst eq
      rw [if_pos rfl] at e
      rcases hn with hn | hn
      · rw [hn] at e; exact .inl (.inr (.inr ⟨q, hq, e⟩))
      · exact .inr (Nat.le_trans hx.g.size (hn k e))
    · rw [if_neg eq] at e
      exact .inl (.inr (.inr ⟨q, hq, e⟩))
/-- a level and how it is told -/
def LvOf (lv : Int) (K fn : Nat) : Prop := ∀ wd : World, Calls Try.prog 90 #[.int .i64 lv] wd fun x w' => x = .returned (.tuple #[.agg #[.int .i64 K, .func (.func fn) #[] #[]], .bool true]) ∧ wd.grownBy w' none
theorem lvOf1 : LvOf 1 2 112 := levelOf_1
theorem lvOf2 : LvOf 2 3 113 := levelOf_2
theorem xm2 {w0 w : World} {B X : Nat} {M : Mach} (h : XM w0 w B X M) (a b : Value) (t : TypeId) : XM w0 (w.alloc (.cells #[a, b] t)) B X M := h.more (World.grownBy_alloc w _ none)
set_option maxRecDepth 100000 in
theorem xPin_dom (X B : Nat) (o i lv : Int) (w : World) (M : Mach) (sp : Nat → Sp) (pv : Nat → Value) (h : PS w B X M sp pv) (hd : domOk o = false) :
    Calls Try.prog 41 #[.pointer (some ⟨X, 0, none⟩), .int .i64 o, .int .i64 i, .int .i64 lv] w fun e w' => e = .returned (.int .i64 1) ∧ XL w w' B X pv M sp := by
  have HP := hid h
  have hc := h.c0
  by_cases h1 : lv = 1
  · subst h1
    go_enter Try.func41, Try.ntmps41
    clear h
    go_wp2_with (first
      | (go_at_call 89; refine (xmade_yes _ B _ hc).mono ?_; rintro e w1 ⟨rfl, rfl⟩)
      | (go_at_call 91; refine (xisDomain _ _).mono ?_; rintro e w1 ⟨rfl, rfl⟩)
      | (go_at_call 90; refine (levelOf_1 _).mono ?_; rintro e w2 ⟨rfl, g2⟩; have HG := hid (g2.trans (World.grownBy_alloc w2 (.cells #[.int .i64 2, .func (.func 112) #[] #[]] 161) none)); clear g2))
    go_ret
    exact ⟨rfl, XL.same HP.out HG.out⟩
  by_cases h2 : lv = 2
  · subst h2
    go_enter Try.func41, Try.ntmps41
    clear h
    go_wp2_with (first
      | (go_at_call 89; refine (xmade_yes _ B _ hc).mono ?_; rintro e w1 ⟨rfl, rfl⟩)
      | (go_at_call 91; refine (xisDomain _ _).mono ?_; rintro e w1 ⟨rfl, rfl⟩)
      | (go_at_call 90; refine (levelOf_2 _).mono ?_; rintro e w2 ⟨rfl, g2⟩; have HG := hid (g2.trans (World.grownBy_alloc w2 (.cells #[.int .i64 3, .func (.func 113) #[] #[]] 161) none)); clear g2))
    go_ret
    exact ⟨rfl, XL.same HP.out HG.out⟩
  have HL := hid (fun wd => levelOf_no lv wd h1 h2)
  clear h h1 h2
  go_enter Try.func41, Try.ntmps41
  go_wp2_with (first
    | (go_at_call 89; refine (xmade_yes _ B _ hc).mono ?_; rintro e w1 ⟨rfl, rfl⟩)
    | (go_at_call 91; refine (xisDomain _ _).mono ?_; rintro e w1 ⟨rfl, rfl⟩)
    | (go_at_call 90; refine (HL.out _).mono ?_; rintro e w2 ⟨rfl, g2⟩; have HG := hid (g2.trans (World.grownBy_alloc w2 (.cells #[.int .i64 0, .nilFunc] 161) none)); clear g2))
  go_ret
  exact ⟨rfl, XL.same HP.out HG.out⟩
set_option maxRecDepth 100000 in
theorem xPin_lv (X B : Nat) (o i lv : Int) (w : World) (M : Mach) (sp : Nat → Sp) (pv : Nat → Value) (h : PS w B X M sp pv) (hd : domOk o = true) (h1 : lv ≠ 1) (h2 : lv ≠ 2) :
    Calls Try.prog 41 #[.pointer (some ⟨X, 0, none⟩), .int .i64 o, .int .i64 i, .int .i64 lv] w fun e w' => e = .returned (.int .i64 1) ∧ XL w w' B X pv M sp := by
  have HP := hid h
  have hc := h.c0
  have HL := hid (fun wd => levelOf_no lv wd h1 h2)
  clear h h1 h2
  go_enter Try.func41, Try.ntmps41
  go_wp2_with (first
    | (go_at_call 89; refine (xmade_yes _ B _ hc).mono ?_; rintro e w1 ⟨rfl, rfl⟩)
    | (go_at_call 91; refine (xisDomain _ _).mono ?_; rintro e w1 ⟨rfl, rfl⟩)
    | (go_at_call 90; refine (HL.out _).mono ?_; rintro e w2 ⟨rfl, g2⟩; have HG := hid (g2.trans (World.grownBy_alloc w2 (.cells #[.int .i64 0, .nilFunc] 161) none)); clear g2))
  go_ret
  exact ⟨rfl, XL.same HP.out HG.out⟩
set_option maxRecDepth 100000 in
theorem xPin_core (X B K fn d : Nat) (i lv : Int) (w : World) (M : Mach) (T : Int) (sp : Nat → Sp) (pv : Nat → Value) (h : PS w B X M sp pv) (hd : d < 8) (hok : M.ok T) (hl : (sp d).pins.length ≤ 1000000) (hlv : LvOf lv K fn)
    (ht : ∀ W, XM W W B X M → Calls Try.prog 94 #[.pointer (some ⟨X, 0, none⟩), .int .i64 d, .int .i64 i, .int .i64 K] W fun e w' => e = .returned (.int .i64 (refT lv M d i).1) ∧ XM W w' B X (refT lv M d i).2) (hlo : lv = 1 ∨ lv = 2) :
    Calls Try.prog 41 #[.pointer (some ⟨X, 0, none⟩), .int .i64 d, .int .i64 i, .int .i64 lv] w fun e w' => e = .returned (.int .i64 (pinV M sp d i lv).1) ∧ XL w w' B X pv (pinV M sp d i lv).2.1 (pinV M sp d i lv).2.2 := by
  have HP := hid h
  have hc := h.c0
  have hd0 : (0 : Int) ≤ d := by omega
  have hd8 : (d : Int) < 8 := by omega
  have hdk := domOk_cast hd
  have HL := hid hlv
  have HT := hid ht
  have hn := hok.n1
  have HN := hid hn
  unfold pinV
  have hlo' : ¬ ¬ (lv = 1 ∨ lv = 2) := fun e => e hlo
  simp only [hdk, hlo', Bool.true_eq_false, false_or, Int.toNat_natCast]
  obtain ⟨r, hr⟩ : ∃ r, refT lv M d i = r := ⟨_, rfl⟩
  rw [hr] at HT ⊢
  have HNo := hid (show r.1 ≠ 0 → r.2 = M from fun e => by rw [← hr] at e ⊢; exact refT_no e)
  obtain ⟨c, M'⟩ := r
  simp only at HT HNo ⊢
  clear hlv ht hlo hlo' hr hok hn h
  cases hi : M.is i with
  | false =>
    simp only [if_true]
    go_enter Try.func41, Try.ntmps41
    go_wp2_with (first
      | (go_at_call 89; refine (xmade_yes _ B _ hc).mono ?_; rintro e w1 ⟨rfl, rfl⟩)
      | (go_at_call 91; refine (xisDomain _ _).mono ?_; rintro e w1 ⟨rfl, rfl⟩)
      | (go_at_call 90; refine (HL.out _).mono ?_; rintro e w2 ⟨rfl, g2⟩; have HG := hid (g2.trans (World.grownBy_alloc w2 (.cells #[.int .i64 K, .func (.func fn) #[] #[]] 161) none)); have HP2 := hid (HP.out.grown HG.out); have l0 : (w2.alloc (.cells #[.int .i64 K, .func (.func fn) #[] #[]] 161)).cell? ⟨w2.heap.size, 0, none⟩ = some (.int .i64 K) := (by simp [go_sem]); clear g2)
      | (go_at_call 92; refine (xhas _ B _ _ M HP2.out.c0 HP2.out.m HN.out).mono ?_; rintro e w3 ⟨rfl, rfl⟩; rw [hi]))
    go_ret
    exact ⟨rfl, XL.same HP.out HG.out⟩
  | true =>
    simp only [Bool.true_eq_false, if_false]
    obtain ⟨a, ha⟩ : ∃ a, pinAt (sp d).pins i = a := ⟨_, rfl⟩
    rw [ha]
    by_cases h0 : 0 ≤ a
    · rw [if_pos h0]
      go_enter Try.func41, Try.ntmps41
      go_wp2_with (first
        | (go_at_call 89; refine (xmade_yes _ B _ hc).mono ?_; rintro e w1 ⟨rfl, rfl⟩)
        | (go_at_call 91; refine (xisDomain _ _).mono ?_; rintro e w1 ⟨rfl, rfl⟩)
        | (go_at_call 90; refine (HL.out _).mono ?_; rintro e w2 ⟨rfl, g2⟩; have HG := hid (g2.trans (World.grownBy_alloc w2 (.cells #[.int .i64 K, .func (.func fn) #[] #[]] 161) none)); have HP2 := hid (HP.out.grown HG.out); have l0 : (w2.alloc (.cells #[.int .i64 K, .func (.func fn) #[] #[]] 161)).cell? ⟨w2.heap.size, 0, none⟩ = some (.int .i64 K) := (by simp [go_sem]); clear g2)
        | (go_at_call 92; refine (xhas _ B _ _ M HP2.out.c0 HP2.out.m HN.out).mono ?_; rintro e w3 ⟨rfl, rfl⟩; rw [hi])
        | (go_at_call 93; refine (xpinned X _ _ _ _ _ (HP2.out.pins hd) (HP2.out.pin d hd) (by omega)).mono ?_; rw [ha]; rintro e w3 ⟨rfl, g3⟩; have HG2 := hid (HG.out.trans g3); have HP3 := hid (HP2.out.grown g3); have m0 := g3.cell l0 (by simp); clear g3 l0))
      go_ret
      exact ⟨rfl, XL.same HP.out HG2.out⟩
    · rw [if_neg h0]
      have h0' : a < 0 := by omega
      clear h0
      by_cases hz : c = 0
      · subst hz
        rw [if_neg (by simp)]
        clear HNo
        go_enter Try.func41, Try.ntmps41
        go_wp2_with (first
          | (go_at_call 89; refine (xmade_yes _ B _ hc).mono ?_; rintro e w1 ⟨rfl, rfl⟩)
          | (go_at_call 91; refine (xisDomain _ _).mono ?_; rintro e w1 ⟨rfl, rfl⟩)
          | (go_at_call 90; refine (HL.out _).mono ?_; rintro e w2 ⟨rfl, g2⟩; have HG := hid (g2.trans (World.grownBy_alloc w2 (.cells #[.int .i64 K, .func (.func fn) #[] #[]] 161) none)); have HP2 := hid (HP.out.grown HG.out); have l0 : (w2.alloc (.cells #[.int .i64 K, .func (.func fn) #[] #[]] 161)).cell? ⟨w2.heap.size, 0, none⟩ = some (.int .i64 K) := (by simp [go_sem]); clear g2)
          | (go_at_call 92; refine (xhas _ B _ _ M HP2.out.c0 HP2.out.m HN.out).mono ?_; rintro e w3 ⟨rfl, rfl⟩; rw [hi])
          | (go_at_call 93; refine (xpinned X _ _ _ _ _ (HP2.out.pins hd) (HP2.out.pin d hd) (by omega)).mono ?_; rw [ha]; rintro e w3 ⟨rfl, g3⟩; have HG2 := hid (HG.out.trans g3); have HP3 := hid (HP2.out.grown g3); have m0 := g3.cell l0 (by simp); clear g3 l0)
          | (go_at_call 94; refine (HT.out _ HP3.out.xm).mono ?_; rintro e w4 ⟨rfl, h4⟩; have H4 := hid (XM.step (XM.more HP.out.xm HG2.out) h4); have HP4 := hid (HP3.out.core h4); have p0 := HP4.out.pins hd; have p1 := HP4.out.top.frozen (1 + d * 2 + 1); clear h4)
          | (at_builtin; refine wpList_pins rfl _ _ rfl (pv d) (sp d).pins rfl ((HP4.out.grown (World.grownBy_alloc w4 _ none)).pin d hd) ⟨w4.heap.size, 0, none⟩ 1 [(i, lv)] rfl (by simp) (pin_new w4 i lv) (by simp; omega) ?_; intro v' w5 h5 g5 n5; obtain ⟨p5, c5, rfl⟩ := h5.slice; have HE := hid (XL.pin HP.out (H4.out.more (World.grownBy_alloc w4 _ none)) hd h5 g5 n5); have ht5 := (HP4.out.grown (World.grownBy_alloc w4 (.cells #[.int .i64 i, .int .i64 lv] 158) none)).top.grown g5 (fun e => HP4.out.pinX hd e.symm); have z0 := ht5.cell (k := 1 + d * 2 + 1) (by omega); have z1 := ht5.frozen (1 + d * 2 + 1); clear h5 g5 n5 ht5))
        go_ret
        have he := HE.out
        simp only [List.length_append, List.length_cons, List.length_nil, Nat.zero_add] at he
        exact ⟨rfl, he⟩
      · obtain rfl := (HNo.out hz).symm
        rw [if_pos hz]
        have hzb : (c != 0) = true := by simp [hz]
        go_enter Try.func41, Try.ntmps41
        go_wp2_with (first
          | (go_at_call 89; refine (xmade_yes _ B _ hc).mono ?_; rintro e w1 ⟨rfl, rfl⟩)
          | (go_at_call 91; refine (xisDomain _ _).mono ?_; rintro e w1 ⟨rfl, rfl⟩)
          | (go_at_call 90; refine (HL.out _).mono ?_; rintro e w2 ⟨rfl, g2⟩; have HG := hid (g2.trans (World.grownBy_alloc w2 (.cells #[.int .i64 K, .func (.func fn) #[] #[]] 161) none)); have HP2 := hid (HP.out.grown HG.out); have l0 : (w2.alloc (.cells #[.int .i64 K, .func (.func fn) #[] #[]] 161)).cell? ⟨w2.heap.size, 0, none⟩ = some (.int .i64 K) := (by simp [go_sem]); clear g2)
          | (go_at_call 92; refine (xhas _ B _ _ M HP2.out.c0 HP2.out.m HN.out).mono ?_; rintro e w3 ⟨rfl, rfl⟩; rw [hi])
          | (go_at_call 93; refine (xpinned X _ _ _ _ _ (HP2.out.pins hd) (HP2.out.pin d hd) (by omega)).mono ?_; rw [ha]; rintro e w3 ⟨rfl, g3⟩; have HG2 := hid (HG.out.trans g3); have HP3 := hid (HP2.out.grown g3); have m0 := g3.cell l0 (by simp); clear g3 l0)
          | (go_at_call 94; refine (HT.out _ HP3.out.xm).mono ?_; rintro e w4 ⟨rfl, h4⟩; have H4 := hid (XM.step (XM.more HP.out.xm HG2.out) h4); have HP4 := hid (HP3.out.core h4); have p0 := HP4.out.pins hd; have p1 := HP4.out.top.frozen (1 + d * 2 + 1); clear h4))
        go_ret
        exact ⟨rfl, XL.of HP.out H4.out⟩
theorem xPin (X B : Nat) (o i lv : Int) (w : World) (M : Mach) (T : Int) (F : Cnt) (sp : Nat → Sp) (pv : Nat → Value) (h : PS w B X M sp pv) (hF : Inv2 M F) (hok : M.ok T) (hT : T + 10000 < 4611686018427387904) (hl : ∀ d, d < 8 → (sp d).pins.length ≤ 1000000) :
    Calls Try.prog 41 #[.pointer (some ⟨X, 0, none⟩), .int .i64 o, .int .i64 i, .int .i64 lv] w fun e w' => e = .returned (.int .i64 (pinV M sp o i lv).1) ∧ XL w w' B X pv (pinV M sp o i lv).2.1 (pinV M sp o i lv).2.2 := by
  cases hd : domOk o with
  | false =>
    have e : pinV M sp o i lv = (1, M, sp) := by unfold pinV; rw [if_pos (.inl hd)]
    rw [e]
    exact xPin_dom X B o i lv w M sp pv h hd
  | true =>
    by_cases hlv : lv = 1 ∨ lv = 2
    · obtain ⟨d, rfl, hd8⟩ := domOk_nat hd
      rcases hlv with rfl | rfl
      · exact xPin_core X B 2 112 d i 1 w M T sp pv h hd8 hok (hl d hd8) lvOf1 (fun W hW => xta1 hF.inv.holds hW hok (by omega) _ _) (.inl rfl)
      · exact xPin_core X B 3 113 d i 2 w M T sp pv h hd8 hok (hl d hd8) lvOf2 (fun W hW => xta2 hF.inv hW hok (by omega) _ _) (.inr rfl)
    · have e : pinV M sp o i lv = (1, M, sp) := by unfold pinV; rw [if_pos (.inr (.inl hlv))]
      rw [e]
      exact xPin_lv X B o i lv w M sp pv h hd (fun e => hlv (.inl e)) (fun e => hlv (.inr e))
end Go.Proofs.Ytemeihamkdpmoaa
