/-
  Package mmu: Unpin.
-/
import Derived.Test.YtemeihamkdpmoaaK20
import Derived.Deep.RegionLaw
set_option linter.unusedSimpArgs false
set_option linter.unusedVariables false
namespace Go.Proofs.Ytemeihamkdpmoaa
open Go.RowKit
set_option maxHeartbeats 1000000

/-- a reference as a table goes, by its level -/
theorem xunref {B X : Nat} {w : World} {M : Mach} {T : Int} {F : Cnt} {lv : Int} {j : Nat} (hl : lv = 1 ∨ lv = 2) (hF : Inv2 M (F.add j (lv.toNat + 1))) (hj : (j : Int) < M.n) (h : XM w w B X M) (hok : M.ok T) (hT : T < 4611686018427387904) :
    Calls Try.prog 96 #[.pointer (some ⟨X, 0, none⟩), .int .i64 j, .int .i64 (lv + 1)] w fun e w' => e = .returned (.tuple #[]) ∧ XM w w' B X (unrefT lv M j) := by
  unfold unrefT
  rcases hl with rfl | rfl
  · rw [if_pos rfl]
    refine xdr1 h hok hT j (CHolds.put_ok0 hF.inv.holds ?_ hj (by decide))
    rw [full1_2]
    unfold full
    have : 0 < (F.add j ((1 : Int).toNat + 1)) j 2 := Cnt.add_pos F j 2
    omega
  · rw [if_neg (by decide)]
    exact xdr2 hF hj h hok hT
theorem lvOf_any {lv : Int} (hl : lv = 1 ∨ lv = 2) : ∃ K fn : Nat, LvOf lv K fn ∧ (K : Int) = lv + 1 := by
  rcases hl with rfl | rfl
  · exact ⟨2, _, lvOf1, rfl⟩
  · exact ⟨3, _, lvOf2, rfl⟩
set_option maxRecDepth 100000 in
theorem xunpin {B X : Nat} {w : World} {M M' : Mach} {lv : Int} {j : Nat} (hl : lv = 1 ∨ lv = 2) (h : XM w w B X M)
    (hd : ∀ W, XM W W B X M → Calls Try.prog 96 #[.pointer (some ⟨X, 0, none⟩), .int .i64 j, .int .i64 (lv + 1)] W fun e w' => e = .returned (.tuple #[]) ∧ XM W w' B X M') :
    Calls Try.prog 95 #[.pointer (some ⟨X, 0, none⟩), .agg #[.int .i64 j, .int .i64 lv]] w fun e w' => e = .returned (.tuple #[]) ∧ XM w w' B X M' := by
  obtain ⟨K, fn, hlv, hK⟩ := lvOf_any hl
  have H := hid h
  have HL := hid hlv
  rw [← hK] at hd
  have HD := hid hd
  have HG0 := hid (World.grownBy_alloc w (.cells #[.int .i64 j, .int .i64 lv] 158) none)
  have q0 : (w.alloc (.cells #[.int .i64 j, .int .i64 lv] 158)).cell? ⟨w.heap.size, 0, none⟩ = some (.int .i64 j) := by simp [go_sem]
  clear h hlv hd hK hl
  go_enter Try.func95, Try.ntmps95
  go_wp2_with (first
    | (go_at_call 90; refine (HL.out _).mono ?_; rintro e w2 ⟨rfl, g2⟩; have g2' := g2.trans (World.grownBy_alloc w2 (.cells #[.int .i64 K, .func (.func fn) #[] #[]] 161) none); have HG := hid (HG0.out.trans g2'); have q1 := g2'.cell q0 (by simp); clear g2 g2' q0)
    | (go_at_call 96; refine (HD.out _ (H.out.more HG.out).here).mono ?_; rintro e w3 ⟨rfl, h3⟩; have H3 := hid ((H.out.more HG.out).step h3); clear h3))
  first | go_end0 | ((try simp only [Exit.inBlock, Exit.then]); refine bodyPost_ret (results_none rfl _ _ _) rfl ?_)
  exact ⟨rfl, H3.out⟩
theorem pinC_take (l : List (Int × Int)) (i : Nat) (hi : i ≤ l.length) (j : Nat) (u : Value) (h : (pinC (l.take i))[j]? = some u) : (pinC l)[j]? = some u := by
  have : pinC l = pinC (l.take i) ++ pinC (l.drop i) := by rw [← pinC_app, List.take_append_drop]
  rw [this, List.getElem?_append_left (List.getElem?_eq_some_iff.1 h).1]
  exact h
theorem pinC_drop (l : List (Int × Int)) (i : Nat) (hi : i ≤ l.length) (j : Nat) (u : Value) (h : (pinC (l.drop i))[j]? = some u) : (pinC l)[i * 2 + j]? = some u := by
  have : pinC l = pinC (l.take i) ++ pinC (l.drop i) := by rw [← pinC_app, List.take_append_drop]
  have hlen : (pinC (l.take i)).length = i * 2 := by rw [pinC_len, List.length_take]; congr 1; omega
  rw [this, List.getElem?_append_right (by omega), hlen, show i * 2 + j - i * 2 = j by omega]
  exact h
theorem setCells_nil (w : World) (b o : Nat) : w.setCells b o [] = w := by simp [World.setCells]
theorem run_pins_cut (w : World) (ty : TypeId) (g cap : Nat) (l : List (Int × Int)) (i : Nat) (hi : i < l.length) (hrow : Row w g 158 (l.length * 2) (fun k => (pinC l).getD k undef)) (m c : Nat) (hm : m = l.length - (i + 1)) (ad : Addr) (had : m ≠ 0 → ad = ⟨g, (i + 1) * 2, none⟩) (hl : l.length ≤ 1000000) :
    ∃ p' c' w', (Builtin.append_ #[100, 100] ty #[.slice (some ⟨g, 0, none⟩) i i, .slice (some ad) m c]).run Try.prog w = .ok (.slice p' (l.length - 1) c') w' ∧ PinsAt w' (.slice p' (l.length - 1) c') (l.eraseIdx i) ∧ w.grownBy w' none ∧ (p' = some ⟨g, 0, none⟩ ∨ ∀ q, (Value.slice p' (l.length - 1) c').ownBlock = some q → w.heap.size ≤ q) := by
  obtain ⟨i0, hi0, hz0, hz1, hz2⟩ := info_parts info_pin
  have er : l.eraseIdx i = l.take i ++ l.drop (i + 1) := List.eraseIdx_eq_take_drop_succ ..
  have hlt : (l.take i).length = i := by rw [List.length_take]; omega
  have hld : (l.drop (i + 1)).length = m := by rw [List.length_drop]; omega
  have hlen : (l.eraseIdx i).length = l.length - 1 := List.length_eraseIdx_of_lt hi
  have hnews := row_news hrow
  have hadd : ∀ o j : Nat, (⟨g, o, none⟩ : Addr).add j = ⟨g, o + j, none⟩ := fun o j => by cases j <;> rfl
  by_cases h0 : m = 0
  · subst h0
    have hd0 : l.drop (i + 1) = [] := List.eq_nil_of_length_eq_zero hld
    have hr := run_append_room_cells (P := Try.prog) w 100 ty 158 i0 Try.underlying100 hi0 g 0 i i ad 0 c [] (by simp) (by simp) (by simp) (by omega) (by simp) (by simp)
    rw [setCells_nil] at hr
    have ei : i + 0 = l.length - 1 := by omega
    rw [ei] at hr
    refine ⟨_, _, _, hr, ?_, World.grownBy.refl _ _, .inl rfl⟩
    have e2 : l.eraseIdx i = l.take i := by rw [er, hd0, List.append_nil]
    refine .inr ⟨g, i, by rw [hlen], by rw [hlen]; omega, ?_, .inl (by rw [hlen]; omega)⟩
    rw [e2]
    obtain ⟨cur, hc, hn, hk⟩ := hrow
    refine ⟨cur, hc, by rw [hlt]; omega, fun k hkk => ?_⟩
    rw [hlt] at hkk
    rw [hk k (by omega)]
    have : k < (pinC (l.take i)).length := by rw [pinC_len, hlt]; exact hkk
    have := pinC_take l i (by omega) k _ (List.getElem?_eq_getElem this)
    simp [List.getD, this, List.getElem?_eq_getElem ‹k < (pinC (l.take i)).length›]
  · obtain rfl := had h0
    obtain ⟨v', w', hr, ho, hg⟩ := run_append_arg_grows (P := Try.prog) w 100 ty 158 i0 (.agg #[.int .i64 0, .int .i64 0]) 2 16 Try.underlying100 hi0 hz0 hz1 hz2 rfl (by decide) ⟨g, 0, none⟩ i i (pinC (l.take i)) (by rw [pinC_len, hlt])
      (fun j u hj => by have := hnews j u (pinC_take l i (by omega) j u hj); exact this) ⟨g, (i + 1) * 2, none⟩ m c (pinC (l.drop (i + 1))) (by rw [pinC_len, hld])
      (fun j u hj => by have := hnews _ u (pinC_drop l (i + 1) (by omega) j u hj); rw [hadd] at this ⊢; rwa [Nat.zero_add] at this) (by omega) (by unfold maxLen; omega) (by omega)
    rw [← pinC_app, ← er] at ho
    have ho' : w'.ownsRow w.heap.size 158 2 v' (l.eraseIdx i).length (pinC (l.eraseIdx i)) := by
      rw [hlen]; have e : i + m = l.length - 1 := by omega
      rwa [e] at ho
    have hp := PinsAt.of_own ho'
    obtain ⟨p', c', e⟩ := hp.slice
    rw [hlen] at e
    subst e
    exact ⟨p', c', w', hr, hp, hg, .inr (own_new ho')⟩
theorem step_pins_cut {ops : Array Oper} {o : Oper} {a : Act} {w : World} {K : Act → World → Prop} {Q : Exit → Act → World → Prop} {E : Prop} (hgd : o.guard = none) (s x : Operand)
    (ho : o.op = .call { callee := .builtin .append, args := #[s, x], argTypes := #[100, 100] }) (g : Nat) (l : List (Int × Int)) (i : Nat) (hi : i < l.length) (hrow : Row w g 158 (l.length * 2) (fun k => (pinC l).getD k undef)) (m c : Nat) (hm : m = l.length - (i + 1)) (ad : Addr) (had : m ≠ 0 → ad = ⟨g, (i + 1) * 2, none⟩) (hl : l.length ≤ 1000000)
    (hs : a.eval s = .slice (some ⟨g, 0, none⟩) i i) (hx : a.eval x = .slice (some ad) m c)
    (h : ∀ p' c' w', PinsAt w' (.slice p' (l.length - 1) c') (l.eraseIdx i) → w.grownBy w' none → (p' = some ⟨g, 0, none⟩ ∨ ∀ q, (Value.slice p' (l.length - 1) c').ownBlock = some q → w.heap.size ≤ q) → K (a.put o.dst (.slice p' (l.length - 1) c')) w') :
    if Region.wanted o (yielded ops a.tmps) = true then Oper.wp Try.prog o a w K Q else E := by
  have hw : Region.wanted o (yielded ops a.tmps) = true := by simp [Region.wanted, hgd]
  rw [if_pos hw]
  obtain ⟨p', c', w', hr, h1, h2, h3⟩ := run_pins_cut w o.type g c l i hi hrow m c hm ad had hl
  unfold Oper.wp execOp
  simp only [ho, resolve, invoke, builtin, Sem.run_bind, Sem.run_pure, Result.andThen_ok, List.map_toArray, List.map_cons, List.map_nil, hs, hx, hr]
  exact h p' c' w' h1 h2 h3
def unpinV (M : Mach) (sp : Nat → Sp) (o i : Int) : Int × Mach × (Nat → Sp) :=
  if domOk o = false then (1, M, sp) else
  match (sp o.toNat).pins[pinIx (sp o.toNat).pins i]? with
  | none => (6, M, sp)
  | some p => (0, unrefT p.2 M p.1.toNat, upS sp o.toNat { sp o.toNat with pins := (sp o.toNat).pins.eraseIdx (pinIx (sp o.toNat).pins i) })
set_option maxRecDepth 100000 in
theorem xUnpin_yes (X B d k j : Nat) (lv : Int) (w : World) (M M' : Mach) (sp : Nat → Sp) (pv : Nat → Value) (h : PS w B X M sp pv) (hd : d < 8) (hl : (sp d).pins.length ≤ 1000000) (hk : pinIx (sp d).pins j = k) (hkl : k < (sp d).pins.length) (hp : (sp d).pins[k] = ((j : Int), lv))
    (hu : ∀ W, XM W W B X M → Calls Try.prog 95 #[.pointer (some ⟨X, 0, none⟩), .agg #[.int .i64 j, .int .i64 lv]] W fun e w' => e = .returned (.tuple #[]) ∧ XM W w' B X M') :
    Calls Try.prog 42 #[.pointer (some ⟨X, 0, none⟩), .int .i64 d, .int .i64 j] w fun e w' => e = .returned (.int .i64 0) ∧ XL w w' B X pv M' (upS sp d { sp d with pins := (sp d).pins.eraseIdx k }) := by
  have HP := hid h
  have hc := h.c0
  have hd0 : (0 : Int) ≤ d := by omega
  have hd8 : (d : Int) < 8 := by omega
  have hdk := domOk_cast hd
  have HU := hid hu
  have ha : pinAt (sp d).pins j = k := pinAt_some hkl hk
  have hk0 : (0 : Int) ≤ k := by omega
  obtain ⟨n, hn⟩ : ∃ n, (sp d).pins.length = n := ⟨_, rfl⟩
  obtain ⟨g, cap, hv, hcap, hrow, hfull⟩ : ∃ g cap, pv d = .slice (some ⟨g, 0, none⟩) n cap ∧ n ≤ cap ∧ Row w g 158 ((sp d).pins.length * 2) (fun k => (pinC (sp d).pins).getD k undef) ∧ True := by
    rcases h.pin d hd with ⟨e, e2⟩ | ⟨g, cap, e, h1, h2, _⟩
    · rw [e2] at hkl; simp at hkl
    · exact ⟨g, cap, by rw [e, hn], by rw [← hn]; exact h1, h2, trivial⟩
  have HR := hid hrow
  have hkn : (k : Int) < n := by omega
  have hkc : (k : Int) ≤ cap := by omega
  have hk1 : (k : Int) + 1 ≤ n := by omega
  obtain ⟨r1, r2⟩ := pinC_get _ k hkl
  rw [hp] at r1 r2
  have HR1 := hid r1; have HR2 := hid r2
  clear hu hk hp h hfull hrow r1 r2
  go_enter Try.func42, Try.ntmps42
  go_wp2_with (first
    | (go_at_call 89; refine (xmade_yes _ B _ hc).mono ?_; rintro e w1 ⟨rfl, rfl⟩)
    | (go_at_call 91; refine (xisDomain _ _).mono ?_; rintro e w1 ⟨rfl, rfl⟩)
    | (go_at_call 93; refine (xpinned X _ _ _ _ _ (HP.out.pins hd) (HP.out.pin d hd) (by omega)).mono ?_; rw [ha]; rintro e w3 ⟨rfl, g3⟩; have HP3 := hid (HP.out.grown g3); have HG3 := hid g3; have p0 := HP3.out.pins hd; rw [hv] at p0; have HR3 := hid (HR.out.grown g3 (by simp)); have y0 := HR3.out.cell (k := k * 2) (by omega); have y1 := HR3.out.cell (k := k * 2 + 1) (by omega); simp only [List.getD, HR1.out, HR2.out, Option.getD_some] at y0 y1; clear g3))
  obtain ⟨W3, hW3⟩ : ∃ W, w3.alloc (.cells #[.int .i64 j, .int .i64 lv] 158) = W := ⟨_, rfl⟩
  have HG4 := hid (show w3.grownBy W3 none by rw [← hW3]; exact World.grownBy_alloc w3 _ none)
  have b0 : W3.cell? ⟨w3.heap.size, 0, none⟩ = some (.int .i64 j) := by rw [← hW3]; simp [go_sem]
  have b1 : W3.cell? ⟨w3.heap.size, 1, none⟩ = some (.int .i64 lv) := by rw [← hW3]; simp [go_sem]
  have HPd := hid ((HP3.out.grown HG4.out).grown (grownBy_drew W3 none))
  have HGd := hid ((HG3.out.trans HG4.out).trans (grownBy_drew W3 none))
  have HRd := hid ((HR3.out.grown HG4.out (by simp)).grown (grownBy_drew W3 none) (by simp))
  have HB0 := hid b0; have HB1 := hid b1
  have p1 := HPd.out.pins hd
  rw [hv] at p1
  rw [hW3]
  clear p0 y0 y1 HR3 hW3 b0 b1
  have hwk : IntKind.i64.wrap ((k : Int) + 1) = ((k + 1 : Nat) : Int) := by
    rw [show ((k : Int) + 1) = ((k + 1 : Nat) : Int) by omega]
    simp only [IntKind.wrap_i64]
    omega
  have hk2 : ((k + 1 : Nat) : Int) ≤ n := by omega
  have hk3 : (0 : Int) ≤ ((k + 1 : Nat) : Int) := by omega
  have hk5 : (0 : Int) ≤ (k : Int) + 1 := by omega
  have HBd0 := hid ((grownBy_drew W3 none).cell HB0.out (by simp))
  have HBd1 := hid ((grownBy_drew W3 none).cell HB1.out (by simp))
  have HNX := hid (show some w3.heap.size ≠ some X by have := HP3.out.top.lt; simp; omega)
  by_cases hc1 : cap = k + 1
  · subst hc1
    have hkd : (k : Int) ≤ (k : Int) + 1 := by omega
    go_region_law (refine step_pins_cut (by rfl) _ _ (by rfl) g (sp d).pins k hkl HRd.out 0 0 (by omega) ⟨g, 0, none⟩ (fun h => absurd rfl h) hl (by simp [Act.eval, Act.put]) (by simp [Act.eval, Act.put]) ?_; intro p' c' w5 h5 g5 n5; have HE := hid (show XL w (w5.setCell ⟨X, 1 + d * 2 + 1, none⟩ (.slice p' ((sp d).pins.length - 1) c')) B X pv M (upS sp d { sp d with pins := (sp d).pins.eraseIdx k }) from XL.pin HP.out (HP.out.xm.more HGd.out) hd h5 (g5.but _) (n5.imp (fun e => by rw [hv, e]; rfl) id)); have ht5 := HPd.out.top.grown g5 (by simp); have z0 := ht5.cell (k := 1 + d * 2 + 1) (by omega); have z1 := ht5.frozen (1 + d * 2 + 1); have e0 := (grownBy_setCell w5 X (1 + d * 2 + 1) none (.slice p' ((sp d).pins.length - 1) c')).cell ((g5.cell HBd0.out (by simp))) HNX.out; have e1 := (grownBy_setCell w5 X (1 + d * 2 + 1) none (.slice p' ((sp d).pins.length - 1) c')).cell ((g5.cell HBd1.out (by simp))) HNX.out; clear h5 g5 n5 ht5)
    all_goals
      clear p1 z0 z1
      rw [hn] at e0 e1 HE
      obtain ⟨pv5, hps5, hch5, hft5⟩ := HE.out
      have HP5 := hid hps5; have HC5 := hid hch5; have HF5 := hid hft5
      clear hps5 hch5 hft5
      go_wp2_with (go_at_call 95; refine (HU.out _ HP5.out.xm).mono ?_; rintro e w6 ⟨rfl, h6⟩; have HZ := hid (XL.trans HC5.out HF5.out (XL.of HP5.out h6)); clear h6)
      go_ret
      exact ⟨rfl, HZ.out⟩
  · go_region_law (refine step_pins_cut (by rfl) _ _ (by rfl) g (sp d).pins k hkl HRd.out (n - (k + 1)) (cap - (k + 1)) (by omega) ⟨g, (k + 1) * 2, none⟩ (fun _ => rfl) hl (by simp [Act.eval, Act.put]) (by simp [Act.eval, Act.put]) ?_; intro p' c' w5 h5 g5 n5; have HE := hid (show XL w (w5.setCell ⟨X, 1 + d * 2 + 1, none⟩ (.slice p' ((sp d).pins.length - 1) c')) B X pv M (upS sp d { sp d with pins := (sp d).pins.eraseIdx k }) from XL.pin HP.out (HP.out.xm.more HGd.out) hd h5 (g5.but _) (n5.imp (fun e => by rw [hv, e]; rfl) id)); have ht5 := HPd.out.top.grown g5 (by simp); have z0 := ht5.cell (k := 1 + d * 2 + 1) (by omega); have z1 := ht5.frozen (1 + d * 2 + 1); have e0 := (grownBy_setCell w5 X (1 + d * 2 + 1) none (.slice p' ((sp d).pins.length - 1) c')).cell ((g5.cell HBd0.out (by simp))) HNX.out; have e1 := (grownBy_setCell w5 X (1 + d * 2 + 1) none (.slice p' ((sp d).pins.length - 1) c')).cell ((g5.cell HBd1.out (by simp))) HNX.out; clear h5 g5 n5 ht5)
    all_goals
      clear p1 z0 z1
      rw [hn] at e0 e1 HE
      obtain ⟨pv5, hps5, hch5, hft5⟩ := HE.out
      have HP5 := hid hps5; have HC5 := hid hch5; have HF5 := hid hft5
      clear hps5 hch5 hft5
      go_wp2_with (go_at_call 95; refine (HU.out _ HP5.out.xm).mono ?_; rintro e w6 ⟨rfl, h6⟩; have HZ := hid (XL.trans HC5.out HF5.out (XL.of HP5.out h6)); clear h6)
      go_ret
      exact ⟨rfl, HZ.out⟩
end Go.Proofs.Ytemeihamkdpmoaa
