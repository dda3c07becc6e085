/-
  Package tenementref05: Pin.
-/
import Derived.Test.YtemeihamkdpmoaaK19
import Derived.Test.YtemeihamkdpmoaaK21
set_option linter.unusedSimpArgs false
set_option linter.unusedVariables false
namespace Go.Proofs.Ytemeihamkdpmoaa
open Go.RowKit
set_option maxHeartbeats 2000000

theorem step_pins {ops : Array Oper} {o : Oper} {a : Act} {w : World} {K : Act → World → Prop} {Q : Exit → Act → World → Prop} {E : Prop} (hgd : o.guard = none) (s x : Operand)
    (ho : o.op = .call { callee := .builtin .append, args := #[s, x], argTypes := #[100, 100] }) (v : Value) (l : List (Int × Int)) (hs : a.eval s = v) (h : PinsAt w v l) (ad : Addr) (c : Nat) (l2 : List (Int × Int)) (hx : a.eval x = .slice (some ad) l2.length c) (h2 : l2 ≠ [])
    (hnews : ∀ j u, (pinC l2)[j]? = some u → w.cell? (ad.add j) = some u) (hb : l.length + l2.length ≤ 8000000000000)
    (hK : ∀ p' c' w', PinsAt w' (.slice p' (l ++ l2).length c') (l ++ l2) → w.grownBy w' v.ownBlock → ((Value.slice p' (l ++ l2).length c').ownBlock = v.ownBlock ∨ ∀ g, (Value.slice p' (l ++ l2).length c').ownBlock = some g → w.heap.size ≤ g) → K (a.put o.dst (.slice p' (l ++ l2).length c')) w') :
    if Region.wanted o (yielded ops a.tmps) = true then Oper.wp Try.prog o a w K Q else E := by
  have hw : Region.wanted o (yielded ops a.tmps) = true := by simp [Region.wanted, hgd]
  rw [if_pos hw]
  obtain ⟨v', w', hr, h1, h2, h3⟩ := run_pins_append w o.type v l l2 h ad c h2 hnews hb
  obtain ⟨p', c', rfl⟩ := h1.slice
  unfold Oper.wp execOp
  simp only [ho, resolve, invoke, builtin, Sem.run_bind, Sem.run_pure, Result.andThen_ok, List.map_toArray, List.map_cons, List.map_nil, hs, hx, hr]
  exact hK p' c' w' h1 h2 h3
theorem yIs (b : Nat) (i : Int) (w : World) (M : Mach) (L : Lay) (h : RM w b M L) : Calls Try.prog 77 #[.pointer (some ⟨b, 0, none⟩), .int .i64 i] w fun e w' => e = .returned (.bool (M.is i)) ∧ w = w' := by
  by_cases hi : i < 0 ∨ M.n ≤ i
  · rw [Mach.is_no hi]; exact Is_no b i w M L h hi
  · have h0 : 0 ≤ i := by omega
    have h1 : i < M.n := by omega
    have hn := h.hn
    obtain ⟨k, rfl⟩ := Int.eq_ofNat_of_zero_le h0
    rw [Mach.is_yes h0 h1]
    exact Is_yes b k w M L h (by omega)
/-- pins laid anew, behind the machine's change -/
theorem YLf.pin {w w4 w5 : World} {b Y : Nat} {L : Lay} {A : YL} {M M' : Mach} {sp : Nat → Sp} {d : Nat} {v : Value} {l : List (Int × Int)} (h : YS w b Y L M sp A) (hx : YM w w4 b Y (L.foot b) M') (hd : d < 8) (hp : PinsAt w5 v l) (hg : w4.grownBy w5 (A.pv d).ownBlock) (hn : v.ownBlock = (A.pv d).ownBlock ∨ ∀ g, v.ownBlock = some g → w4.heap.size ≤ g) :
    YLf w (w5.setCell ⟨A.fP, d, none⟩ v) b Y L A M' (upS sp d { sp d with pins := l }) := by
  obtain ⟨L', h4, c1, f1⟩ := h.core hx
  have c2 : Chg (yfoot b Y L A) w4 w5 := Chg.of hg fun j e => .inl (.inr (.inr (.inr (.inr ⟨d, hd, e⟩))))
  have c3 : Chg (yfoot b Y L A) w5 (w5.setCell ⟨A.fP, d, none⟩ v) := Chg.of (grownBy_setCell w5 A.fP d none v) fun j e => .inl (.inr (.inr (.inl (Option.some.inj e).symm)))
  refine ⟨L', _, h4.setPins hd hp hg hn, ((c1.mono fun k hk => .inl hk).trans c2 fun _ h => .inl h).trans c3 fun _ h => .inl h, fun k hk => ?_⟩
  rcases hk with e | e | e | e | ⟨q, hq, e⟩
  · exact (f1 k e).imp .inl id
  · exact .inl (.inr (.inl e))
  · exact .inl (.inr (.inr (.inl e)))
  · exact .inl (.inr (.inr (.inr (.inl e))))
  · simp only at e
    by_cases eq : q = d
    · subst eq
      rw [if_pos rfl] at e
      rcases hn with hn | hn
      · rw [hn] at e; exact .inl (.inr (.inr (.inr (.inr ⟨q, hq, e⟩))))
      · exact .inr (Nat.le_trans hx.c.size (hn k e))
    · rw [if_neg eq] at e
      exact .inl (.inr (.inr (.inr (.inr ⟨q, hq, e⟩))))
theorem yPin_dom (b Y : Nat) (o i lv : Int) (w : World) (L : Lay) (M : Mach) (sp : Nat → Sp) (A : YL) (h : YS w b Y L M sp A) (hdn : o < 0 ∨ 8 ≤ o) :
    Calls Try.prog 84 #[.pointer (some ⟨Y, 0, none⟩), .int .i64 o, .int .i64 i, .int .i64 lv] w fun e w' => e = .returned (.int .i64 1) ∧ YLf w w' b Y L A M sp := by
  have HS := hid h
  clear h
  go_enter Try.func84, Try.ntmps84
  go_wp2_with (go_at_call 104; refine (rDomain_no _ _ hdn).mono ?_; rintro e w1 ⟨rfl, rfl⟩)
  go_ret
  exact ⟨rfl, YLf.same HS.out (World.grownBy.refl _ _)⟩
theorem yPin_lv (b Y d : Nat) (i lv : Int) (w : World) (L : Lay) (M : Mach) (sp : Nat → Sp) (A : YL) (h : YS w b Y L M sp A) (hd : d < 8) (hlv : lv < 1 ∨ 2 < lv) :
    Calls Try.prog 84 #[.pointer (some ⟨Y, 0, none⟩), .int .i64 d, .int .i64 i, .int .i64 lv] w fun e w' => e = .returned (.int .i64 1) ∧ YLf w w' b Y L A M sp := by
  have HS := hid h
  have hd0 : (0 : Int) ≤ d := by omega
  have hd8 : (d : Int) < 8 := by omega
  clear h
  by_cases h1 : lv < 1
  · have h1b : decide (lv < 1) = true := by simp [h1]
    go_enter Try.func84, Try.ntmps84
    go_wp2_with (go_at_call 104; refine (rDomain_yes _ _ hd0 hd8).mono ?_; rintro e w1 ⟨rfl, rfl⟩)
    go_ret
    exact ⟨rfl, YLf.same HS.out (World.grownBy.refl _ _)⟩
  · have h1' : 1 ≤ lv := by omega
    have h2 : 2 < lv := by omega
    clear h1 hlv
    go_enter Try.func84, Try.ntmps84
    go_wp2_with (go_at_call 104; refine (rDomain_yes _ _ hd0 hd8).mono ?_; rintro e w1 ⟨rfl, rfl⟩)
    go_ret
    exact ⟨rfl, YLf.same HS.out (World.grownBy.refl _ _)⟩
set_option maxRecDepth 100000 in
theorem yPin_core (b Y d : Nat) (i lv : Int) (w : World) (L : Lay) (M : Mach) (sp : Nat → Sp) (A : YL) (h : YS w b Y L M sp A) (hd : d < 8) (hl : (sp d).pins.length ≤ 1000000) (hlo : lv = 1 ∨ lv = 2)
    (ht : YCall 109 #[.pointer (some ⟨Y, 0, none⟩), .int .i64 d, .int .i64 i, .int .i64 lv] b Y M (.returned (.int .i64 (refT lv M d i).1)) (refT lv M d i).2) :
    Calls Try.prog 84 #[.pointer (some ⟨Y, 0, none⟩), .int .i64 d, .int .i64 i, .int .i64 lv] w fun e w' => e = .returned (.int .i64 (pinV M sp d i lv).1) ∧ YLf w w' b Y L A (pinV M sp d i lv).2.1 (pinV M sp d i lv).2.2 := by
  have HS := hid h
  have y0 := h.y0
  have hd0 : (0 : Int) ≤ d := by omega
  have hd8 : (d : Int) < 8 := by omega
  have hdk := domOk_cast hd
  have HT := hid ht
  have hl1 : (1 : Int) ≤ lv := by omega
  have hl2 : lv ≤ 2 := by omega
  unfold pinV
  have hlo' : ¬ ¬ (lv = 1 ∨ lv = 2) := fun e => e hlo
  simp only [hdk, hlo', Bool.true_eq_false, false_or, Int.toNat_natCast]
  obtain ⟨r, hr⟩ : ∃ r, refT lv M d i = r := ⟨_, rfl⟩
  rw [hr] at HT ⊢
  have HNo := hid (show r.1 ≠ 0 → r.2 = M from fun e => by rw [← hr] at e ⊢; exact refT_no e)
  obtain ⟨c, M'⟩ := r
  simp only at HT HNo ⊢
  clear ht hlo hlo' hr h
  cases hi : M.is i with
  | false =>
    simp only [if_true]
    go_enter Try.func84, Try.ntmps84
    go_wp2_with (first
      | (go_at_call 104; refine (rDomain_yes _ _ hd0 hd8).mono ?_; rintro e w1 ⟨rfl, rfl⟩)
      | (go_at_call 77; refine (yIs _ _ _ M L HS.out.r).mono ?_; rintro e w1 ⟨rfl, rfl⟩; rw [hi]))
    go_ret
    exact ⟨rfl, YLf.same HS.out (World.grownBy.refl _ _)⟩
  | true =>
    simp only [Bool.true_eq_false, if_false]
    obtain ⟨a, ha⟩ : ∃ a, pinAt (sp d).pins i = a := ⟨_, rfl⟩
    rw [ha]
    by_cases h0 : 0 ≤ a
    · rw [if_pos h0]
      go_enter Try.func84, Try.ntmps84
      go_wp2_with (first
        | (go_at_call 104; refine (rDomain_yes _ _ hd0 hd8).mono ?_; rintro e w1 ⟨rfl, rfl⟩)
        | (go_at_call 77; refine (yIs _ _ _ M L HS.out.r).mono ?_; rintro e w1 ⟨rfl, rfl⟩; rw [hi])
        | (go_at_call 108; refine (ypinned b Y d i _ L M sp A HS.out hd hl).mono ?_; rw [ha]; rintro e w1 ⟨rfl, rfl⟩))
      go_ret
      exact ⟨rfl, YLf.same HS.out (World.grownBy.refl _ _)⟩
    · rw [if_neg h0]
      have h0' : a < 0 := by omega
      clear h0
      by_cases hz : c = 0
      · subst hz
        rw [if_neg (by simp)]
        clear HNo
        go_enter Try.func84, Try.ntmps84
        go_wp2_with (first
          | (go_at_call 104; refine (rDomain_yes _ _ hd0 hd8).mono ?_; rintro e w1 ⟨rfl, rfl⟩)
          | (go_at_call 77; refine (yIs _ _ _ M L HS.out.r).mono ?_; rintro e w1 ⟨rfl, rfl⟩; rw [hi])
          | (go_at_call 108; refine (ypinned b Y d i _ L M sp A HS.out hd hl).mono ?_; rw [ha]; rintro e w1 ⟨rfl, rfl⟩)
          | (go_at_call 109; refine (HT.out _ _ HS.out.ym).mono ?_; rintro e w2 ⟨rfl, h2⟩; have H2 := hid h2; clear h2))
        obtain ⟨L4, hs4, hc4, hf4⟩ := HS.out.core H2.out
        have HS4 := hid hs4
        have ga := World.grownBy_alloc w2 (.cells #[.int .i64 i, .int .i64 lv] 158) none
        have HYd := hid ((HS4.out.grown ga).grown (grownBy_drew _ none))
        have HX4 := hid (H2.out.more (ga.trans (grownBy_drew _ none)))
        have HPN := hid (fun j u hj => (grownBy_drew (w2.alloc (.cells #[.int .i64 i, .int .i64 lv] 158)) none).cell (pin_new w2 i lv j u hj) (by simp))
        have z1 := HYd.out.y1; have z2 := HYd.out.pins hd; have z3 := HYd.out.pr.frozen d
        have a1 := HS4.out.y1; have a2 := HS4.out.pins hd
        clear hs4 hc4 hf4 ga
        go_region_law (refine step_pins (by rfl) _ _ (by rfl) (A.pv d) (sp d).pins (by simp [Act.eval, Act.put]) (HYd.out.pin d hd) ⟨w2.heap.size, 0, none⟩ 1 [(i, lv)] (by simp [Act.eval, Act.put]) (by simp) HPN.out (by simp; omega) ?_; intro p' c' w5 h5 g5 n5; have HE := hid (YLf.pin HS.out HX4.out hd h5 g5 n5); have ht5 := HYd.out.pr.grown g5 (fun e => HYd.out.gP hd e.symm); have q0 := ht5.cell (k := d) (by omega); have q1 := ht5.frozen d; have q2 : w5.cell? ⟨Y, 1, none⟩ = some (.slice (some ⟨A.fP, 0, none⟩) 8 A.cP) := (HYd.out.top.grown g5 (fun e => HYd.out.gY hd e.symm)).cell (k := 1) (by omega); clear h5 g5 n5 ht5)
        all_goals
          go_wp2
          go_ret
          have he := HE.out
          simp only [List.length_append, List.length_cons, List.length_nil, Nat.zero_add] at he
          exact ⟨rfl, he⟩
      · obtain rfl := (HNo.out hz).symm
        rw [if_pos hz]
        have hzb : (c == 0) = false := by simp [hz]
        go_enter Try.func84, Try.ntmps84
        go_wp2_with (first
          | (go_at_call 104; refine (rDomain_yes _ _ hd0 hd8).mono ?_; rintro e w1 ⟨rfl, rfl⟩)
          | (go_at_call 77; refine (yIs _ _ _ M L HS.out.r).mono ?_; rintro e w1 ⟨rfl, rfl⟩; rw [hi])
          | (go_at_call 108; refine (ypinned b Y d i _ L M sp A HS.out hd hl).mono ?_; rw [ha]; rintro e w1 ⟨rfl, rfl⟩)
          | (go_at_call 109; refine (HT.out _ _ HS.out.ym).mono ?_; rintro e w2 ⟨rfl, h2⟩; have H2 := hid h2; clear h2))
        go_ret
        exact ⟨rfl, YLf.of HS.out H2.out⟩
end Go.Proofs.Ytemeihamkdpmoaa
