/-
  Package mmu: Unpin whole; Base; Drop.
-/
import Derived.Test.YtemeihamkdpmoaaK21
set_option linter.unusedSimpArgs false
set_option linter.unusedVariables false
namespace Go.Proofs.Ytemeihamkdpmoaa
open Go.RowKit
set_option maxHeartbeats 1000000

theorem xUnpin_dom (X B : Nat) (o i : Int) (w : World) (M : Mach) (sp : Nat → Sp) (pv : Nat → Value) (h : PS w B X M sp pv) (hd : domOk o = false) :
    Calls Try.prog 42 #[.pointer (some ⟨X, 0, none⟩), .int .i64 o, .int .i64 i] w fun e w' => e = .returned (.int .i64 1) ∧ XL w w' B X pv M sp := by
  have HP := hid h
  have hc := h.c0
  clear h
  go_enter Try.func42, Try.ntmps42
  go_wp2_with (first
    | (go_at_call 89; refine (xmade_yes _ B _ hc).mono ?_; rintro e w1 ⟨rfl, rfl⟩)
    | (go_at_call 91; refine (xisDomain _ _).mono ?_; rintro e w1 ⟨rfl, rfl⟩))
  go_ret
  exact ⟨rfl, XL.same HP.out (World.grownBy.refl _ _)⟩
theorem xUnpin_none (X B d : Nat) (i : Int) (w : World) (M : Mach) (sp : Nat → Sp) (pv : Nat → Value) (h : PS w B X M sp pv) (hd : d < 8) (hl : (sp d).pins.length ≤ 1000000) (hk : (sp d).pins.length ≤ pinIx (sp d).pins i) :
    Calls Try.prog 42 #[.pointer (some ⟨X, 0, none⟩), .int .i64 d, .int .i64 i] w fun e w' => e = .returned (.int .i64 6) ∧ XL w w' B X pv M sp := by
  have HP := hid h
  have hc := h.c0
  have hd0 : (0 : Int) ≤ d := by omega
  have hd8 : (d : Int) < 8 := by omega
  have hdk := domOk_cast hd
  have ha := pinAt_none hk
  clear h hk
  go_enter Try.func42, Try.ntmps42
  go_wp2_with (first
    | (go_at_call 89; refine (xmade_yes _ B _ hc).mono ?_; rintro e w1 ⟨rfl, rfl⟩)
    | (go_at_call 91; refine (xisDomain _ _).mono ?_; rintro e w1 ⟨rfl, rfl⟩)
    | (go_at_call 93; refine (xpinned X _ _ _ _ _ (HP.out.pins hd) (HP.out.pin d hd) (by omega)).mono ?_; rw [ha]; rintro e w3 ⟨rfl, g3⟩; have HG := hid g3; clear g3))
  go_ret
  exact ⟨rfl, XL.same HP.out HG.out⟩
theorem pinIx_at {l : List (Int × Int)} {i : Int} (h : pinIx l i < l.length) : (l[pinIx l i]).1 = i := by
  have h' : l.findIdx (fun p : Int × Int => p.1 == i) < l.length := h
  have := List.findIdx_getElem (w := h')
  simpa [pinIx] using this
/-- the pins of a state are of frames that are there, of a level that there is -/
def PinsOk (M : Mach) (sp : Nat → Sp) : Prop := ∀ d, d < 8 → (sp d).pins.length ≤ 1000000 ∧ ∀ p ∈ (sp d).pins, M.is p.1 = true ∧ (p.2 = 1 ∨ p.2 = 2)
theorem xUnpin (X B : Nat) (o i : Int) (w : World) (M : Mach) (T : Int) (sp : Nat → Sp) (pv : Nat → Value) (h : PS w B X M sp pv) (hok : M.ok T) (hT : T < 4611686018427387904) (hpk : PinsOk M sp)
    (hF : ∀ p, domOk o = true → (sp o.toNat).pins[pinIx (sp o.toNat).pins i]? = some p → ∃ F : Cnt, Inv2 M (F.add p.1.toNat (p.2.toNat + 1))) :
    Calls Try.prog 42 #[.pointer (some ⟨X, 0, none⟩), .int .i64 o, .int .i64 i] w fun e w' => e = .returned (.int .i64 (unpinV M sp o i).1) ∧ XL w w' B X pv (unpinV M sp o i).2.1 (unpinV M sp o i).2.2 := by
  unfold unpinV
  cases hd : domOk o with
  | false => rw [if_pos rfl]; exact xUnpin_dom X B o i w M sp pv h hd
  | true =>
    rw [if_neg (by simp)]
    obtain ⟨d, rfl, hd8⟩ := domOk_nat hd
    simp only [Int.toNat_natCast] at hF ⊢
    by_cases hk : pinIx (sp d).pins i < (sp d).pins.length
    · have hat := pinIx_at hk
      rw [List.getElem?_eq_getElem hk] at hF ⊢
      obtain ⟨F, hF⟩ := hF _ hd rfl
      obtain ⟨q1, q2⟩ := (hpk d hd8).2 _ (List.getElem_mem hk)
      generalize hp : (sp d).pins[pinIx (sp d).pins i] = p at *
      obtain ⟨a, lv⟩ := p
      simp only at hat hF q1 q2 ⊢
      subst hat
      obtain ⟨a0, a1⟩ := Mach.is_iff.1 q1
      obtain ⟨j, rfl⟩ := Int.eq_ofNat_of_zero_le a0
      simp only [Int.toNat_natCast] at hF ⊢
      exact xUnpin_yes X B d _ j lv w M _ sp pv h hd8 (hpk d hd8).1 rfl hk hp fun W hW => xunpin q2 hW fun W' hW' => xunref q2 hF a1 hW' hok hT
    · rw [List.getElem?_eq_none (by omega)]
      exact xUnpin_none X B d i w M sp pv h hd8 (hpk d hd8).1 (by omega)

def dropRoot (M : Mach) (r : Int) : Mach := if r = -1 then M else untabG 2 3 dp2 M r.toNat
def baseV (M : Mach) (sp : Nat → Sp) (o i : Int) : Int × Mach × (Nat → Sp) :=
  if domOk o = false ∨ (i ≠ -1 ∧ M.is i = false) then (1, M, sp) else
  if i = -1 then (0, dropRoot M (sp o.toNat).root, upS sp o.toNat { sp o.toNat with root := -1 }) else
  if (tabG 3 take2 M o i).1 ≠ 0 then ((tabG 3 take2 M o i).1, M, sp) else (0, dropRoot (tabG 3 take2 M o i).2 (sp o.toNat).root, upS sp o.toNat { sp o.toNat with root := i })
theorem xBase_dom (X B : Nat) (o i : Int) (w : World) (M : Mach) (sp : Nat → Sp) (pv : Nat → Value) (h : PS w B X M sp pv) (hd : domOk o = false) :
    Calls Try.prog 43 #[.pointer (some ⟨X, 0, none⟩), .int .i64 o, .int .i64 i] w fun e w' => e = .returned (.int .i64 1) ∧ XL w w' B X pv M sp := by
  have HP := hid h
  have hc := h.c0
  clear h
  go_enter Try.func43, Try.ntmps43
  go_wp2_with (first
    | (go_at_call 89; refine (xmade_yes _ B _ hc).mono ?_; rintro e w1 ⟨rfl, rfl⟩)
    | (go_at_call 91; refine (xisDomain _ _).mono ?_; rintro e w1 ⟨rfl, rfl⟩))
  go_ret
  exact ⟨rfl, XL.same HP.out (World.grownBy.refl _ _)⟩
/-- a root is set behind the machine's change -/
theorem XL.root {w w5 : World} {B X : Nat} {pv : Nat → Value} {M M' : Mach} {sp : Nat → Sp} {d : Nat} (h : PS w B X M sp pv) (hx : XM w w5 B X M') (hd : d < 8) (r : Int) : XL w (w5.setCell ⟨X, 1 + d * 2, none⟩ (.int .i64 r)) B X pv M' (upS sp d { sp d with root := r }) :=
  ⟨pv, (h.core hx).setRoot hd r, (Chg.of hx.g (fun j e => .inl (.inl (Option.some.inj e).symm)) : Chg (xfoot B X pv) w w5).trans (Chg.of (S := xfoot B X pv) (grownBy_setCell w5 X (1 + d * 2) none _) fun j e => .inl (.inr (.inl (Option.some.inj e).symm))) fun _ h => .inl h, fun _ h => .inl h⟩
set_option maxRecDepth 100000 in
theorem xBase_none (X B d : Nat) (w : World) (M M' : Mach) (sp : Nat → Sp) (pv : Nat → Value) (h : PS w B X M sp pv) (hd : d < 8) (hM : (sp d).root = -1 → M' = M)
    (hdr : (sp d).root ≠ -1 → ∀ W, XM W W B X M → Calls Try.prog 96 #[.pointer (some ⟨X, 0, none⟩), .int .i64 (sp d).root, .int .i64 3] W fun e w' => e = .returned (.tuple #[]) ∧ XM W w' B X M') :
    Calls Try.prog 43 #[.pointer (some ⟨X, 0, none⟩), .int .i64 d, .int .i64 (-1)] w fun e w' => e = .returned (.int .i64 0) ∧ XL w w' B X pv M' (upS sp d { sp d with root := -1 }) := by
  have HP := hid h
  have hc := h.c0
  have hd0 : (0 : Int) ≤ d := by omega
  have hd8 : (d : Int) < 8 := by omega
  have hdk := domOk_cast hd
  have r0 := h.root hd
  have r1 := h.top.frozen (1 + d * 2)
  generalize hr : (sp d).root = r at *
  by_cases h1 : r = -1
  · obtain rfl := hM h1
    subst h1
    clear h hdr hM
    go_enter Try.func43, Try.ntmps43
    go_wp2_with (first
      | (go_at_call 89; refine (xmade_yes _ B _ hc).mono ?_; rintro e w1 ⟨rfl, rfl⟩)
      | (go_at_call 91; refine (xisDomain _ _).mono ?_; rintro e w1 ⟨rfl, rfl⟩))
    go_ret
    exact ⟨rfl, XL.root HP.out HP.out.xm hd (-1)⟩
  · have h1b : (r == -1) = false := by simp [h1]
    have h1n : (r != -1) = true := by simp [h1]
    have HD := hid (hdr h1)
    clear h hdr hM r1
    go_enter Try.func43, Try.ntmps43
    go_wp2_with (first
      | (go_at_call 89; refine (xmade_yes _ B _ hc).mono ?_; rintro e w1 ⟨rfl, rfl⟩)
      | (go_at_call 91; refine (xisDomain _ _).mono ?_; rintro e w1 ⟨rfl, rfl⟩)
      | (go_at_call 96; refine (HD.out _ HP.out.xm).mono ?_; rintro e w5 ⟨rfl, h5⟩; have H5 := hid (h5); have HP5 := hid (HP.out.core h5); have z0 := HP5.out.root hd; have z1 := HP5.out.top.frozen (1 + d * 2); clear h5))
    go_ret
    exact ⟨rfl, XL.root HP.out H5.out hd (-1)⟩
set_option maxRecDepth 100000 in
theorem xBase_some (X B d : Nat) (i : Int) (w : World) (M M' M'' : Mach) (T : Int) (c : Int) (sp : Nat → Sp) (pv : Nat → Value) (h : PS w B X M sp pv) (hd : d < 8) (hok : M.ok T) (hin : i ≠ -1) (hi : M.is i = true) (hcM : c ≠ 0 → M' = M)
    (ht : ∀ W, XM W W B X M → Calls Try.prog 94 #[.pointer (some ⟨X, 0, none⟩), .int .i64 d, .int .i64 i, .int .i64 3] W fun e w' => e = .returned (.int .i64 c) ∧ XM W w' B X M')
    (hM : (sp d).root = -1 → M'' = M') (hdr : c = 0 → (sp d).root ≠ -1 → ∀ W, XM W W B X M' → Calls Try.prog 96 #[.pointer (some ⟨X, 0, none⟩), .int .i64 (sp d).root, .int .i64 3] W fun e w' => e = .returned (.tuple #[]) ∧ XM W w' B X M'') :
    Calls Try.prog 43 #[.pointer (some ⟨X, 0, none⟩), .int .i64 d, .int .i64 i] w fun e w' => e = .returned (.int .i64 c) ∧ (c ≠ 0 → XL w w' B X pv M sp) ∧ (c = 0 → XL w w' B X pv M'' (upS sp d { sp d with root := i })) := by
  have HP := hid h
  have hc := h.c0
  have hd0 : (0 : Int) ≤ d := by omega
  have hd8 : (d : Int) < 8 := by omega
  have hdk := domOk_cast hd
  have HT := hid ht
  have HN := hid hok.n1
  have hib : (i == -1) = false := by simp [hin]
  have hinb : (i != -1) = true := by simp [hin]
  by_cases hz : c = 0
  · subst hz
    generalize hr : (sp d).root = r at *
    by_cases h1 : r = -1
    · obtain rfl := hM h1
      subst h1
      clear h ht hdr hM hcM hok
      go_enter Try.func43, Try.ntmps43
      go_wp2_with (first
        | (go_at_call 89; refine (xmade_yes _ B _ hc).mono ?_; rintro e w1 ⟨rfl, rfl⟩)
        | (go_at_call 91; refine (xisDomain _ _).mono ?_; rintro e w1 ⟨rfl, rfl⟩)
        | (go_at_call 92; refine (xhas _ B _ _ M HP.out.c0 HP.out.m HN.out).mono ?_; rintro e w1 ⟨rfl, rfl⟩; rw [hi])
        | (go_at_call 94; refine (HT.out _ HP.out.xm).mono ?_; rintro e w4 ⟨rfl, h4⟩; have H4 := hid h4; have HP4 := hid (HP.out.core h4); have r0 := HP4.out.root hd; rw [hr] at r0; have z1 := HP4.out.top.frozen (1 + d * 2); clear h4))
      go_ret
      exact ⟨rfl, fun e => absurd rfl e, fun _ => XL.root HP.out H4.out hd i⟩
    · have h1b : (r == -1) = false := by simp [h1]
      have h1n : (r != -1) = true := by simp [h1]
      have HD := hid (hdr rfl h1)
      clear h ht hdr hM hcM hok
      go_enter Try.func43, Try.ntmps43
      go_wp2_with (first
        | (go_at_call 89; refine (xmade_yes _ B _ hc).mono ?_; rintro e w1 ⟨rfl, rfl⟩)
        | (go_at_call 91; refine (xisDomain _ _).mono ?_; rintro e w1 ⟨rfl, rfl⟩)
        | (go_at_call 92; refine (xhas _ B _ _ M HP.out.c0 HP.out.m HN.out).mono ?_; rintro e w1 ⟨rfl, rfl⟩; rw [hi])
        | (go_at_call 94; refine (HT.out _ HP.out.xm).mono ?_; rintro e w4 ⟨rfl, h4⟩; have H4 := hid h4; have HP4 := hid (HP.out.core h4); have r0 := HP4.out.root hd; (try rw [hr] at r0); clear h4)
        | (go_at_call 96; refine (HD.out _ HP4.out.xm).mono ?_; rintro e w5 ⟨rfl, h5⟩; have H5 := hid (XM.step H4.out h5); have HP5 := hid (HP4.out.core h5); have z0 := HP5.out.root hd; have z1 := HP5.out.top.frozen (1 + d * 2); clear h5))
      go_ret
      exact ⟨rfl, fun e => absurd rfl e, fun _ => XL.root HP.out H5.out hd i⟩
  · have hzb : (c != 0) = true := by simp [hz]
    have hM' := hcM hz
    have HM' := hid hM'
    clear h ht hdr hM hcM hok hM'
    go_enter Try.func43, Try.ntmps43
    go_wp2_with (first
      | (go_at_call 89; refine (xmade_yes _ B _ hc).mono ?_; rintro e w1 ⟨rfl, rfl⟩)
      | (go_at_call 91; refine (xisDomain _ _).mono ?_; rintro e w1 ⟨rfl, rfl⟩)
      | (go_at_call 92; refine (xhas _ B _ _ M HP.out.c0 HP.out.m HN.out).mono ?_; rintro e w1 ⟨rfl, rfl⟩; rw [hi])
      | (go_at_call 94; refine (HT.out _ HP.out.xm).mono ?_; rintro e w4 ⟨rfl, h4⟩; have H4 := hid h4; have HP4 := hid (HP.out.core h4); have r0 := HP4.out.root hd; (try rw [hr] at r0); clear h4))
    go_ret
    have h4 := H4.out
    rw [HM'.out] at h4
    exact ⟨rfl, fun _ => XL.of HP.out h4, fun e => absurd e hz⟩
theorem xBase_has (X B d : Nat) (i : Int) (w : World) (M : Mach) (T : Int) (sp : Nat → Sp) (pv : Nat → Value) (h : PS w B X M sp pv) (hd : d < 8) (hok : M.ok T) (hin : i ≠ -1) (hi : M.is i = false) :
    Calls Try.prog 43 #[.pointer (some ⟨X, 0, none⟩), .int .i64 d, .int .i64 i] w fun e w' => e = .returned (.int .i64 1) ∧ XL w w' B X pv M sp := by
  have HP := hid h
  have hc := h.c0
  have hd0 : (0 : Int) ≤ d := by omega
  have hd8 : (d : Int) < 8 := by omega
  have hdk := domOk_cast hd
  have HN := hid hok.n1
  have hib : (i == -1) = false := by simp [hin]
  have hinb : (i != -1) = true := by simp [hin]
  clear h hok
  go_enter Try.func43, Try.ntmps43
  go_wp2_with (first
    | (go_at_call 89; refine (xmade_yes _ B _ hc).mono ?_; rintro e w1 ⟨rfl, rfl⟩)
    | (go_at_call 91; refine (xisDomain _ _).mono ?_; rintro e w1 ⟨rfl, rfl⟩)
    | (go_at_call 92; refine (xhas _ B _ _ M HP.out.c0 HP.out.m HN.out).mono ?_; rintro e w1 ⟨rfl, rfl⟩; rw [hi]))
  go_ret
  exact ⟨rfl, XL.same HP.out (World.grownBy.refl _ _)⟩
theorem xBase (X B : Nat) (o i : Int) (w : World) (M : Mach) (T : Int) (F : Cnt) (sp : Nat → Sp) (pv : Nat → Value) (h : PS w B X M sp pv) (hok : M.ok T) (hT : T + 20000 < 4611686018427387904) (hF : Inv2 M F)
    (hrt : ∀ d, d < 8 → (sp d).root ≠ -1 → M.is (sp d).root = true ∧ ∃ F' : Cnt, F = F'.add (sp d).root.toNat 3) :
    Calls Try.prog 43 #[.pointer (some ⟨X, 0, none⟩), .int .i64 o, .int .i64 i] w fun e w' => e = .returned (.int .i64 (baseV M sp o i).1) ∧ XL w w' B X pv (baseV M sp o i).2.1 (baseV M sp o i).2.2 := by
  unfold baseV
  cases hd : domOk o with
  | false => rw [if_pos (.inl rfl)]; exact xBase_dom X B o i w M sp pv h hd
  | true =>
    obtain ⟨d, rfl, hd8⟩ := domOk_nat hd
    simp only [Int.toNat_natCast, Bool.true_eq_false, false_or]
    by_cases hi1 : i = -1
    · subst hi1
      rw [if_neg (by simp), if_pos rfl]
      refine xBase_none X B d w M _ sp pv h hd8 (fun e => by unfold dropRoot; rw [if_pos e]) fun e W hW => ?_
      obtain ⟨a, F', b⟩ := hrt d hd8 e
      obtain ⟨a0, a1⟩ := Mach.is_iff.1 a
      have := xdr2 (F := F') (j := (sp d).root.toNat) (by rw [← b]; exact hF) (by rw [Int.toNat_of_nonneg a0]; exact a1) hW hok (by omega)
      rw [Int.toNat_of_nonneg a0] at this
      unfold dropRoot
      rw [if_neg e]
      exact this
    · cases hi : M.is i with
      | false => rw [if_pos ⟨hi1, rfl⟩]; exact xBase_has X B d i w M T sp pv h hd8 hok hi1 hi
      | true =>
        rw [if_neg (by simp), if_neg hi1]
        have hok' : (tabG 3 take2 M d i).2.ok (T + (1 + 65 * 64 : Nat)) := tabG_ok' (c := 65) (fun h o n => take2_ok h o n) hok d i
        have hno := tabG_no (K := 3) (tk := take2) (M := M) (o := d) (t := i)
        have hye := fun he => (tabG_yes lvl2 (o := d) (t := i) hF he).1
        have hsm := tabG_same lvl2 M d i
        have hta := fun W (hW : XM W W B X M) => xta2 (o := d) (i := i) hF.inv hW hok (by omega)
        generalize tabG 3 take2 M d i = r at *
        obtain ⟨c, M'⟩ := r
        simp only at hok' hno hye hsm hta ⊢
        refine (xBase_some X B d i w M M' (dropRoot M' (sp d).root) T c sp pv h hd8 hok hi1 hi hno hta (fun e => by unfold dropRoot; rw [if_pos e]) fun hc e W hW => ?_).mono ?_
        · obtain ⟨a, F', b⟩ := hrt d hd8 e
          obtain ⟨a0, a1⟩ := Mach.is_iff.1 a
          have hF2 := hye hc
          rw [b, Cnt.add_comm] at hF2
          have := xdr2 (j := (sp d).root.toNat) hF2 (by rw [Int.toNat_of_nonneg a0, hsm.n]; exact a1) hW hok' (by omega)
          rw [Int.toNat_of_nonneg a0] at this
          unfold dropRoot
          rw [if_neg e]
          exact this
        · rintro e w' ⟨rfl, h1, h2⟩
          by_cases hz : c = 0
          · rw [if_neg (by simpa using hz)]; exact ⟨by rw [hz], h2 hz⟩
          · rw [if_pos hz]; exact ⟨rfl, h1 hz⟩
end Go.Proofs.Ytemeihamkdpmoaa

/-
  Package mmu: Drop.
-/
set_option linter.unusedSimpArgs false
set_option linter.unusedVariables false
namespace Go.Proofs.Ytemeihamkdpmoaa
open Go.RowKit
set_option maxHeartbeats 1000000

theorem xDrop_dom (X B : Nat) (o : Int) (w : World) (M : Mach) (sp : Nat → Sp) (pv : Nat → Value) (h : PS w B X M sp pv) (hd : domOk o = false) :
    Calls Try.prog 45 #[.pointer (some ⟨X, 0, none⟩), .int .i64 o] w fun e w' => e = .returned (.int .i64 1) ∧ XL w w' B X pv M sp := by
  have HP := hid h
  have hc := h.c0
  clear h
  go_enter Try.func45, Try.ntmps45
  go_wp2_with (first
    | (go_at_call 89; refine (xmade_yes _ B _ hc).mono ?_; rintro e w1 ⟨rfl, rfl⟩)
    | (go_at_call 91; refine (xisDomain _ _).mono ?_; rintro e w1 ⟨rfl, rfl⟩))
  go_ret
  exact ⟨rfl, XL.same HP.out (World.grownBy.refl _ _)⟩
set_option maxRecDepth 100000 in
theorem xDrop_yes (X B d : Nat) (w : World) (Ms : Nat → Mach) (M'' : Mach) (sp sp'' : Nat → Sp) (pv : Nat → Value) (c : Int) (h : PS w B X (Ms 0) sp pv) (hd : d < 8) (hl : (sp d).pins.length ≤ 1000000)
    (hu : ∀ j (hj : j < (sp d).pins.length), ∀ W, XM W W B X (Ms j) → Calls Try.prog 95 #[.pointer (some ⟨X, 0, none⟩), .agg #[.int .i64 (sp d).pins[j].1, .int .i64 (sp d).pins[j].2]] W fun e w' => e = .returned (.tuple #[]) ∧ XM W w' B X (Ms (j + 1)))
    (hb : ∀ W pv', PS W B X (Ms (sp d).pins.length) (upS sp d { sp d with pins := [] }) pv' → Calls Try.prog 43 #[.pointer (some ⟨X, 0, none⟩), .int .i64 d, .int .i64 (-1)] W fun e w' => e = .returned (.int .i64 c) ∧ XL W w' B X pv' M'' sp'') :
    Calls Try.prog 45 #[.pointer (some ⟨X, 0, none⟩), .int .i64 d] w fun e w' => e = .returned (.int .i64 c) ∧ XL w w' B X pv M'' sp'' := by
  have HP := hid h
  have hc := h.c0
  have hd0 : (0 : Int) ≤ d := by omega
  have hd8 : (d : Int) < 8 := by omega
  have hdk := domOk_cast hd
  have HU := hid hu
  have HB := hid hb
  obtain ⟨n, hn⟩ : ∃ n, (sp d).pins.length = n := ⟨_, rfl⟩
  obtain ⟨p, cap, hv⟩ := (h.pin d hd).slice
  rw [hn] at hv
  have p0 := h.pins hd
  rw [hv] at p0
  clear h hu hb
  go_enter Try.func45, Try.ntmps45
  go_wp2_with (first
    | (go_at_call 89; refine (xmade_yes _ B _ hc).mono ?_; rintro e w1 ⟨rfl, rfl⟩)
    | (go_at_call 91; refine (xisDomain _ _).mono ?_; rintro e w1 ⟨rfl, rfl⟩))
  clear p0
  go_loopw [24] (fun x wr => ∃ j : Nat, x = .int .i64 j ∧ j ≤ n ∧ XM w wr B X (Ms j)) (fun x _ => n - (intOf x).toNat)
  case atStart => exact ⟨0, rfl, by omega, HP.out.xm⟩
  case round =>
    obtain ⟨j, rfl, hj, hx⟩ := hrel
    have HX := hid hx
    have HPj := hid (HP.out.core hx)
    clear hx
    have hj0 : (0 : Int) ≤ j := by omega
    by_cases hjn : j < n
    · have hjn' : (j : Int) < n := by omega
      have hjl : j < (sp d).pins.length := by omega
      have HUj := hid (HU.out j hjl)
      have hpin := HPj.out.pin d hd
      rw [hv] at hpin
      obtain ⟨g, e, y0, y1⟩ := hpin.at hjl
      subst e
      generalize (sp d).pins[j] = q at HUj y0 y1
      obtain ⟨a, b⟩ := q
      simp only at HUj y0 y1
      clear hpin
      go_wp2_with (go_at_call 95; refine (HUj.out _ (HX.out.more (World.grownBy_alloc wr _ none)).here).mono ?_; rintro e w2 ⟨rfl, h2⟩; have H2 := hid ((HX.out.more (World.grownBy_alloc wr _ none)).step h2); clear h2)
      go_roundw
      case rel => exact ⟨j + 1, by go_num, by omega, H2.out⟩
      case measure => simp [intOf]; omega
    · obtain rfl : j = n := by omega
      have hge : (j : Int) ≤ j := by omega
      have z0 := HPj.out.pins hd
      have z1 := HPj.out.top.frozen (1 + d * 2 + 1)
      have HE := hid (XL.pin (l := []) HP.out HX.out hd (v := .slice none 0 0) (.inl ⟨rfl, rfl⟩) (World.grownBy.refl wr _) (.inr fun g e => by simp [Value.ownBlock] at e))
      clear HPj
      have HB' := hid (hn ▸ HB.out : ∀ W pv', PS W B X (Ms j) (upS sp d { sp d with pins := [] }) pv' → Calls Try.prog 43 #[.pointer (some ⟨X, 0, none⟩), .int .i64 d, .int .i64 (-1)] W fun e w' => e = .returned (.int .i64 c) ∧ XL W w' B X pv' M'' sp'')
      obtain ⟨pv5, hps5, hch5, hft5⟩ := HE.out
      have HP5 := hid hps5; have HC5 := hid hch5; have HF5 := hid hft5
      clear hps5 hch5 hft5 HE
      go_wp2_with (go_at_call 43; refine (HB'.out _ _ HP5.out).mono ?_; rintro e w6 ⟨rfl, h6⟩; have HZ := hid (XL.trans HC5.out HF5.out h6); clear h6)
      go_ret
      exact ⟨rfl, HZ.out⟩
theorem make4 (w : World) : (Instr.makeSlice 31 (.int .i64 4) (.int .i64 4)).run Try.prog w = .ok (.slice (some ⟨w.heap.size, 0, none⟩) 4 4) (w.alloc (.cells (madeCells #[.int .u8 0] 4) 5)) := u8_make w 4 (by omega)
theorem wpList_make4 {ops : Array Oper} {rest : List Oper} {o : Oper} {a : Act} {w : World} {Q : Exit → Act → World → Prop} (hgd : o.guard = none) (ho : o.op = .makeSlice 31 (.const (.int .i64 4)) (.const (.int .i64 4)))
    (h : ∀ w', Row w' w.heap.size 5 4 (fun _ => .int .u8 0) → w.grownBy w' none → wpList Try.prog ops Q rest (a.put o.dst (.slice (some ⟨w.heap.size, 0, none⟩) 4 4)) w') : wpList Try.prog ops Q (o :: rest) a w :=
  wpList_exec hgd (v := .slice (some ⟨w.heap.size, 0, none⟩) 4 4) (w' := w.alloc (.cells (madeCells #[.int .u8 0] 4) 5)) (by unfold execOp; simp [ho, Act.eval]; rw [make4 w]; rfl)
    (h _ ⟨_, heap_alloc_new w _, by simp [madeCells], fun k hk => by simp [madeCells, hk, Nat.mod_one]⟩ (World.grownBy_alloc w _ none))
def bRow (n j k : Nat) : Value := if k < j then .int .u8 ((le4 n).getD k 0).toNat else .int .u8 0
set_option maxRecDepth 100000 in
theorem xbytesOf (n : Nat) (w : World) (hn : n < 4294967296) : Calls Try.prog 120 #[.int .u32 n] w fun e w' => ∃ g, e = .returned (.slice (some ⟨g, 0, none⟩) 4 4) ∧ Row w' g 5 4 (fun k => .int .u8 ((le4 n).getD k 0).toNat) ∧ w.heap.size ≤ g ∧ w.grownBy w' none := by
  go_enter Try.func120, Try.ntmps120
  obtain ⟨g, hg⟩ : ∃ g, w.heap.size = g := ⟨_, rfl⟩
  go_wp2_with (refine wpList_make4 rfl rfl ?_; intro w4 hr4 hg4; rw [hg] at hr4; rw [hg]; have HR4 := hid hr4; have HG4 := hid hg4; clear hr4 hg4)
  go_loopw [8] (fun x wr => ∃ j : Nat, x = .int .i64 j ∧ j ≤ 4 ∧ Row wr g 5 4 (bRow n j) ∧ w.grownBy wr none) (fun x _ => 4 - (intOf x).toNat)
  case atStart => exact ⟨0, rfl, by omega, HR4.out.congr (fun k _ => by simp [bRow]), HG4.out⟩
  case round =>
    obtain ⟨j, rfl, hj, hr, hgw⟩ := hrel
    have HR := hid hr; have HG := hid hgw
    clear hr hgw HR4 HG4
    have h4 : j = 0 ∨ j = 1 ∨ j = 2 ∨ j = 3 ∨ j = 4 := by omega
    rcases h4 with rfl | rfl | rfl | rfl | rfl
    · have z0 := HR.out.cell (k := 0) (by omega)
      have z1 := HR.out.frozen 0
      go_wp2
      go_roundw
      case rel => exact ⟨1, rfl, by omega, HR.out.set (by unfold bRow; rw [if_pos (by omega)]; congr 1; simp [le4]; try omega) (fun q _ hq => by unfold bRow; by_cases e : q < 0; (rw [if_pos e, if_pos (by omega)]); rw [if_neg e, if_neg (by omega)]), grown_set HG.out (by omega) _⟩
      case measure => simp [intOf]
    · have z0 := HR.out.cell (k := 1) (by omega)
      have z1 := HR.out.frozen 1
      go_wp2
      go_roundw
      case rel => exact ⟨2, rfl, by omega, HR.out.set (by unfold bRow; rw [if_pos (by omega)]; congr 1; simp [le4]; try omega) (fun q _ hq => by unfold bRow; by_cases e : q < 1; (rw [if_pos e, if_pos (by omega)]); rw [if_neg e, if_neg (by omega)]), grown_set HG.out (by omega) _⟩
      case measure => simp [intOf]
    · have z0 := HR.out.cell (k := 2) (by omega)
      have z1 := HR.out.frozen 2
      go_wp2
      go_roundw
      case rel => exact ⟨3, rfl, by omega, HR.out.set (by unfold bRow; rw [if_pos (by omega)]; congr 1; simp [le4]; try omega) (fun q _ hq => by unfold bRow; by_cases e : q < 2; (rw [if_pos e, if_pos (by omega)]); rw [if_neg e, if_neg (by omega)]), grown_set HG.out (by omega) _⟩
      case measure => simp [intOf]
    · have z0 := HR.out.cell (k := 3) (by omega)
      have z1 := HR.out.frozen 3
      go_wp2
      go_roundw
      case rel => exact ⟨4, rfl, by omega, HR.out.set (by unfold bRow; rw [if_pos (by omega)]; congr 1; simp [le4]; try omega) (fun q _ hq => by unfold bRow; by_cases e : q < 3; (rw [if_pos e, if_pos (by omega)]); rw [if_neg e, if_neg (by omega)]), grown_set HG.out (by omega) _⟩
      case measure => simp [intOf]
    · go_wp2
      go_ret
      exact ⟨g, rfl, HR.out.congr (fun q hq => by unfold bRow; rw [if_pos (by omega)]), by omega, HG.out⟩
end Go.Proofs.Ytemeihamkdpmoaa
