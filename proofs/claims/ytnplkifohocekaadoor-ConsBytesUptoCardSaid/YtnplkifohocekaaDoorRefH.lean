/-
  Contracts of package tenementref01: Write.
-/
import Derived.Test.YtnplkifohocekaaDoorRefG
set_option linter.unusedSimpArgs false
set_option linter.unusedVariables false
namespace Go.Proofs.YtnplkifohocekaaDoor
open Go.RowKit
set_option maxHeartbeats 400000

theorem laid_at (f : Fr) (off : Nat) (l : List UInt8) (k : Nat) (hk : k < l.length) : (f.laid off (l.take (k + 1))).bs (off + k) = l.getD k 0 := by
  have h1 : (l.take (k + 1)).length = k + 1 := by simp; omega
  unfold Fr.laid
  simp only [h1]
  rw [if_pos (by omega), show off + k - off = k by omega]
  simp [List.getD, List.getElem?_take]
theorem laid_else (f : Fr) (off : Nat) (l : List UInt8) (k q : Nat) (hk : k < l.length) (hq : q ≠ off + k) : (f.laid off (l.take (k + 1))).bs q = (f.laid off (l.take k)).bs q := by
  have h1 : (l.take (k + 1)).length = k + 1 := by simp; omega
  have h2 : (l.take k).length = k := by simp; omega
  unfold Fr.laid
  simp only [h1, h2]
  by_cases h : off ≤ q ∧ q < off + k
  · rw [if_pos (by omega), if_pos h]
    have e1 : q - off < k + 1 := by omega
    have e2 : q - off < k := by omega
    simp [List.getD, List.getElem?_take, e1, e2]
  · rw [if_neg (by omega), if_neg h]
theorem laid_hd (f : Fr) (off : Nat) (l : List UInt8) (q : Nat) (hq : q < 4) : (f.laid off l).cell q = f.cell q := by
  match q, hq with
  | 0, _ => rfl
  | 1, _ => rfl
  | 2, _ => rfl
  | 3, _ => rfl
/-- bytes that lie apart from the ref machine -/
def Apart (w : World) (L : Lay) (b : Nat) (pa : Option Addr) (l : List UInt8) : Prop :=
  ∀ k, k < l.length → ∃ sb so, pa = some ⟨sb, so, none⟩ ∧ ¬ L.foot b sb ∧ w.cell? ⟨sb, so + k, none⟩ = some (.int .u8 (l.getD k 0).toNat)
theorem write_step {w : World} {b j off k : Nat} {M : Mach} {L : Lay} {l : List UInt8} (h : RM w b (M.upd j ((M.fr j).laid off (l.take k))) L) (hj : j < L.n) (hk : k < l.length) :
    RM (w.setCell ⟨L.g j, off + k, none⟩ (.int .u8 (l.getD k 0).toNat)) b (M.upd j ((M.fr j).laid off (l.take (k + 1)))) L := by
  have := h.setByte hj (k := off + k) (x := l.getD k 0) (f := (M.fr j).laid off (l.take (k + 1))) (laid_at _ _ _ _ hk) (fun q _ hq => by rw [Mach.upd_same]; exact laid_else _ _ _ _ _ hk hq) (fun q hq => by rw [Mach.upd_same, laid_hd _ _ _ _ hq, laid_hd _ _ _ _ hq])
  rwa [Mach.upd_upd] at this
theorem chgG {L : Lay} {b j : Nat} (hj : j < L.n) (w : World) (k : Nat) (v : Value) : Chg (L.foot b) w (w.setCell ⟨L.g j, k, none⟩ v) := Chg.of (grownBy_setCell w (L.g j) k none v) fun i e => .inl (.inr (.inr (.inr ⟨j, hj, (Option.some.inj e).symm⟩)))

theorem rWrite (b : Nat) (i off : Int) (pa : Option Addr) (cap : Nat) (l : List UInt8) (w : World) (M : Mach) (L : Lay) (h : RM w b M L) (hmax : l.length ≤ 9223372036854775807) (hl : Apart w L b pa l) :
    Calls Tryd.prog 41 #[.pointer (some ⟨b, 0, none⟩), .int .i64 i, .int .i64 off, .slice pa l.length cap] w (RLeft b L w (M.write i off l).1 (M.write i off l).2) := by
  have HM := hid h
  have HA := hid hl
  have hmax' : (l.length : Int) ≤ 9223372036854775807 := by omega
  clear hl
  by_cases hbad : M.is i = false ∨ inP off l.length = false
  · have H := hid (show M.write i off l = (1, M) by
      rcases hbad with e | e
      · simp [Mach.write, e]
      · simp [Mach.write, e])
    go_enter Tryd.func41, Tryd.ntmps41
    go_wp2_with (go_at_call 66; refine (In_no _ _ _ _ _ _ _ HM.out hmax' hbad).mono ?_; rintro e w' ⟨rfl, rfl⟩)
    go_ret
    rw [H.out]
    exact RLeft.same HM.out
  have his : M.is i = true := by cases e : M.is i with | true => rfl | false => exact absurd (.inl e) hbad
  have hin : inP off l.length = true := by cases e : inP off l.length with | true => rfl | false => exact absurd (.inr e) hbad
  obtain ⟨i0, i1⟩ := Mach.is_iff.1 his
  obtain ⟨p0, p1, p2⟩ := inP_iff.1 hin
  obtain ⟨j, rfl⟩ := Int.eq_ofNat_of_zero_le i0
  obtain ⟨q, rfl⟩ := Int.eq_ofNat_of_zero_le p0
  have hj : j < L.n := by have := h.hn; omega
  have hp : q + l.length ≤ 256 := by omega
  have hj' : (j : Int) < L.n := by omega
  have c0 := h.slF
  have hown := h.owner hj
  clear hbad h
  by_cases hfree : (M.fr j).owner = -1
  · have H := hid (show M.write j q l = (11, M) by simp [Mach.write, his, hin, hfree])
    rw [hfree] at hown
    clear his hin hfree i1 p1 p2
    go_enter Tryd.func41, Tryd.ntmps41
    go_wp2_with (go_at_call 66; refine (In_yes _ _ _ _ _ _ _ HM.out hj hp).mono ?_; rintro e w' ⟨rfl, rfl⟩)
    go_ret
    rw [H.out]
    exact RLeft.same HM.out
  · have hfb : ((M.fr j).owner == -1) = false := by simp [hfree]
    have H := hid (show M.write j q l = (0, M.upd j ((M.fr j).laid q l)) by simp [Mach.write, his, hin, hfree])
    clear his hin hfree i1 p1 p2
    go_enter Tryd.func41, Tryd.ntmps41
    go_wp2_with (go_at_call 66; refine (In_yes _ _ _ _ _ _ _ HM.out hj hp).mono ?_; rintro e w' ⟨rfl, rfl⟩)
    clear c0 hown
    go_loopw [9] (fun i wr => ∃ k : Nat, i = .int .i64 k ∧ k ≤ l.length ∧ RM wr b (M.upd j ((M.fr j).laid q (l.take k))) L ∧ Chg (L.foot b) w wr) (fun i _ => l.length - (intOf i).toNat)
    case atStart => exact ⟨0, rfl, by omega, by rw [List.take_zero, laid_nil]; exact HM.out, Chg.refl _ _⟩
    case round =>
      obtain ⟨k, rfl, hk, hM, hc⟩ := hrel
      by_cases hlt : k < l.length
      · have hlt' : (k : Int) < l.length := by omega
        have hk0 : (0 : Int) ≤ k := by omega
        obtain ⟨sb, so, rfl, hsb, hcell⟩ := HA.out k hlt
        have cs := hc.cell hcell hsb
        have HS := hid hM; have HC := hid hc
        have c0 := hM.slB; have c1 := hM.sl hj; have c2 := hM.byte hj (k := q + k) (by omega); have f2 := (hM.row j hj).frozen (q + k)
        have hX := write_step hM hj hlt
        generalize l.getD k 0 = x at cs hX
        have HX := hid hX
        have hqk : (q : Int) + k < 256 := by omega
        have hqk0 : (0 : Int) ≤ (q : Int) + k := by omega
        clear hcell hM hc hX
        go_wp2
        go_region
        all_goals go_wp2
        all_goals go_roundw
        case rel => exact ⟨k + 1, by go_num, by omega, HX.out.grown (grownBy_drew _ none), (HC.out.trans (chgG hj _ _ _) (fun _ h => .inl h)).trans (Chg.of0 (S := L.foot b) (grownBy_drew _ none)) (fun _ h => .inl h)⟩
        case measure => simp [intOf]; omega
      · have hge : (l.length : Int) ≤ k := by omega
        obtain rfl : k = l.length := by omega
        have HS := hid hM; have HC := hid hc
        clear hM hc
        go_wp2
        go_ret
        rw [H.out]
        exact ⟨rfl, L, by have := HS.out; rwa [List.take_length] at this, rfl, HC.out, fun _ h => .inl h⟩
end Go.Proofs.YtnplkifohocekaaDoor
