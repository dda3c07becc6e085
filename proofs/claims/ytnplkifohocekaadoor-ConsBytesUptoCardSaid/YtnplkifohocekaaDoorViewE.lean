/-
  Package view: contract of Word.
-/
import Derived.Test.YtnplkifohocekaaDoorViewD
import Derived.Test.YtnplkifohocekaaDoorOpen
import Derived.Laws.BitsAllLaws
set_option linter.unusedSimpArgs false
set_option linter.unusedVariables false
namespace Go.Proofs.YtnplkifohocekaaDoor
open Go.RowKit
set_option maxHeartbeats 1000000

theorem read_two (M : Mach) (i off : Int) : ((M.read i off 2).2 = 1 ∧ (M.read i off 2).1 = []) ∨ ((M.read i off 2).2 = 0 ∧ ∃ x y : UInt8, (M.read i off 2).1 = [x, y]) := by
  unfold Mach.read
  split
  · exact .inl ⟨rfl, rfl⟩
  split
  · exact .inl ⟨rfl, rfl⟩
  · refine .inr ⟨rfl, ?_⟩
    have : ((M.fr i.toNat).part off.toNat (2 : Int).toNat).length = 2 := part_len _ _ _
    match h : (M.fr i.toNat).part off.toNat (2 : Int).toNat, this with
    | [x, y], _ => exact ⟨x, y, rfl⟩
def wordOf (r : List UInt8 × Int) : Int := match r with | ([x, y], 0) => (x.toNat : Int) + 256 * (y.toNat : Int) | _ => 0
set_option maxRecDepth 100000 in
theorem or_word (x y : UInt8) : bits .or .u16 (x.toNat : Int) ((y.toNat : Int) * 256) = (x.toNat : Int) + 256 * (y.toNat : Int) := by
  have hx := x.toNat_lt
  have hy := y.toNat_lt
  have h := u16_or_nat x.toNat (y.toNat * 256) (by omega) (by omega)
  have e : ((y.toNat * 256 : Nat) : Int) = (y.toNat : Int) * 256 := by push_cast; rfl
  rw [e] at h
  rw [h]
  have := Nat.two_pow_add_eq_or_of_lt (i := 8) (b := x.toNat) (by omega) y.toNat
  rw [Nat.or_comm] at this
  rw [show y.toNat * 256 = 2 ^ 8 * y.toNat by omega, ← this]
  omega
set_option maxRecDepth 100000 in
theorem vWord (V G B : Nat) (S : Nat → Prop) (l : List PokeV) (n T : Nat) (f : Int → Option Value) (i off : Int) (w : World) (M : Mach) (X : Int) (h : VV w V G B S l n T f) (hM : PM w B M) (hok : M.ok X) (hf : ∀ p ∈ l, p.fits) (hn : (n : Int) < 9223372036854775807) (hll : l.length ≤ 64) (ho : off ≤ 9223372036854775807) :
    Calls Tryd.prog 72 #[.pointer (some ⟨V, 0, none⟩), .int .i64 i, .int .i64 off] w fun e w' => e = .returned (.tuple #[.int .u16 (wordOf ((M.rews (due l n)).read i off 2)), .int .i64 ((M.rews (due l n)).read i off 2).2]) ∧ VRead w V G B S l n T M w' := by
  have HR := hid (vRead V G B S l n T f i off 2 w M X h hM hok hf hn hll ho)
  have HB := hid h
  clear h hM hok hf
  obtain ⟨r, hr⟩ : ∃ r, (M.rews (due l n)).read i off 2 = r := ⟨_, rfl⟩
  have h2 := read_two (M.rews (due l n)) i off
  rw [hr] at h2 HR ⊢
  clear hr
  obtain ⟨bs, c⟩ := r
  rcases h2 with ⟨h1, h2⟩ | ⟨h1, x, y, h2⟩
  · simp only at h1 h2
    subst h1 h2
    go_enter Tryd.func72, Tryd.ntmps72
    go_wp2_with (go_at_call 74; refine HR.out.mono ?_; rintro e w1 ⟨v, rfl, hb, hv⟩; have HV := hid hv; clear hb hv)
    go_ret2
    exact ⟨rfl, HV.out⟩
  · simp only at h1 h2
    subst h1 h2
    have hx := x.toNat_lt
    have hy := y.toNat_lt
    go_enter Tryd.func72, Tryd.ntmps72
    go_wp2_with (go_at_call 74; refine HR.out.mono ?_; rintro e w1 ⟨v, rfl, hb, hv⟩; have HV := hid hv; obtain ⟨q, cc, rfl, hk⟩ := hb; clear hv)
    rcases hk with hk | ⟨g, rfl, _, hk⟩
    · cases hk
    · have k0 := hk 0 (by simp)
      have k1 := hk 1 (by simp)
      simp only [List.getD_cons_zero, List.getD_cons_succ] at k0 k1
      clear hk
      go_quiet (fail)
      all_goals go_wp2
      all_goals go_ret2
      all_goals exact ⟨(by show Ending.returned (.tuple #[.int .u16 (bits .or .u16 (x.toNat : Int) ((y.toNat : Int) * 256)), .int .i64 0]) = _; rw [or_word x y]; rfl), ⟨⟨_, HV.out.view.choose_spec.grown (grownBy_drewN _ _ _)⟩, HV.out.mach.grown (grownBy_drewN _ _ none) (by simp), HV.out.chg.trans (Chg.of0 (S := fun k => k = V ∨ k = G ∨ k = B) (grownBy_drewN _ _ _)) fun _ h => .inl h⟩⟩
end Go.Proofs.YtnplkifohocekaaDoor
