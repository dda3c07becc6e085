/-
  Package tenementref02 over the reference's machine: Word.
-/
import Derived.Test.YtgnihllnjaagcaaVRefD
set_option linter.unusedSimpArgs false
set_option linter.unusedVariables false
namespace Go.Proofs.Ytgnihllnjaagcaa
open Go.RowKit
set_option maxHeartbeats 1200000

/-- what a read of the reference's view leaves -/
def RVRead (w : World) (U b : Nat) (pa : Option Addr) (len cap : Nat) (n : Int) (L : Lay) (M' : Mach) (w' : World) : Prop :=
  RV w' U b pa len cap n ∧ ∃ L', RM w' b M' L' ∧ L'.n = L.n ∧ Chg (fun q => q = U ∨ L.foot b q) w w' ∧ ∀ q, L'.foot b q → L.foot b q ∨ w.heap.size ≤ q
theorem RVRead.more {w w' W : World} {U b : Nat} {pa : Option Addr} {len cap : Nat} {n : Int} {L : Lay} {M' : Mach} (h : RVRead w U b pa len cap n L M' w') (hg : w'.grownBy W none) : RVRead w U b pa len cap n L M' W := by
  obtain ⟨hv, L', hm, hn, hc, hf⟩ := h
  exact ⟨hv.grown hg, L', hm.grown hg, hn, hc.trans (Chg.of0 (S := fun q => q = U ∨ L.foot b q) hg) (fun _ e => .inl e), hf⟩
set_option maxRecDepth 100000 in
theorem rvWord (U b : Nat) (pa : Option Addr) (cap : Nat) (l : List PokeV) (n : Nat) (i off : Int) (w0 w : World) (M : Mach) (L : Lay) (h : RV w U b pa l.length cap n) (hM : RM w b M L) (hp : PokesIn w0 pa l) (hl : l.length ≤ 64) (hn : (n : Int) < 9223372036854775807)
    (hg : w0.grownBy w none) (hU : ¬ L.foot b U) (far : ∀ k, L.foot b k → w0.heap.size ≤ k) :
    Calls Try.prog 77 #[.pointer (some ⟨U, 0, none⟩), .int .i64 i, .int .i64 off] w fun e w' => e = .returned (.tuple #[.int .u16 (wordOf ((M.rews (due l n)).read i off 2)), .int .i64 ((M.rews (due l n)).read i off 2).2]) ∧ RVRead w U b pa l.length cap (n + 1 : Nat) L (M.rews (due l n)) w' := by
  have HR := hid (rvRead U b pa cap l n i off 2 w0 w M L h hM hp hl hn (by omega) hg hU far)
  clear h hM hp hg hU far
  obtain ⟨r, hr⟩ : ∃ r, (M.rews (due l n)).read i off 2 = r := ⟨_, rfl⟩
  have h2 := read_two (M.rews (due l n)) i off
  rw [hr] at h2 HR ⊢
  clear hr
  obtain ⟨bs, c⟩ := r
  rcases h2 with ⟨h1, h2⟩ | ⟨h1, x, y, h2⟩
  · simp only at h1 h2
    subst h1 h2
    go_enter Try.func77, Try.ntmps77
    go_wp2_with (go_at_call 75; refine HR.out.mono ?_; rintro e w1 ⟨v, rfl, hb, hv⟩; have HV := hid hv; clear hb hv)
    go_ret2
    exact ⟨rfl, HV.out⟩
  · simp only at h1 h2
    subst h1 h2
    have hx := x.toNat_lt
    have hy := y.toNat_lt
    go_enter Try.func77, Try.ntmps77
    go_wp2_with (go_at_call 75; refine HR.out.mono ?_; rintro e w1 ⟨v, rfl, ⟨q, cc, rfl, hk⟩, hv⟩; have HV := hid hv; clear hv)
    rcases hk with hk | ⟨g, o, rfl, _, hk⟩
    · cases hk
    · have k0 := hk 0 (by simp)
      have k1 := hk 1 (by simp)
      simp only [List.getD_cons_zero, List.getD_cons_succ, Nat.add_zero] at k0 k1
      clear hk
      go_quiet (fail)
      all_goals go_wp2
      all_goals go_ret2
      all_goals exact ⟨rfl, RVRead.more HV.out (grownBy_drewN _ _ _)⟩
end Go.Proofs.Ytgnihllnjaagcaa
