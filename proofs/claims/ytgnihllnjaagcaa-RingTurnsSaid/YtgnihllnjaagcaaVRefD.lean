/-
  Package tenementref02 over the reference's machine: Read, whole.
-/
import Derived.Test.YtgnihllnjaagcaaVRefC
set_option linter.unusedSimpArgs false
set_option linter.unusedVariables false
namespace Go.Proofs.Ytgnihllnjaagcaa
open Go.RowKit
set_option maxHeartbeats 1200000

theorem read_bad {M : Mach} {i off n : Int} (h : M.is i = false ∨ inP off n = false) : M.read i off n = ([], 1) := by
  unfold Mach.read
  rcases h with e | e
  · simp [e]
  · cases M.is i <;> simp [e]
theorem read_good {M : Mach} {i off n : Int} (h : M.is i = true) (hp : inP off n = true) : M.read i off n = ((M.fr i.toNat).part off.toNat n.toNat, 0) := by
  unfold Mach.read
  simp [h, hp]
/-- Read of the reference's machine, whole -/
theorem rRead_all (b : Nat) (i off n : Int) (w : World) (M : Mach) (L : Lay) (h : RM w b M L) (hn : n ≤ 9223372036854775807) :
    Calls Try.prog 65 #[.pointer (some ⟨b, 0, none⟩), .int .i64 i, .int .i64 off, .int .i64 n] w fun e w' => ∃ v, e = .returned (.tuple #[v, .int .i64 (M.read i off n).2]) ∧ OutBytes w (M.read i off n).1 v w' := by
  by_cases hbad : M.is i = false ∨ inP off n = false
  · rw [read_bad hbad]
    exact (rRead_no b i off n w M L h hn hbad).mono fun e w' ⟨he, hw⟩ => ⟨_, he, none, 0, rfl, .inl rfl, hw ▸ World.grownBy.refl w none⟩
  · have his : M.is i = true := by cases e : M.is i with | true => rfl | false => exact absurd (.inl e) hbad
    have hin : inP off n = true := by cases e : inP off n with | true => rfl | false => exact absurd (.inr e) hbad
    rw [read_good his hin]
    obtain ⟨i0, i1⟩ := Mach.is_iff.1 his
    obtain ⟨p0, p1, p2⟩ := inP_iff.1 hin
    obtain ⟨j, rfl⟩ := Int.eq_ofNat_of_zero_le i0
    obtain ⟨o, rfl⟩ := Int.eq_ofNat_of_zero_le p0
    obtain ⟨m, rfl⟩ := Int.eq_ofNat_of_zero_le p1
    exact rRead_yes b j o m w M L h (by have := h.hn; omega) (by omega)
theorem rvRead (U b : Nat) (pa : Option Addr) (cap : Nat) (l : List PokeV) (n : Nat) (i off k : Int) (w0 w : World) (M : Mach) (L : Lay) (h : RV w U b pa l.length cap n) (hM : RM w b M L) (hp : PokesIn w0 pa l) (hl : l.length ≤ 64) (hn : (n : Int) < 9223372036854775807) (hk : k ≤ 9223372036854775807)
    (hg : w0.grownBy w none) (hU : ¬ L.foot b U) (far : ∀ k, L.foot b k → w0.heap.size ≤ k) :
    Calls Try.prog 75 #[.pointer (some ⟨U, 0, none⟩), .int .i64 i, .int .i64 off, .int .i64 k] w fun e w' => ∃ v, e = .returned (.tuple #[v, .int .i64 ((M.rews (due l n)).read i off k).2]) ∧
      (∃ p c, v = .slice p ((M.rews (due l n)).read i off k).1.length c ∧ InBytes w' p ((M.rews (due l n)).read i off k).1) ∧ RV w' U b pa l.length cap (n + 1 : Nat) ∧
      ∃ L', RM w' b (M.rews (due l n)) L' ∧ L'.n = L.n ∧ Chg (fun q => q = U ∨ L.foot b q) w w' ∧ ∀ q, L'.foot b q → L.foot b q ∨ w.heap.size ≤ q := by
  have hUw : U < w.heap.size := Row.lt h
  refine rvRead_loop U b pa cap l n i off k w0 w M L h hM hp hl hn hg hU far _ fun wr L' hx => ?_
  have hU' : ¬ L'.foot b U := fun e => by rcases hx.f U e with e | e; (exact hU e); omega
  have hc : Chg (fun q => q = U) wr (wr.setCell ⟨U, 2, none⟩ (.int .i64 (n + 1 : Nat))) := Chg.of (grownBy_setCell wr U 2 none _) fun j e => .inl (Option.some.inj e).symm
  have hm2 := hx.m.chg hc (fun q hq e => hU' (e ▸ hq))
  have hv2 : RV (wr.setCell ⟨U, 2, none⟩ (.int .i64 (n + 1 : Nat))) U b pa l.length cap (n + 1 : Nat) := Row.set hx.v (k := 2) rfl (fun j hj hne => by
    match j, hj, hne with
    | 0, _, _ => rfl
    | 1, _, _ => rfl
    | 2, _, hne => exact absurd rfl hne)
  refine (rRead_all b i off k _ _ L' hm2 hk).mono fun e w' ⟨v, he, p, c, hv, hin, hgw⟩ => ⟨v, _, he, v, rfl, ⟨p, c, hv, hin⟩, hv2.grown hgw, L', hm2.grown hgw, hx.n, ?_, hx.f⟩
  refine Chg.trans (S' := fun q => q = U) ?_ (hc.trans (Chg.of0 (S := fun q => q = U) hgw) fun _ e => .inl e) (fun q e => .inl (.inl e))
  exact ⟨hx.c.os, hx.c.tape, hx.c.output, hx.c.size, fun q hq hS => hx.c.block q hq fun e => hS (.inr e)⟩
end Go.Proofs.Ytgnihllnjaagcaa
