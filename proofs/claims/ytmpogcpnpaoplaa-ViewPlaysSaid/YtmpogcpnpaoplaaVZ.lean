/-
  law02.play: Read on both sides.
-/
import Derived.Test.YtmpogcpnpaoplaaVY
namespace Go.Proofs.Ytmpogcpnpaoplaa
open Go.RowKit
set_option maxHeartbeats 1200000

theorem VX.ref {w0 w W : World} {V G B : Nat} {S : Nat → Prop} {l : List PokeV} {n : Nat} {M M2 : Mach} {U b : Nat} {pa : Option Addr} {cap n' : Nat} {M' : Mach} {L : Lay} (h : VX w0 w V G B S l n M U b pa cap n' M') (hL : RM w b M' L) (hk : ∀ q, L.foot b q → w0.heap.size ≤ q ∧ q ≠ U ∧ q ≠ B ∧ ¬ vfoot V G S q) (hr : VRead w V G B S l n l.length M2 W) : RM W b M' L :=
  hL.chg hr.chg fun q hq e => by
    obtain ⟨_, _, k2, k3⟩ := hk q hq
    rcases e with e | e | e
    · exact k3 (.inl e)
    · exact k3 (.inr (.inl e))
    · exact k2 e
set_option maxRecDepth 100000 in
theorem play0 (w0 w : World) (V G B : Nat) (S : Nat → Prop) (l : List PokeV) (n : Nat) (M : Mach) (X : Int) (U b : Nat) (pa : Option Addr) (cap : Nat) (i off nn : Int) (qb : Value) (h : VX w0 w V G B S l n M U b pa cap n M) (hok : M.ok X) (hp : PokesIn w0 pa l) (hl : l.length ≤ 64) (hn : (n : Int) < 9223372036854775807) (ho : off ≤ 9223372036854775807) (hnn : nn ≤ 9223372036854775807) :
    Calls Try.prog 23 #[.pointer (some ⟨V, 0, none⟩), .pointer (some ⟨U, 0, none⟩), .agg #[.int .i64 0, .int .i64 i, .int .i64 off, .int .i64 nn, qb]] w fun e w' => e = .returned (.bool true) ∧ VX w0 w' V G B S l (n + 1) (M.rews (due l n)) U b pa cap (n + 1) (M.rews (due l n)) := by
  obtain ⟨W, hW, hg, hs, hrow⟩ := box5v w (.int .i64 0) (.int .i64 i) (.int .i64 off) (.int .i64 nn) qb
  obtain ⟨l1, l2, l3⟩ := h.lt
  have H := hid (h.more hg); have HP := hid hp; have HOk := hid hok; have HFit := hid hp.fits
  have c0 : W.cell? ⟨w.heap.size, 0, none⟩ = some (.int .i64 0) := hrow.cell (k := 0) (by omega)
  have c1 : W.cell? ⟨w.heap.size, 1, none⟩ = some (.int .i64 i) := hrow.cell (k := 1) (by omega)
  have c2 : W.cell? ⟨w.heap.size, 2, none⟩ = some (.int .i64 off) := hrow.cell (k := 2) (by omega)
  have c3 : W.cell? ⟨w.heap.size, 3, none⟩ = some (.int .i64 nn) := hrow.cell (k := 3) (by omega)
  obtain ⟨r, hr⟩ : ∃ r, (M.rews (due l n)).read i off nn = r := ⟨_, rfl⟩
  have h2 : (r.2 == r.2) = true := by simp
  obtain ⟨L, hL, hk⟩ := H.out.k
  have HL := hid hL; have HK := hid hk
  have HLt := hid (fun q (hq : L.foot b q) => (hL.lt hq : q < W.heap.size))
  have HUl := hid (show U < W.heap.size from Row.lt H.out.r)
  clear h hp hok hg hrow hL hk
  go_enter Try.func23, Try.ntmps23
  go_wp2_with (first
    | (go_at_call 29; obtain ⟨fv, hfv⟩ := H.out.v; refine (vRead _ _ _ _ _ _ _ fv _ _ _ _ _ _ hfv H.out.m HOk.out HFit.out hn hl ho).mono ?_; rw [hr]; rintro e w2 ⟨v2, rfl, ⟨q2, d2, rfl, hk2⟩, h2'⟩; have k1 := h2'.chg.cell c1 (by rintro (e | e | e) <;> (change w.heap.size = _ at e; omega)); have k2 := h2'.chg.cell c2 (by rintro (e | e | e) <;> (change w.heap.size = _ at e; omega)); have k3 := h2'.chg.cell c3 (by rintro (e | e | e) <;> (change w.heap.size = _ at e; omega)); have H2 := hid (H.out.vread h2'); have HL2 := hid (H.out.ref HL.out HK.out h2'); have HK2 := hid hk2; clear h2' hfv hk2)
    | (go_at_call 58; refine (rvRead U b pa cap l n i off nn w0 _ M L H2.out.r HL2.out HP.out hl hn hnn H2.out.g (fun e => (HK.out U e).2.1 rfl) (fun q hq => (HK.out q hq).1)).mono ?_; rw [hr]; rintro e w3 ⟨v3, rfl, ⟨q3, d3, rfl, hin⟩, h3⟩; have H3 := hid (H2.out.rread HL2.out HK.out h3); have kc2 := in_string hin d3 w3 (World.grownBy.refl _ _); have kc1 := (by obtain ⟨_, _, _, _, hc3, _⟩ := h3; exact kept_string (HK2.out.chg hc3 (fun q hq e => by rcases e with rfl | e; (have := HUl.out; omega); (have := HLt.out q e; omega))) d2 w3 (World.grownBy.refl _ _) : (convert 31 9 (.slice q2 r.1.length d2)).run Try.prog w3 = .ok (.string ⟨r.1.toArray⟩) w3); clear h3 hin))
  go_ret
  exact ⟨rfl, H3.out⟩
end Go.Proofs.Ytmpogcpnpaoplaa
