/-
  law02.play: Word on both sides.
-/
import Derived.Test.YtmpogcpnpaoplaaVX
import Derived.Laws.IdiomStrings
namespace Go.Proofs.Ytmpogcpnpaoplaa
open Go.RowKit
set_option maxHeartbeats 1200000

theorem box5v (w : World) (v0 v1 v2 v3 v4 : Value) : ∃ W, w.alloc (.cells #[v0, v1, v2, v3, v4] 56) = W ∧ w.grownBy W none ∧ W.heap.size = w.heap.size + 1 ∧ Row W w.heap.size 56 5 (fun k => [v0, v1, v2, v3, v4].getD k undef) := by
  have h := heap_alloc_new w (.cells #[v0, v1, v2, v3, v4] 56)
  refine ⟨_, rfl, World.grownBy_alloc w _ none, by simp, _, h, by simp, fun k hk => ?_⟩
  match k, hk with
  | 0, _ => rfl
  | 1, _ => rfl
  | 2, _ => rfl
  | 3, _ => rfl
  | 4, _ => rfl
theorem VX.lt {w0 w : World} {V G B : Nat} {S : Nat → Prop} {l : List PokeV} {n : Nat} {M : Mach} {U b : Nat} {pa : Option Addr} {cap n' : Nat} {M' : Mach} (h : VX w0 w V G B S l n M U b pa cap n' M') : V < w.heap.size ∧ G < w.heap.size ∧ B < w.heap.size := by
  obtain ⟨f, hf⟩ := h.v
  exact ⟨hf.foot_lt (.inl rfl), hf.foot_lt (.inr (.inl rfl)), h.m.lt⟩
set_option maxRecDepth 100000 in
theorem play1 (w0 w : World) (V G B : Nat) (S : Nat → Prop) (l : List PokeV) (n : Nat) (M : Mach) (X : Int) (U b : Nat) (pa : Option Addr) (cap : Nat) (i off nn : Int) (qb : Value) (h : VX w0 w V G B S l n M U b pa cap n M) (hok : M.ok X) (hp : PokesIn w0 pa l) (hl : l.length ≤ 64) (hn : (n : Int) < 9223372036854775807) (ho : off ≤ 9223372036854775807) :
    Calls Try.prog 23 #[.pointer (some ⟨V, 0, none⟩), .pointer (some ⟨U, 0, none⟩), .agg #[.int .i64 1, .int .i64 i, .int .i64 off, .int .i64 nn, qb]] w fun e w' => e = .returned (.bool true) ∧ VX w0 w' V G B S l (n + 1) (M.rews (due l n)) U b pa cap (n + 1) (M.rews (due l n)) := by
  obtain ⟨W, hW, hg, hs, hrow⟩ := box5v w (.int .i64 1) (.int .i64 i) (.int .i64 off) (.int .i64 nn) qb
  obtain ⟨l1, l2, l3⟩ := h.lt
  have H := hid (h.more hg); have HP := hid hp; have HOk := hid hok; have HFit := hid hp.fits
  have c0 : W.cell? ⟨w.heap.size, 0, none⟩ = some (.int .i64 1) := hrow.cell (k := 0) (by omega)
  have c1 : W.cell? ⟨w.heap.size, 1, none⟩ = some (.int .i64 i) := hrow.cell (k := 1) (by omega)
  have c2 : W.cell? ⟨w.heap.size, 2, none⟩ = some (.int .i64 off) := hrow.cell (k := 2) (by omega)
  obtain ⟨r, hr⟩ : ∃ r, (M.rews (due l n)).read i off 2 = r := ⟨_, rfl⟩
  have h1 : (wordOf r == wordOf r) = true := by simp
  have h2 : (r.2 == r.2) = true := by simp
  clear h hp hok hg hrow
  go_enter Try.func23, Try.ntmps23
  go_wp2_with (first
    | (go_at_call 32; obtain ⟨fv, hfv⟩ := H.out.v; refine (vWord _ _ _ _ _ _ _ fv _ _ _ _ _ hfv H.out.m HOk.out HFit.out hn hl ho).mono ?_; rw [hr]; rintro e w2 ⟨rfl, h2'⟩; have k1 := h2'.chg.cell c1 (by rintro (e | e | e) <;> (change w.heap.size = _ at e; omega)); have k2 := h2'.chg.cell c2 (by rintro (e | e | e) <;> (change w.heap.size = _ at e; omega)); have H2 := hid (H.out.vread h2'); clear h2' hfv)
    | (go_at_call 59; obtain ⟨L, hL, hk⟩ := H2.out.k; refine (rvWord U b pa cap l n i off w0 _ M L H2.out.r hL HP.out hl hn H2.out.g (fun e => (hk U e).2.1 rfl) (fun q hq => (hk q hq).1)).mono ?_; rw [hr]; rintro e w3 ⟨rfl, h3⟩; have H3 := hid (H2.out.rread hL hk h3); clear h3 hL hk))
  go_ret
  exact ⟨rfl, H3.out⟩
end Go.Proofs.Ytmpogcpnpaoplaa
