/-
  Two views that share nothing, read side by side; a row of rewrites made of two. No walk here.
-/
import Derived.Test.YtmpogcpnpaoplaaVLate
import Derived.Deep.Cut
import Derived.LaidEqlPtr
namespace Go.Proofs.Ytmpogcpnpaoplaa
open Go.ChangeShapes Go.WideShapes Go.ChangeAt Go.RowKit
set_option maxHeartbeats 1000000

/-- two views that share nothing, both before read j -/
structure Twin (w W : World) (V G B V2 G2 B2 : Nat) (S S2 : Nat → Prop) (l l2 : List PokeV) (j : Nat) (M : Mach) (T T2 : Nat) : Prop where
  v1 : ∃ f, VV W V G B S l j T f
  v2 : ∃ f, VV W V2 G2 B2 S2 l2 j T2 f
  m1 : PM W B M
  m2 : PM W B2 M
  sep1 : ∀ k, vfoot V G S k → k ≠ V2 ∧ k ≠ G2 ∧ k ≠ B2
  sep2 : ∀ k, vfoot V2 G2 S2 k → k ≠ V ∧ k ≠ G ∧ k ≠ B
  BB : B ≠ V2 ∧ B ≠ G2 ∧ B ≠ B2 ∧ B2 ≠ V ∧ B2 ≠ G
  far : w.heap.size ≤ V ∧ w.heap.size ≤ G ∧ w.heap.size ≤ B ∧ w.heap.size ≤ V2 ∧ w.heap.size ≤ G2 ∧ w.heap.size ≤ B2
  grown : w.grownBy W none
theorem Twin.more {w W W' : World} {V G B V2 G2 B2 : Nat} {S S2 : Nat → Prop} {l l2 : List PokeV} {j : Nat} {M : Mach} {T T2 : Nat} (h : Twin w W V G B V2 G2 B2 S S2 l l2 j M T T2) (hg : W.grownBy W' none) : Twin w W' V G B V2 G2 B2 S S2 l l2 j M T T2 :=
  ⟨let ⟨f, hf⟩ := h.v1; ⟨f, hf.grown hg⟩, let ⟨f, hf⟩ := h.v2; ⟨f, hf.grown hg⟩, h.m1.grown hg (by simp), h.m2.grown hg (by simp), h.sep1, h.sep2, h.BB, h.far, h.grown.trans hg⟩
/-- the first view has read, the second not yet -/
structure Half (w W : World) (V G B V2 G2 B2 : Nat) (S S2 : Nat → Prop) (l l2 : List PokeV) (j : Nat) (M M' : Mach) (T T2 : Nat) : Prop where
  v1 : ∃ f, VV W V G B S l (j + 1) T f
  v2 : ∃ f, VV W V2 G2 B2 S2 l2 j T2 f
  m1 : PM W B M'
  m2 : PM W B2 M
  grown : w.grownBy W none
theorem Twin.half {w W w5 : World} {V G B V2 G2 B2 : Nat} {S S2 : Nat → Prop} {l l2 : List PokeV} {j : Nat} {M : Mach} {T T2 : Nat} (h : Twin w W V G B V2 G2 B2 S S2 l l2 j M T T2) (hr : VRead W V G B S l j T M w5) : Half w w5 V G B V2 G2 B2 S S2 l l2 j M (M.rews (due l j)) T T2 := by
  obtain ⟨f2, hv2⟩ := h.v2
  obtain ⟨a, b, c, d, e⟩ := h.BB
  obtain ⟨q1, q2, q3, q4, q5, q6⟩ := h.far
  refine ⟨hr.view, ⟨f2, hv2.chg hr.chg fun k hk e => ?_⟩, hr.mach, h.m2.chg hr.chg (by omega), hr.chg.grown h.grown (by intro k e; omega)⟩
  have := h.sep2 k hk
  omega
theorem Half.twin {w W w5 w6 : World} {V G B V2 G2 B2 : Nat} {S S2 : Nat → Prop} {l l2 : List PokeV} {j : Nat} {M : Mach} {T T2 : Nat} (h : Twin w W V G B V2 G2 B2 S S2 l l2 j M T T2) (hh : Half w w5 V G B V2 G2 B2 S S2 l l2 j M (M.rews (due l j)) T T2) (hr : VRead w5 V2 G2 B2 S2 l2 j T2 M w6) (hd : due l2 j = due l j) : Twin w w6 V G B V2 G2 B2 S S2 l l2 (j + 1) (M.rews (due l j)) T T2 := by
  obtain ⟨f1, hv1⟩ := hh.v1
  obtain ⟨a, b, c, d, e⟩ := h.BB
  obtain ⟨q1, q2, q3, q4, q5, q6⟩ := h.far
  refine ⟨⟨f1, hv1.chg hr.chg fun k hk e => ?_⟩, hr.view, hh.m1.chg hr.chg (by omega), hd ▸ hr.mach, h.sep1, h.sep2, h.BB, h.far, hr.chg.grown hh.grown (by intro k e; omega)⟩
  have := h.sep1 k hk
  omega

theorem came_nil {H : Type} {enc : TypeId × Value → H} {w : World} {ts te : TypeId} (hs : Try.prog.underlying ts = some (.slice te)) {len cap : Nat} (h : Flat.Came enc Try.prog w 0 (fun _ => true) true ts (.slice none len cap)) : cap = 0 := by
  obtain ⟨fuel, x, h, _⟩ := h
  rcases Go.Deep.open_slice hs h with ⟨hcs, _⟩ | ⟨a, len, cap, m, n, D, Pl, hcs, _⟩
  · simp only [List.cons.injEq, and_true] at hcs
    injection hcs
  · simp only [List.cons.injEq, and_true, Value.slice.injEq, reduceCtorEq, false_and] at hcs
theorem add_off (b off k : Nat) : (⟨b, off, none⟩ : Addr).add k = ⟨b, off + k, none⟩ := by
  cases k <;> rfl
theorem news_raws {w W : World} {a : Addr} {rs : List RawP} (h : ∀ j (h : j < rs.length), rs[j].At w (some a) j) (hg : w.grownBy W none) : ∀ k u, (rcells rs)[k]? = some u → W.cell? (a.add k) = some u := fun k u hu => by
  have hk := (List.getElem?_eq_some_iff.1 hu).1
  rw [rcells_len] at hk
  have hj : k / 4 < rs.length := by omega
  obtain ⟨b, off, e, _, hc⟩ := (h (k / 4) hj).lies
  have e : a = ⟨b, off, none⟩ := Option.some.inj e
  subst e
  rw [add_off]
  have h1 := hc (k % 4) (by omega)
  have h2 := rcells_get rs (k / 4) hj (k % 4) (by omega)
  rw [show k / 4 * 4 + k % 4 = k by omega] at h2
  rw [show off + k / 4 * 4 + k % 4 = off + k by omega] at h1
  refine hg.cell ?_ (by simp)
  rw [h1, ← h2, hu]

/-- both views have just been made -/
theorem twin_start {w W w4 w5 : World} {B B2 T T2 : Nat} {l l2 : List PokeV} {M : Mach} {f f2 : Int → Option Value} (hB : w.heap.size ≤ B) (hBB : B < B2) (hB2 : B2 < W.heap.size) (hm : PM W B M) (hm2 : PM W B2 M) (hg : w.grownBy W none)
    (h1 : VV w4 (W.heap.size + 1) W.heap.size B (fun k => W.heap.size + 2 ≤ k ∧ k < w4.heap.size) l 0 T f) (g1 : W.grownBy w4 none)
    (h2 : VV w5 (w4.heap.size + 1) w4.heap.size B2 (fun k => w4.heap.size + 2 ≤ k ∧ k < w5.heap.size) l2 0 T2 f2) (g2 : w4.grownBy w5 none) :
    Twin w w5 (W.heap.size + 1) W.heap.size B (w4.heap.size + 1) w4.heap.size B2 (fun k => W.heap.size + 2 ≤ k ∧ k < w4.heap.size) (fun k => w4.heap.size + 2 ≤ k ∧ k < w5.heap.size) l l2 0 M T T2 := by
  have s0 := hg.size
  have s1 := g1.size
  have s2 := h1.top.lt
  have s3 := h2.top.lt
  exact ⟨⟨f, h1.grown g2⟩, ⟨f2, h2⟩, hm.grown (g1.trans g2) (by simp), hm2.grown (g1.trans g2) (by simp), fun k hk => by unfold vfoot at hk; simp only at hk; omega, fun k hk => by unfold vfoot at hk; simp only at hk; omega, by omega, by omega, (hg.trans g1).trans g2⟩
theorem late_fits {r : RawP} {q : Nat} (hq : q ≤ 8) (h : r.p.fits) : (r.late q).p.fits ∧ (r.late q).qa = r.qa ∧ (r.late q).p.l = r.p.l := by
  obtain ⟨h1, h2, h3, h4⟩ := h
  unfold RawP.late
  split
  · exact ⟨⟨(show (Lit.int .i64 (q : Int)).wf = true from WalkArith.wf_i64 (by omega)), h2, h3, h4⟩, rfl, rfl⟩
  · exact ⟨⟨h1, h2, h3, h4⟩, rfl, rfl⟩
theorem late_row {w W : World} {a b pv : Option Addr} {base cv m q : Nat} {rs rb : List RawP} (ha : ∀ j (h : j < rs.length), rs[j].At w a j) (hb : ∀ j (h : j < rb.length), rb[j].At w b j) (hg : w.grownBy W none) (hq : q ≤ 8)
    (h : W.ownsRow base 62 4 (.slice pv m cv) m (rcells (rs ++ rb.map (RawP.late q)))) (hm : m = rs.length + rb.length) :
    ∃ l2 : List PokeV, l2.length = m ∧ PokesIn W pv l2 ∧ ∀ k, k < q → due l2 (k : Int) = due (rs.map (·.p)) (k : Int) := by
  have hlen : (rs ++ rb.map (RawP.late q)).length = m := by simp [hm]
  rw [← hlen] at h
  obtain ⟨p, c, e, hp⟩ := pokes_row h fun r hr => by
    rcases List.mem_append.1 hr with hr | hr
    · obtain ⟨j, hj, rfl⟩ := List.mem_iff_getElem.1 hr
      exact ⟨(ha j hj).fits, (ha j hj).bytes.grown hg⟩
    · obtain ⟨r', hr', rfl⟩ := List.mem_map.1 hr
      obtain ⟨j, hj, rfl⟩ := List.mem_iff_getElem.1 hr'
      obtain ⟨f1, f2, f3⟩ := late_fits hq (hb j hj).fits
      exact ⟨f1, by rw [f2, f3]; exact (hb j hj).bytes.grown hg⟩
  injection e with e1 e2 e3
  subst e1
  refine ⟨_, by simpa using hlen, hp, fun k hk => ?_⟩
  rw [List.map_append, due_app, due_late hk, List.append_nil]
theorem opcell {W : World} {t : TypeId} {a b c d : Int} {v : Value} : (W.alloc (.cells #[.int .i64 a, .int .i64 b, .int .i64 c, .int .i64 d, v] t)).cell? ⟨W.heap.size, 1, none⟩ = some (.int .i64 b) ∧ (W.alloc (.cells #[.int .i64 a, .int .i64 b, .int .i64 c, .int .i64 d, v] t)).cell? ⟨W.heap.size, 2, none⟩ = some (.int .i64 c) ∧ (W.alloc (.cells #[.int .i64 a, .int .i64 b, .int .i64 c, .int .i64 d, v] t)).cell? ⟨W.heap.size, 3, none⟩ = some (.int .i64 d) :=
  ⟨by simp [go_sem], by simp [go_sem], by simp [go_sem]⟩
theorem eql_mach (B : Nat) (w : World) : (binOp .eql 23 (.pointer (some ⟨B, 0, none⟩)) (.pointer (some ⟨B, 0, none⟩))).run Try.prog w = .ok (.bool true) w := by
  have h : (Try.prog.info? 83).isSome = true := by kernel_rfl
  obtain ⟨j, hj⟩ := Option.isSome_iff_exists.1 h
  exact run_eql_ptr_same w _ Try.underlying23 hj
end Go.Proofs.Ytmpogcpnpaoplaa
