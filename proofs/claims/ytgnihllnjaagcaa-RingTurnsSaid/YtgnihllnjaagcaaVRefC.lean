/-
  Package tenementref02 over the reference's machine: Read.
-/
import Derived.Test.YtgnihllnjaagcaaVRefB
set_option linter.unusedSimpArgs false
set_option linter.unusedVariables false
namespace Go.Proofs.Ytgnihllnjaagcaa
open Go.RowKit
set_option maxHeartbeats 1200000

theorem rvRew (U b : Nat) (pa : Option Addr) (len cap : Nat) (n : Int) (p : PokeV) (qa : Option Addr) (qc : Nat) (w : World) (M : Mach) (L : Lay) (h : RV w U b pa len cap n) (hM : RM w b M L) (hf : p.fits) (hq : Apart w L b qa p.l) :
    Calls Try.prog 103 #[.pointer (some ⟨U, 0, none⟩), .agg #[.int .i64 p.t, .int .i64 p.i, .int .i64 p.off, .slice qa p.l.length qc]] w fun e w' => e = .returned (.tuple #[]) ∧ RLeft0 b L w (M.rew p) w' := by
  by_cases hbad : M.is p.i = false ∨ inP p.off p.l.length = false
  · exact (rvRew_in U b pa len cap n p qa qc w M L h hM hf hbad).mono fun e w' ⟨he, hg⟩ => ⟨he, by rw [rew_in hbad]; exact RLeft0.same hM hg⟩
  · have his : M.is p.i = true := by cases e : M.is p.i with | true => rfl | false => exact absurd (.inl e) hbad
    have hin : inP p.off p.l.length = true := by cases e : inP p.off p.l.length with | true => rfl | false => exact absurd (.inr e) hbad
    obtain ⟨t, i, off, l⟩ := p
    obtain ⟨i0, i1⟩ := Mach.is_iff.1 his
    obtain ⟨j, rfl⟩ := Int.eq_ofNat_of_zero_le i0
    exact rvRew_yes U b pa len cap n t off j l qa qc w M L h hM (by have := hM.hn; simp only at i1; omega) hin hf.2.2.2 hq
/-- the reference's view while it works: from w on -/
structure XR (w wr : World) (U b : Nat) (pa : Option Addr) (len cap : Nat) (n : Int) (L : Lay) (M : Mach) (L' : Lay) : Prop where
  v : RV wr U b pa len cap n
  m : RM wr b M L'
  n : L'.n = L.n
  f : ∀ k, L'.foot b k → L.foot b k ∨ w.heap.size ≤ k
  c : Chg (L.foot b) w wr
theorem XR.step {w wr W : World} {U b : Nat} {pa : Option Addr} {len cap : Nat} {n : Int} {L L' : Lay} {M M' : Mach} (h : XR w wr U b pa len cap n L M L') (hU : ¬ L.foot b U) (hUw : U < w.heap.size) (hl : RLeft0 b L' wr M' W) : ∃ L2, XR w W U b pa len cap n L M' L2 := by
  obtain ⟨L2, h2, n2, c2, f2⟩ := hl
  have hsz := h.c.size
  refine ⟨L2, Row.chg h.v c2 (fun e => ?_), h2, n2.trans h.n, fun k hk => ?_, h.c.trans c2 h.f⟩
  · rcases h.f _ e with e | e
    · exact hU e
    · omega
  · rcases f2 k hk with e | e
    · exact h.f k e
    · exact .inr (by omega)
theorem XR.more {w wr W : World} {U b : Nat} {pa : Option Addr} {len cap : Nat} {n : Int} {L L' : Lay} {M : Mach} (h : XR w wr U b pa len cap n L M L') (hg : wr.grownBy W none) : XR w W U b pa len cap n L M L' :=
  ⟨h.v.grown hg, h.m.grown hg, h.n, h.f, h.c.trans (Chg.of0 (S := L.foot b) hg) (fun _ e => .inl e)⟩
theorem due_take_yes {l : List PokeV} {k : Nat} (h : k < l.length) {n : Int} (hy : l[k].t = n) (M : Mach) : M.rews (due (l.take (k + 1)) n) = (M.rews (due (l.take k) n)).rew l[k] := by
  rw [List.take_succ_eq_append_getElem h, due_snoc_yes hy, Mach.rews_snoc]
theorem due_take_no {l : List PokeV} {k : Nat} (h : k < l.length) {n : Int} (hy : l[k].t ≠ n) (M : Mach) : M.rews (due (l.take (k + 1)) n) = M.rews (due (l.take k) n) := by
  rw [List.take_succ_eq_append_getElem h, due_snoc_no hy]
set_option maxRecDepth 100000 in
theorem rvRead_loop (U b : Nat) (pa : Option Addr) (cap : Nat) (l : List PokeV) (n : Nat) (i off k : Int) (w0 w : World) (M : Mach) (L : Lay) (h : RV w U b pa l.length cap n) (hM : RM w b M L) (hp : PokesIn w0 pa l) (hl : l.length ≤ 64) (hn : (n : Int) < 9223372036854775807)
    (hg : w0.grownBy w none) (hU : ¬ L.foot b U) (far : ∀ k, L.foot b k → w0.heap.size ≤ k) (Q : Ending → World → Prop)
    (hend : ∀ wr L', XR w wr U b pa l.length cap n L (M.rews (due l n)) L' → Calls Try.prog 65 #[.pointer (some ⟨b, 0, none⟩), .int .i64 i, .int .i64 off, .int .i64 k] (wr.setCell ⟨U, 2, none⟩ (.int .i64 (n + 1 : Nat))) fun e w' => ∃ v r, e = .returned (.tuple #[v, r]) ∧ Q (.returned (.tuple #[v, r])) w') :
    Calls Try.prog 75 #[.pointer (some ⟨U, 0, none⟩), .int .i64 i, .int .i64 off, .int .i64 k] w Q := by
  have hUw : U < w.heap.size := Row.lt h
  have H0 : Hid (XR w w U b pa l.length cap n L (M.rews (due (l.take 0) n)) L) := hid ⟨h, hM, rfl, fun _ e => .inl e, Chg.refl _ _⟩
  have HP := hid hp; have HG := hid hg; have HFar := hid far; have HU := hid hU; have HE := hid hend
  have hfits := hp.fits
  have HFit := hid hfits
  clear h hM hp hg far hU hend hfits
  go_enter Try.func75, Try.ntmps75
  go_wp2
  go_loopw [10] (fun x wr => ∃ (j : Nat) (L' : Lay), x = .int .i64 j ∧ j ≤ l.length ∧ XR w wr U b pa l.length cap n L (M.rews (due (l.take j) n)) L') (fun x _ => l.length - (intOf x).toNat)
  case atStart => exact ⟨0, L, rfl, by omega, H0.out⟩
  case round =>
    obtain ⟨j, L', rfl, hj, hx⟩ := hrel
    have hc0 := hx.v.c0; have hc1 := hx.v.c1; have hc2 := hx.v.c2
    have HX := hid hx
    have HGr := hid (show w0.grownBy wr none from hx.c.grown HG.out (fun q e => HFar.out q e))
    clear hx H0
    have hj0 : (0 : Int) ≤ j := by omega
    by_cases hjl : j < l.length
    · have hjl' : (j : Int) < l.length := by omega
      have HPr := HP.out.grown HGr.out
      obtain ⟨pb, po, qa, qc, hpe, _, d0, d1, d2, d3, hf, hi⟩ := HP.out j hjl
      replace d0 := HGr.out.cell d0 (by simp); replace d1 := HGr.out.cell d1 (by simp); replace d2 := HGr.out.cell d2 (by simp); replace d3 := HGr.out.cell d3 (by simp)
      have hyes := fun (hy : l[j].t = n) => due_take_yes hjl hy M
      have hno := fun (hy : l[j].t ≠ n) => due_take_no hjl hy M
      obtain ⟨p, hpj⟩ : ∃ p, l[j] = p := ⟨_, rfl⟩
      rw [hpj] at d0 d1 d2 d3 hf hi hyes hno
      have HF := hid hf; have HI := hid hi
      clear hf hi HPr hpj
      by_cases hy : p.t = n
      · have HS := hid (hyes hy)
        have hyt : (p.t == (n : Int)) = true := by simp [hy]
        clear hy hyes hno
        go_upto_region 4 with (fail)
        go_quiet (fail)
        obtain ⟨W5, hW5⟩ : ∃ W5, wr.drewN nq = W5 := ⟨_, rfl⟩
        have hg5 : wr.grownBy W5 none := hW5 ▸ grownBy_drewN _ _ _
        rw [hW5]
        have HX5 := hid (HX.out.more hg5)
        have HG5 := hid (HGr.out.trans hg5)
        replace d0 := hg5.cell d0 (by simp); replace d1 := hg5.cell d1 (by simp); replace d2 := hg5.cell d2 (by simp); replace d3 := hg5.cell d3 (by simp)
        replace hc0 := HX5.out.v.c0; replace hc1 := HX5.out.v.c1; replace hc2 := HX5.out.v.c2
        clear hW5 hg5 hyt
        go_wp2_with (go_at_call 103; refine (rvRew U b _ l.length cap n p qa qc _ _ L' HX5.out.v HX5.out.m HF.out (HI.out.apart HG5.out (fun q hq => by rcases HX5.out.f q hq with e | e; (exact HFar.out q e); (have := HG.out.size; omega)))).mono ?_; rintro e w6 ⟨rfl, h6⟩; obtain ⟨L6, h6'⟩ := HX5.out.step HU.out hUw h6; have H6 := hid h6'; clear h6 h6')
        go_roundw
        case rel => exact ⟨j + 1, L6, by go_num, by omega, by rw [HS.out]; exact H6.out⟩
        case measure => simp [intOf]; omega
      · have HS := hid (hno hy)
        have hyt : (p.t == (n : Int)) = false := by simp [hy]
        clear hy hyes hno
        go_upto_region 4 with (fail)
        go_quiet (fail)
        go_wp2
        go_roundw
        case rel => exact ⟨j + 1, L', by go_num, by omega, by rw [HS.out]; exact HX.out.more (grownBy_drewN _ _ _)⟩
        case measure => simp [intOf]; omega
    · obtain rfl : j = l.length := by omega
      have hge : ¬ (l.length : Int) < l.length := by omega
      have hfz : wr.frozen? ⟨U, 2, none⟩ = false := Row.frozen HX.out.v 2
      have HX2 := hid (show XR w wr U b pa l.length cap n L (M.rews (due l n)) L' by have := HX.out; rwa [List.take_length] at this)
      go_wp2_with (go_at_call 65; refine (HE.out _ _ HX2.out).mono ?_; rintro e w7 ⟨v, r, rfl, hq⟩; have HQ := hid hq; clear hq)
      first
        | exact HQ.out
        | (go_ret2; exact HQ.out)
end Go.Proofs.Ytgnihllnjaagcaa
