/-
  Package view: contract of New, walked.
-/
import Derived.Test.YtnplkifohocekaaDoorViewC
import Derived.Carry
import Derived.Deep.Cut
import Derived.Deep.AppendLies
set_option linter.unusedSimpArgs false
set_option linter.unusedVariables false
namespace Go.Proofs.YtnplkifohocekaaDoor
open Go.RowKit
set_option maxHeartbeats 2000000

/-- rewrites that came in -/
def PokesIn (w : World) (pa : Option Addr) (l : List PokeV) : Prop := ∀ j (h : j < l.length), ∃ b off qa cap, pa = some ⟨b, off, none⟩ ∧ b < w.heap.size ∧
  w.cell? ⟨b, off + j * 4, none⟩ = some (.int .i64 l[j].t) ∧ w.cell? ⟨b, off + j * 4 + 1, none⟩ = some (.int .i64 l[j].i) ∧ w.cell? ⟨b, off + j * 4 + 2, none⟩ = some (.int .i64 l[j].off) ∧ w.cell? ⟨b, off + j * 4 + 3, none⟩ = some (.slice qa l[j].l.length cap) ∧
  l[j].fits ∧ InBytes w qa l[j].l
theorem PokesIn.grown {w w' : World} {pa : Option Addr} {l : List PokeV} (h : PokesIn w pa l) (hg : w.grownBy w' none) : PokesIn w' pa l := fun j hj => by
  obtain ⟨b, off, qa, cap, e, hb, d0, d1, d2, d3, hf, hi⟩ := h j hj
  refine ⟨b, off, qa, cap, e, Nat.lt_of_lt_of_le hb hg.size, hg.cell d0 (by simp), hg.cell d1 (by simp), hg.cell d2 (by simp), hg.cell d3 (by simp), hf, ?_⟩
  rcases hi with h | ⟨b, o, e, hb, hc⟩
  · exact .inl h
  · exact .inr ⟨b, o, e, Nat.lt_of_lt_of_le hb hg.size, fun k hk => hg.cell (hc k hk) (by simp)⟩
theorem info_fn : (Tryd.prog.info? 1).map (fun i => (i.zero, i.size, i.bytes)) = some (some .nilFunc, 1, 8) := by kernel_rfl
theorem vNew_long (B : Nat) (pa : Option Addr) (n cap : Nat) (w : World) (M : Mach) (hM : PM w B M) (hn1 : 1 ≤ M.n) (hl : 64 < n) :
    Calls Tryd.prog 21 #[.pointer (some ⟨B, 0, none⟩), .slice pa n cap] w fun e w' => e = .returned (.tuple #[.pointer none, .int .i64 2]) ∧ w = w' := by
  have hz : (M.n == 0) = false := by simp; omega
  have hl' : (64 : Int) < n := by omega
  have HS := hid (Size_yes B M.n w hn1 hM.size)
  clear hM
  go_enter Tryd.func21, Tryd.ntmps21
  go_wp2_with (go_at_call 46; refine HS.out.mono ?_; rintro e w' ⟨rfl, rfl⟩)
  go_ret2
  exact ⟨rfl, rfl⟩
set_option maxRecDepth 100000 in
theorem vNew (B : Nat) (pa : Option Addr) (cap : Nat) (l : List PokeV) (w : World) (M : Mach) (hM : PM w B M) (hn1 : 1 ≤ M.n) (hl : l.length ≤ 64) (hp : PokesIn w pa l) :
    Calls Tryd.prog 21 #[.pointer (some ⟨B, 0, none⟩), .slice pa l.length cap] w fun e w' => e = .returned (.tuple #[.pointer (some ⟨w.heap.size + 1, 0, none⟩), .int .i64 0]) ∧
      (∃ f, VV w' (w.heap.size + 1) w.heap.size B (fun k => w.heap.size + 2 ≤ k ∧ k < w'.heap.size) l 0 l.length f) ∧ w.grownBy w' none := by
  obtain ⟨i0, hi, hz0, hz1, hz2⟩ := info_parts info_fn
  have Hi := hid hi; have Hz0 := hid hz0; have Hz1 := hid hz1; have Hz2 := hid hz2
  clear hi hz0 hz1 hz2
  have hz : (M.n == 0) = false := by simp; omega
  have hl' : (l.length : Int) ≤ 64 := by omega
  have HS := hid (Size_yes B M.n w hn1 hM.size)
  have HM := hid hM
  have HP := hid hp
  have hmm := @run_makeMap Tryd.prog
  obtain ⟨W0, hW0, hNV⟩ : ∃ W0, (w.alloc (.map #[] 0)).alloc (.cells #[.pointer (some ⟨B, 0, none⟩), .map (some w.heap.size), .int .i64 0] 118) = W0 ∧ NV w W0 B [] (fun _ => none) 0 (fun _ => False) := by
    have hg := (World.grownBy_alloc w (.map #[] 0) none).trans (World.grownBy_alloc (w.alloc (.map #[] 0)) (.cells #[.pointer (some ⟨B, 0, none⟩), .map (some w.heap.size), .int .i64 0] 118) none)
    have hs : (w.alloc (.map #[] 0)).heap.size = w.heap.size + 1 := by simp
    refine ⟨_, rfl, ⟨?_, (VM.VMap.made w _ _ _).alloc _, hg, by simp, fun t _ => ⟨[], World.ownsRow_nil _ _ _ _, fun j hj => by simp [due] at hj, by simp [due]⟩, fun t t' g _ e => by simp [nilS, Value.ownBlock] at e, fun k hk => hk.elim, fun t g e => by simp [nilS, Value.ownBlock] at e, fun _ _ => rfl⟩⟩
    rw [← hs]
    exact ⟨_, heap_alloc_new _ _, by simp, fun k hk => by match k, hk with | 0, _ => rfl | 1, _ => rfl | 2, _ => rfl⟩
  have HNV := hid hNV
  clear hM hp hNV
  go_enter Tryd.func21, Tryd.ntmps21
  go_wp2_with (go_at_call 46; refine HS.out.mono ?_; rintro e w' ⟨rfl, rfl⟩)
  clear hW0
  go_loopw [21] (fun x wr => ∃ (k : Nat) (f : Int → Option Value) (C : Nat → Prop), x = .int .i64 k ∧ k ≤ l.length ∧ NV w wr B (l.take k) f k C) (fun x _ => l.length - (intOf x).toNat)
  case atStart => exact ⟨0, _, _, rfl, by omega, HNV.out⟩
  case round =>
    obtain ⟨k, f, C, rfl, hk, hnv⟩ := hrel
    have HN := hid hnv
    clear hnv HNV
    have hk0 : (0 : Int) ≤ k := by omega
    by_cases hkl : k < l.length
    · have hkl' : (k : Int) < l.length := by omega
      obtain ⟨b, off, qa, qc, rfl, hb, d0, d1, d2, d3, hf, hin⟩ := (HP.out.grown HN.out.grown) k hkl
      have HTk := hid (show l.take (k + 1) = l.take k ++ [l[k]] by rw [List.take_succ_eq_append_getElem hkl])
      generalize l[k] = p at *
      have HF := hid hf
      have HIn := hid hin
      clear hf hin
      by_cases hneg : p.t < 0
      · have hneg' : ¬ 0 ≤ p.t := by omega
        go_wp2
        go_roundw
        case rel => exact ⟨k + 1, f, C, by go_num, by omega, by rw [HTk.out]; exact (HN.out.skip hneg).more (World.grownBy_alloc _ _ none)⟩
        case measure => simp [intOf]; omega
      · have hpos : 0 ≤ p.t := by omega
        go_upto_region 10 with (fail)
        obtain ⟨X, hX⟩ : ∃ X, wr.alloc (.cells #[.int .i64 p.t, .int .i64 p.i, .int .i64 p.off, .slice qa p.l.length qc] 120) = X := ⟨_, rfl⟩
        have gX : wr.grownBy X.drew none := (hX ▸ World.grownBy_alloc wr _ none : wr.grownBy X none).trans (grownBy_drew X none)
        have q0 : X.drew.cell? ⟨wr.heap.size, 0, none⟩ = some (.int .i64 p.t) := by rw [← hX]; simp [go_sem]
        have q1 : X.drew.cell? ⟨wr.heap.size, 1, none⟩ = some (.int .i64 p.i) := by rw [← hX]; simp [go_sem]
        have q2 : X.drew.cell? ⟨wr.heap.size, 2, none⟩ = some (.int .i64 p.off) := by rw [← hX]; simp [go_sem]
        have q3 : X.drew.cell? ⟨wr.heap.size, 3, none⟩ = some (.slice qa p.l.length qc) := by rw [← hX]; simp [go_sem]
        rw [hX]
        clear hX d0 d1 d2 d3
        have hXN := HN.out.more gX
        have q4 : X.drew.cell? ⟨w.heap.size + 1, 1, none⟩ = some (.map (some w.heap.size)) := hXN.top.cell (k := 1) (by omega)
        obtain ⟨cls, hown, hcc, _⟩ := hXN.has p.t hpos
        have hnb : ∀ q, ((f p.t).getD nilS).ownBlock = some q → w.heap.size + 2 ≤ q := fun q hq => (hown.lt q hq).1
        have hk0' := hXN.map.look X.drew vint_key Tryd.underlying3 Tryd.underlying116 (vzero _) HF.out.1
        have HXN := hid hXN
        have HOwn := hid hown
        have HCc := hid hcc
        have HIn1 := hid (show InBytes X.drew qa p.l from by
          rcases HIn.out with h | ⟨b, o, e, hlt, hc⟩
          · exact .inl h
          · exact .inr ⟨b, o, e, Nat.lt_of_lt_of_le hlt gX.size, fun k hk => gX.cell (hc k hk) (by simp)⟩)
        have HNb := hid (show some w.heap.size ≠ ((f p.t).getD nilS).ownBlock from fun e => by have := hnb _ e.symm; omega)
        have HNw := hid (show some (w.heap.size + 1) ≠ ((f p.t).getD nilS).ownBlock from fun e => by have := hnb _ e.symm; omega)
        have HNr := hid (show some wr.heap.size ≠ ((f p.t).getD nilS).ownBlock from fun e => (by have := (HN.out.rows _ _ e.symm).2; omega))
        have hdl : (due (l.take k) p.t).length ≤ 64 := Nat.le_trans (List.length_filter_le _ _) (by simp; omega)
        have hkm : k < maxLen := by unfold maxLen; omega
        clear hXN hown hcc hnb
        generalize hv0 : (f p.t).getD nilS = v0 at *
        have hk0 : (Instr.lookup 116 (.map (some w.heap.size)) (.int .i64 p.t) false).run Tryd.prog X.drew = .ok v0 X.drew := hv0 ▸ hk0'
        have HV0 := hid hv0
        have HVz := hid (show (f p.t).getD (.slice none 0 0) = v0 from hv0)
        clear hk0' hv0
        go_region_held3 (fun w' => w'.cell? ⟨w.heap.size + 1, 1, none⟩ = some (.map (some w.heap.size)) ∧ w'.cell? ⟨wr.heap.size, 0, none⟩ = some (.int .i64 p.t) ∧ w'.cell? ⟨wr.heap.size, 1, none⟩ = some (.int .i64 p.i) ∧ w'.cell? ⟨wr.heap.size, 2, none⟩ = some (.int .i64 p.off) ∧ w'.cell? ⟨wr.heap.size, 3, none⟩ = some (.slice qa p.l.length qc)) (first | exact ⟨by assumption, by assumption, by assumption, by assumption, by assumption⟩ | go_keep)
          (first
            | ((with_reducible refine (vRewrite B p qa qc _ HF.out HIn1.out).mono ?_); rintro e W1 ⟨cv, rfl, hclo, g1⟩; have hclo2 := hclo; obtain ⟨mi, pi, bi, qq, cq, ecv, -⟩ := hclo2; subst ecv; have HClo := hid hclo; have G1 := hid g1; have W2s := hid (show (W1.alloc (.cells #[.func (.func 68) #[] #[.pointer (some ⟨mi, 0, none⟩), .pointer (some ⟨pi, 0, none⟩), .pointer (some ⟨bi, 0, none⟩)]] 1)).heap.size = W1.heap.size + 1 by simp); have G2 := hid (World.grownBy_alloc W1 (.cells #[.func (.func 68) #[] #[.pointer (some ⟨mi, 0, none⟩), .pointer (some ⟨pi, 0, none⟩), .pointer (some ⟨bi, 0, none⟩)]] 1) none); have r4 := g1.cell q4 (by simp); have r0 := g1.cell q0 (by simp); have r1 := g1.cell q1 (by simp); have r2 := g1.cell q2 (by simp); have r3 := g1.cell q3 (by simp); have HO2 := hid ((HOwn.out.kept g1 (none_row' _)).kept G2.out (none_row' _)); have HM2 := hid ((HXN.out.map.grown g1 (by simp)).grown G2.out (by simp)); have hk1 := (HXN.out.map.grown g1 (by simp)).look W1 vint_key Tryd.underlying3 Tryd.underlying116 (vzero _) HF.out.1; rw [HVz.out] at hk1; have hk2 := HM2.out.look _ vint_key Tryd.underlying3 Tryd.underlying116 (vzero _) HF.out.1; rw [HVz.out] at hk2; have HB2 := hid (show w.heap.size + 2 ≤ W1.heap.size from Nat.le_trans HXN.out.size g1.size); have HNv := hid (show ∀ j u, [Value.func (.func 68) #[] #[.pointer (some ⟨mi, 0, none⟩), .pointer (some ⟨pi, 0, none⟩), .pointer (some ⟨bi, 0, none⟩)]][j]? = some u → (W1.alloc (.cells #[.func (.func 68) #[] #[.pointer (some ⟨mi, 0, none⟩), .pointer (some ⟨pi, 0, none⟩), .pointer (some ⟨bi, 0, none⟩)]] 1)).cell? ((⟨W1.heap.size, 0, none⟩ : Addr).add j) = some u from World.news_of_block (heap_alloc_new W1 _)); clear hclo g1)
            | (refine step_append_lies _ (by rfl) _ _ 121 (by rfl) (w.heap.size + 2) 1 i0 .nilFunc 1 8 Tryd.underlying121 Hi.out Hz0.out Hz1.out Hz2.out rfl (by decide) v0 (due (l.take k) p.t).length cls (by rfl) HO2.out ⟨W1.heap.size, 0, none⟩ 1 1 [.func (.func 68) #[] #[.pointer (some ⟨mi, 0, none⟩), .pointer (some ⟨pi, 0, none⟩), .pointer (some ⟨bi, 0, none⟩)]] (by rfl) (by rfl) HNv.out (by simp [Value.oneCell']) (by omega) (by unfold maxLen; omega) (by omega) (by rw [W2s.out]; have := HB2.out; omega) (W1.heap.size + 1) W2s.out ?_; intro g c w3 hown3 hgrow hat hlt; obtain ⟨w4, hrun, h4, g4⟩ := VM.VMap.store w3 (HM2.out.grown hgrow HNb.out) vint_key Tryd.underlying3 Tryd.underlying116 hkm HF.out.1 (.slice (some ⟨g, 0, none⟩) ((due (l.take k) p.t).length + 1) c); have t4 := hgrow.cell (G2.out.cell r4 (by simp)) HNw.out; have t0 := hgrow.cell (G2.out.cell r0 (by simp)) HNr.out; have t1 := hgrow.cell (G2.out.cell r1 (by simp)) HNr.out; have t2 := hgrow.cell (G2.out.cell r2 (by simp)) HNr.out; have t3 := hgrow.cell (G2.out.cell r3 (by simp)) HNr.out; have HWr := hid (show wr.heap.size ≠ w.heap.size by have := HN.out.size; omega); have u4 := g4.cell t4 (by simp); have u0 := g4.cell t0 (by simp; exact HWr.out); have u1 := g4.cell t1 (by simp; exact HWr.out); have u2 := g4.cell t2 (by simp; exact HWr.out); have u3 := g4.cell t3 (by simp; exact HWr.out); have H3 := hid hown3; have G3 := hid hgrow; have HAt := hid hat; have H4 := hid h4; have G4 := hid g4; clear hown3 hgrow hat hlt h4 g4))
        all_goals
          have HSt := hid (HXN.out.step hpos G1.out HClo.out G2.out W2s.out (by rw [HV0.out]; exact HOwn.out) HCc.out H3.out (by rw [HV0.out]; exact G3.out) (by rw [HV0.out, W2s.out]; exact HAt.out) H4.out G4.out)
          clear r0 r1 r2 r3 r4 t0 t1 t2 t3 t4 u0 u1 u2 u3 u4 q0 q1 q2 q3 q4 hk0 hk1 hk2 hrun
          go_wp2
          go_roundw
          case rel => exact ⟨k + 1, _, _, by go_num, by omega, by rw [HTk.out]; exact HSt.out⟩
          case measure => simp [intOf]; omega
    · obtain rfl : k = l.length := by omega
      have hge : (l.length : Int) ≤ l.length := by omega
      go_wp2
      go_ret2
      have := HN.out
      rw [List.take_length] at this
      exact ⟨rfl, ⟨f, this.done HM.out.lt⟩, this.grown⟩
end Go.Proofs.YtnplkifohocekaaDoor
