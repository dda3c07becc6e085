/-
  One call on both images.
-/
import Derived.Test.YtcogchalfdeagaaImRF
import Derived.Deep.RegionHeld3
set_option linter.unusedSimpArgs false
set_option linter.unusedVariables false
namespace Go.Proofs.Ytcogchalfdeagaa
open Go.RowKit Gen CM
set_option maxHeartbeats 2000000
set_option maxRecDepth 100000

theorem lBytesBU (o : OpV) (w : World) (h : o.fits w) : Calls Try.prog 12 #[o.val] w fun e w' => ∃ q c, e = .returned (.slice q o.out.length c) ∧ BU w' q o.out ∧ w.grownBy w' none :=
  (lBytes o w h).mono fun e w' ⟨v, he, hv⟩ => by
    obtain ⟨q, c, rfl, hb, _⟩ := hv.bu
    exact ⟨q, c, he, hb, hv.2⟩
theorem IB.rlt {w0 w : World} {x g m y r : Nat} {q lp : Option Addr} {cq cl : Nat} {I J : Im} (h : IB w0 w x g m y r q lp cq cl I J) : m < w.heap.size ∧ y < w.heap.size ∧ r < w.heap.size := by
  refine ⟨h.pi.i.map.lt, h.ri.top.lt, ?_⟩
  by_cases e : J.n = 0
  · rw [h.rr e]; exact h.ri.top.lt
  · obtain ⟨X, hX⟩ := h.ri.row e; exact hX.lt
def PlayP (w0 : World) (x g m y r : Nat) (q lp : Option Addr) (cq cl : Nat) (e : Ending) (w' : World) : Prop := ∃ I', e = .returned (.bool true) ∧ IB w0 w' x g m y r q lp cq cl I' I'
theorem lPlay {w0 w : World} {x g m y r : Nat} {q lp : Option Addr} {cq cl : Nat} {I : Im} (h : IB w0 w x g m y r q lp cq cl I I) (o : OpV) (hf : o.fits w) :
    Calls Try.prog 13 #[.pointer (some ⟨x, 0, none⟩), .pointer (some ⟨y, 0, none⟩), o.val] w (PlayP w0 x g m y r q lp cq cl) := by
  obtain ⟨what, a, b, fl, bp, bl, bc⟩ := o
  have HF := hid (fun (w' : World) (hg : w.grownBy w' none) => hf.grown hg)
  have ha := hf.a
  have hb := hf.b
  simp only at ha hb
  have HA := hid ha
  have HB := hid hb
  obtain ⟨hm, hy, hr⟩ := h.rlt
  simp only [OpV.val]
  obtain ⟨OB, hOB⟩ : ∃ OB, w.heap.size = OB := ⟨_, rfl⟩
  obtain ⟨W, hW, hg, d0, d1, d2, d3, d4⟩ : ∃ W, w.alloc (.cells #[.int .i64 what, .int .i64 a, .int .i64 b, .int .u8 fl.toNat, .slice bp bl.length bc] 32) = W ∧ w.grownBy W none ∧ W.cell? ⟨w.heap.size, 0, none⟩ = some (.int .i64 what) ∧ W.cell? ⟨w.heap.size, 1, none⟩ = some (.int .i64 a) ∧ W.cell? ⟨w.heap.size, 2, none⟩ = some (.int .i64 b) ∧ W.cell? ⟨w.heap.size, 3, none⟩ = some (.int .u8 fl.toNat) ∧ W.cell? ⟨w.heap.size, 4, none⟩ = some (.slice bp bl.length bc) :=
    ⟨_, rfl, World.grownBy_alloc _ _ _, by simp [go_sem], by simp [go_sem], by simp [go_sem], by simp [go_sem], by simp [go_sem]⟩
  rw [hOB] at d0 d1 d2 d3 d4 hm hy hr
  have H := hid (h.more hg)
  have HG := hid hg
  clear h hf ha hb hg
  by_cases h0 : what = 0
  · subst h0
    have pR := hid (pRead H.out a)
    have qR := hid (fun (w' : World) (h : IB w0 w' x g m y r q lp cq cl I I) => qRead h a)
    obtain ⟨R, hR⟩ : ∃ R, I.readE a = R := ⟨_, rfl⟩
    rw [hR] at pR qR
    obtain ⟨L, code⟩ := R
    simp only at pR qR
    obtain ⟨S, hS⟩ : ∃ S : ByteArray, (⟨L.toArray⟩ : ByteArray) = S := ⟨_, rfl⟩
    have CV := hid (fun (w' : World) (q : Option Addr) (c : Nat) (h : BA w' q L) => (show (convert 22 9 (.slice q L.length c)).run Try.prog w' = .ok (.string S) w' from by rw [← hS]; exact h.string c))
    clear hR hS
    go_enter Try.func13, Try.ntmps13
    go_wp2_with (first
      | (go_at_call 22; refine (pR.out).mono ?_; rintro e w3 ⟨q3, c3, rfl, hb3, g3⟩; have H3 := hid (H.out.more g3); have B3 := hid hb3; have e1 := g3.cell d1 (by simp); clear hb3 g3)
      | (go_at_call 28; refine (qR.out _ H3.out).mono ?_; rintro e w4 ⟨q4, c4, rfl, hb4, g4⟩; have H4 := hid (H3.out.more g4); have v1 := CV.out _ _ c3 (B3.out.grown g4); have v2 := CV.out _ _ c4 hb4; clear hb4 g4))
    go_ret
    exact ⟨I, rfl, H4.out⟩
  have h0' : (what == 0) = false := by simpa using h0
  by_cases h1 : what = 1
  · subst h1
    have HBy := hid (fun (w' : World) (hf : (⟨1, a, b, fl, bp, bl, bc⟩ : OpV).fits w') => (show Calls Try.prog 12 #[.agg #[.int .i64 1, .int .i64 a, .int .i64 b, .int .u8 fl.toNat, .slice bp bl.length bc]] w' _ from lBytesBU ⟨1, a, b, fl, bp, bl, bc⟩ w' hf))
    have HLen := hid (OpV.out_len (HF.out w (grownBy_refl _ _)).len)
    obtain ⟨out, hout⟩ : ∃ out, (⟨1, a, b, fl, bp, bl, bc⟩ : OpV).out = out := ⟨_, rfl⟩
    rw [hout] at HBy HLen
    have pW := hid (fun (w' : World) (h : IB w0 w' x g m y r q lp cq cl I I) (q2 : Option Addr) (c2 : Nat) (hb : BU w' q2 out) => pWrite h a q2 out c2 HLen.out hb.1)
    have qW := hid (fun (w' : World) (h : IB w0 w' x g m y r q lp cq cl (I.writeE a out).1 I) (q2 : Option Addr) (c2 : Nat) (hb : BU w' q2 out) => qWrite h a q2 out c2 HLen.out hb)
    obtain ⟨R, hR⟩ : ∃ R, I.writeE a out = R := ⟨_, rfl⟩
    rw [hR] at pW qW
    obtain ⟨I', code⟩ := R
    simp only at pW qW
    clear hR hout
    go_enter Try.func13, Try.ntmps13
    go_wp2_with fail
    have Hd := hid (H.out.more (grownBy_drew W none))
    have Fd := hid (HF.out _ (HG.out.trans (grownBy_drew W none)))
    go_region_held3 (fun W' => W'.cell? ⟨OB, 0, none⟩ = some (.int .i64 1) ∧ W'.cell? ⟨OB, 1, none⟩ = some (.int .i64 a) ∧ W'.cell? ⟨OB, 2, none⟩ = some (.int .i64 b) ∧ W'.cell? ⟨OB, 3, none⟩ = some (.int .u8 fl.toNat) ∧ W'.cell? ⟨OB, 4, none⟩ = some (.slice bp bl.length bc)) (first | exact ⟨by assumption, by assumption, by assumption, by assumption, by assumption⟩ | go_keep)
      (first
        | (go_at_call 12; (with_reducible refine (HBy.out _ Fd.out).mono ?_); rintro e w3 ⟨q3, c3, rfl, hb3, g3⟩; have H3 := hid (Hd.out.more g3); have B3 := hid hb3; have F3 := hid (Fd.out.grown g3); have e0 := g3.cell d0 (by simp); have e1 := g3.cell d1 (by simp); have e2 := g3.cell d2 (by simp); have e3 := g3.cell d3 (by simp); have e4 := g3.cell d4 (by simp); clear hb3 g3)
        | (go_at_call 11; (with_reducible refine (pW.out _ H3.out q3 c3 B3.out).mono ?_); rintro e w4 ⟨rfl, h4, hc4⟩; have H4 := hid h4; have F4 := hid (F3.out.chg H3.out.pi hc4); have f0 := hc4.cell e0 (by simp; omega); have f1 := hc4.cell e1 (by simp; omega); have f2 := hc4.cell e2 (by simp; omega); have f3 := hc4.cell e3 (by simp; omega); have f4 := hc4.cell e4 (by simp; omega); clear h4 hc4)
        | (go_at_call 12; (with_reducible refine (HBy.out _ F4.out).mono ?_); rintro e w5 ⟨q5, c5, rfl, hb5, g5⟩; have H5 := hid (H4.out.more g5); have B5 := hid hb5; have k0 := g5.cell f0 (by simp); have k1 := g5.cell f1 (by simp); have k2 := g5.cell f2 (by simp); have k3 := g5.cell f3 (by simp); have k4 := g5.cell f4 (by simp); clear hb5 g5)
        | (go_at_call 29; (with_reducible refine (qW.out _ H5.out q5 c5 B5.out).mono ?_); rintro e w6 ⟨rfl, h6, hc6⟩; have H6 := hid h6; have n0 := hc6.cell k0 (by simp; omega); have n1 := hc6.cell k1 (by simp; omega); have n2 := hc6.cell k2 (by simp; omega); have n3 := hc6.cell k3 (by simp; omega); have n4 := hc6.cell k4 (by simp; omega); clear h6 hc6))
    all_goals go_wp2
    all_goals
      go_ret
      exact ⟨I', rfl, H6.out⟩
  have h1' : (what == 1) = false := by simpa using h1
  by_cases h2 : what = 2
  · subst h2
    have pW := hid (fun (w' : World) (h : IB w0 w' x g m y r q lp cq cl I I) => pTrim h a)
    have qW := hid (fun (w' : World) (h : IB w0 w' x g m y r q lp cq cl (I.trimE a).1 I) => qTrim h a)
    obtain ⟨R, hR⟩ : ∃ R, I.trimE a = R := ⟨_, rfl⟩
    rw [hR] at pW qW
    obtain ⟨I', code⟩ := R
    simp only at pW qW
    clear hR
    go_enter Try.func13, Try.ntmps13
    go_wp2_with fail
    have Hd := hid (H.out.more (grownBy_drew W none))
    go_region_held3 (fun W' => W'.cell? ⟨OB, 0, none⟩ = some (.int .i64 2) ∧ W'.cell? ⟨OB, 1, none⟩ = some (.int .i64 a) ∧ W'.cell? ⟨OB, 2, none⟩ = some (.int .i64 b) ∧ W'.cell? ⟨OB, 3, none⟩ = some (.int .u8 fl.toNat) ∧ W'.cell? ⟨OB, 4, none⟩ = some (.slice bp bl.length bc)) (first | exact ⟨by assumption, by assumption, by assumption, by assumption, by assumption⟩ | go_keep)
      (first
        | (go_at_call 20; (with_reducible refine (pW.out _ Hd.out).mono ?_); rintro e w4 ⟨rfl, h4, hc4⟩; have H4 := hid h4; have f0 := hc4.cell d0 (by simp; omega); have f1 := hc4.cell d1 (by simp; omega); have f2 := hc4.cell d2 (by simp; omega); have f3 := hc4.cell d3 (by simp; omega); have f4 := hc4.cell d4 (by simp; omega); clear h4 hc4)
        | (go_at_call 30; (with_reducible refine (qW.out _ H4.out).mono ?_); rintro e w6 ⟨rfl, h6, hc6⟩; have H6 := hid h6; have n0 := hc6.cell f0 (by simp; omega); have n1 := hc6.cell f1 (by simp; omega); have n2 := hc6.cell f2 (by simp; omega); have n3 := hc6.cell f3 (by simp; omega); have n4 := hc6.cell f4 (by simp; omega); clear h6 hc6))
    all_goals go_wp2
    all_goals
      go_ret
      exact ⟨I', rfl, H6.out⟩
  have h2' : (what == 2) = false := by simpa using h2
  by_cases h3 : what = 3
  · subst h3
    have pN := hid (pNeed H.out a b HA.out HB.out)
    have qN := hid (fun (w' : World) (h : IB w0 w' x g m y r q lp cq cl I I) => qNeed h a b HA.out HB.out)
    obtain ⟨R, hR⟩ : ∃ R, I.needE a b = R := ⟨_, rfl⟩
    rw [hR] at pN qN
    obtain ⟨nv, code⟩ := R
    simp only at pN qN
    clear hR
    go_enter Try.func13, Try.ntmps13
    go_wp2_with (first
      | (go_at_call 23; refine (pN.out).mono ?_; rintro e w3 ⟨rfl, g3⟩; have H3 := hid (H.out.more g3); have e1 := g3.cell d1 (by simp); have e2 := g3.cell d2 (by simp); clear g3)
      | (go_at_call 31; refine (qN.out _ H3.out).mono ?_; rintro e w4 ⟨rfl, rfl⟩))
    go_ret
    exact ⟨I, rfl, H3.out⟩
  have h3' : (what == 3) = false := by simpa using h3
  have pR := hid (pBase H.out a)
  have qR := hid (fun (w' : World) (h : IB w0 w' x g m y r q lp cq cl I I) => qBase h a)
  obtain ⟨R, hR⟩ : ∃ R, I.baseE a = R := ⟨_, rfl⟩
  rw [hR] at pR qR
  obtain ⟨L, code⟩ := R
  simp only at pR qR
  obtain ⟨S, hS⟩ : ∃ S : ByteArray, (⟨L.toArray⟩ : ByteArray) = S := ⟨_, rfl⟩
  have CV := hid (fun (w' : World) (q : Option Addr) (c : Nat) (h : BA w' q L) => (show (convert 22 9 (.slice q L.length c)).run Try.prog w' = .ok (.string S) w' from by rw [← hS]; exact h.string c))
  clear hR hS
  go_enter Try.func13, Try.ntmps13
  go_wp2_with (first
    | (go_at_call 21; refine (pR.out).mono ?_; rintro e w3 ⟨q3, c3, rfl, hb3, g3⟩; have H3 := hid (H.out.more g3); have B3 := hid hb3; have e1 := g3.cell d1 (by simp); clear hb3 g3)
    | (go_at_call 32; refine (qR.out _ H3.out).mono ?_; rintro e w4 ⟨q4, c4, rfl, hb4, g4⟩; have H4 := hid (H3.out.more g4); have v1 := CV.out _ _ c3 (B3.out.grown g4); have v2 := CV.out _ _ c4 hb4; clear hb4 g4))
  go_ret
  exact ⟨I, rfl, H4.out⟩
end Go.Proofs.Ytcogchalfdeagaa
