/-
  The reference's image: Write.
-/
import Derived.Test.YtcogchalfdeagaaImRB
import Derived.Deep.AppendLies
set_option linter.unusedSimpArgs false
set_option linter.unusedVariables false
namespace Go.Proofs.Ytcogchalfdeagaa
open Go.RowKit Gen CM
set_option maxHeartbeats 2000000
set_option maxRecDepth 100000

section
variable {w w' : World} {y r : Nat} {q lp : Option Addr} {cq cl : Nat} {I : Im}
theorem NewB.bu64 {w w' : World} {l : List UInt8} {v : Value} (h : NewB w l v w') (hl : l.length = 64) : ∃ p c, v = .slice p 64 c ∧ BU w' p l := by
  obtain ⟨p, c, rfl, hb, _⟩ := h.bu
  exact ⟨p, c, by rw [hl], hb⟩
theorem rWrite_set (h : RI w y r q lp cq cl I) (hok : I.ok) (s : Int) (p : Option Addr) (l : List UInt8) (c : Nat) (hl : l.length = 64) (hb : BU w p l) (hs : I.is s = true) (hr : I.has s = true ∨ (I.has s = false ∧ I.used ≠ I.most)) :
    Calls Try.prog 29 #[.pointer (some ⟨y, 0, none⟩), .int .i64 s, .slice p 64 c] w fun e w' => e = .returned (.int .i64 0) ∧ RI w' y r q lp cq cl (I.set s l) ∧ CY y r w w' := by
  have HI := hid (rIs h s)
  rw [hs] at HI
  obtain ⟨k, rfl, hk, rfl, hn, h'⟩ := own_cases h hs
  have c1 := h.c1
  have c2 := h.c2
  have hk0 : (0 : Int) ≤ k := by omega
  have hk1 : (k : Int) < I.n := by omega
  have hn256 := hok.n256
  have hm := hok.most256
  have hle := hok.le
  have HL := hid hl
  have hyr := h.yr hn
  rcases h' with ⟨hh, hc⟩ | ⟨hh, pp, cc, hc⟩
  · have hu : I.used ≠ I.most := by
      rcases hr with hr | hr
      · rw [hh] at hr; cases hr
      · exact hr.2
    have hz : (((I.most : Int) - I.used) == 0) = false := by simp; omega
    obtain ⟨hq1, hq2⟩ := h.free hn (I.used + 1) ((I.most : Int) - I.used - 1) (show (I.most : Int) - I.used - 1 = (I.most : Int) - ((I.used + 1 : Nat) : Int) by omega)
    have hfy := h.top.frozen 2
    have hb1 := hb.chg hq2 (h.far hn)
    obtain ⟨W1, hW1⟩ : ∃ W, w.setCell ⟨y, 2, none⟩ (.int .i64 ((I.most : Int) - I.used - 1)) = W := ⟨_, rfl⟩
    rw [hW1] at hq1 hq2 hb1
    have ec : I.set k l = { { I with used := I.used + 1 } with own := fun i => if i = k then some l else I.own i } := by unfold Im.set; rw [hh]; simp
    rw [ec]
    have HR1 := hid hq1
    have HC1 := hid hq2
    have HB1 := hid hb1
    have hne : y ≠ r := hyr
    have hck : W1.cell? ⟨r, k, none⟩ = some (.slice none 0 0) := by rw [← hW1]; exact (grownBy_setCell w y 2 none _).cell hc (by simp; omega)
    have d1 := hq1.c1
    simp only at d1
    have d1d := (grownBy_drew W1 none).cell d1 (by simp)
    have d1a := fun ob => (World.grownBy_alloc W1.drew ob none).cell d1d (by simp)
    clear h hok hs ec hh hq1 hq2 hb hb1 hr hu
    go_enter Try.func29, Try.ntmps29
    go_wp2_with (go_at_call 38; refine HI.out.mono ?_; rintro e w' ⟨rfl, rfl⟩)
    go_region_held3 (fun W => W.cell? ⟨y, 1, none⟩ = some (.slice (some ⟨r, 0, none⟩) I.n cl)) (first | assumption | exact d1a _ | exact z1 _ | go_keep)
      ((((refine step_append_empty rfl (.tmp 42) (.tmp 43) rfl rfl p l c HL.out rfl ((HB1.out.1).grown (grownBy_drew W1 none)) ?_; intro v w2 hv; obtain ⟨q2, c2', rfl, hbu⟩ := hv.bu64 HL.out; have HBU := hid hbu; have HG2 := hid ((grownBy_drew W1 none).trans hv.2); have e1 := hv.2.cell d1d (by simp); have hc2 := HG2.out.cell hck (by simp); have hf2 := (HR1.out.grown HG2.out).frz hn k; have z1 := fun u => (grownBy_setCell w2 r k none u).cell e1 (by simp; omega); clear hv hbu))))
    go_wp2
    go_ret
    obtain ⟨a1, a2⟩ := HR1.out.put HG2.out hk (some l) (.slice q2 64 c2') (.inr ⟨l, q2, c2', rfl, rfl, HL.out, HBU.out⟩)
    exact ⟨rfl, a1, HC1.out.trans a2 fun _ e => .inl e⟩
  · have hne : y ≠ r := hyr
    obtain ⟨W1, hW1⟩ : ∃ W, w = W := ⟨_, rfl⟩
    subst hW1
    have ec : I.set k l = { I with own := fun i => if i = k then some l else I.own i } := by unfold Im.set; rw [hh]; simp
    rw [ec]
    have HR1 := hid h
    have HB1 := hid hb
    have hck := hc
    have d1d := (grownBy_drew w none).cell c1 (by simp)
    have d1a := fun ob => (World.grownBy_alloc w.drew ob none).cell d1d (by simp)
    clear h hok hs ec hh hb hr
    go_enter Try.func29, Try.ntmps29
    go_wp2_with (go_at_call 38; refine HI.out.mono ?_; rintro e w' ⟨rfl, rfl⟩)
    go_region_held3 (fun W => W.cell? ⟨y, 1, none⟩ = some (.slice (some ⟨r, 0, none⟩) I.n cl)) (first | assumption | exact d1a _ | exact z1 _ | go_keep)
      ((((refine step_append_empty rfl (.tmp 42) (.tmp 43) rfl rfl p l c HL.out rfl ((HB1.out.1).grown (grownBy_drew w none)) ?_; intro v w2 hv; obtain ⟨q2, c2', rfl, hbu⟩ := hv.bu64 HL.out; have HBU := hid hbu; have HG2 := hid ((grownBy_drew w none).trans hv.2); have e1 := hv.2.cell d1d (by simp); have hc2 := HG2.out.cell hck (by simp); have hf2 := (HR1.out.grown HG2.out).frz hn k; have z1 := fun u => (grownBy_setCell w2 r k none u).cell e1 (by simp; omega); clear hv hbu))))
    go_wp2
    go_ret
    obtain ⟨a1, a2⟩ := HR1.out.put HG2.out hk (some l) (.slice q2 64 c2') (.inr ⟨l, q2, c2', rfl, rfl, HL.out, HBU.out⟩)
    exact ⟨rfl, a1, a2⟩
theorem rWrite (h : RI w y r q lp cq cl I) (hok : I.ok) (s : Int) (p : Option Addr) (l : List UInt8) (c : Nat) (hll : l.length ≤ 9223372036854775807) (hb : BU w p l) :
    Calls Try.prog 29 #[.pointer (some ⟨y, 0, none⟩), .int .i64 s, .slice p l.length c] w fun e w' => e = .returned (.int .i64 (I.writeE s l).2) ∧ RI w' y r q lp cq cl (I.writeE s l).1 ∧ CY y r w w' := by
  rcases I.write_cases s l with ⟨hs, e⟩ | ⟨hs, hl, e⟩ | ⟨hs, hl, hh, hu, e⟩ | ⟨hs, hl, hh, e⟩ | ⟨hs, hl, hh, hu, e⟩ <;> rw [e]
  · have HI := hid (rIs h s)
    rw [hs] at HI
    have H := hid h
    clear h hok hs e hb
    go_enter Try.func29, Try.ntmps29
    go_wp2_with (go_at_call 38; refine HI.out.mono ?_; rintro e w' ⟨rfl, rfl⟩)
    go_ret
    exact ⟨rfl, H.out, Chg.refl _ _⟩
  · have HI := hid (rIs h s)
    rw [hs] at HI
    have H := hid h
    have hne : ((l.length : Int) == 64) = false := by simp; omega
    have hne' : ¬ (l.length : Int) = 64 := by omega
    clear h hok hs e hb hl
    go_enter Try.func29, Try.ntmps29
    go_wp2_with (go_at_call 38; refine HI.out.mono ?_; rintro e w' ⟨rfl, rfl⟩)
    go_ret
    exact ⟨rfl, H.out, Chg.refl _ _⟩
  · have HI := hid (rIs h s)
    rw [hs] at HI
    have H := hid h
    obtain ⟨k, rfl, hk, rfl, hn, h'⟩ := own_cases h hs
    have hc : w.cell? ⟨r, k, none⟩ = some (.slice none 0 0) := by
      rcases h' with ⟨_, hc⟩ | ⟨hh', _⟩
      · exact hc
      · rw [hh] at hh'; cases hh'
    have c1 := h.c1
    have c2 := h.c2
    have hz : (((I.most : Int) - I.used) == 0) = true := by rw [hu]; simp
    have hk0 : (0 : Int) ≤ k := by omega
    have hk1 : (k : Int) < I.n := by omega
    have hn256 := hok.n256
    rw [hl]
    clear h hok hs e hb hl hh hu h' hll
    go_enter Try.func29, Try.ntmps29
    go_wp2_with (go_at_call 38; refine HI.out.mono ?_; rintro e w' ⟨rfl, rfl⟩)
    go_ret
    exact ⟨rfl, H.out, Chg.refl _ _⟩
  · rw [hl]; exact rWrite_set h hok s p l c hl hb hs (.inl hh)
  · rw [hl]; exact rWrite_set h hok s p l c hl hb hs (.inr ⟨hh, hu⟩)
end
end Go.Proofs.Ytcogchalfdeagaa
