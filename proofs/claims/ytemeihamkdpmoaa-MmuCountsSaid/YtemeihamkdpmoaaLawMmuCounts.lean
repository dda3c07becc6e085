/-
  MmuCounts: for every row of entries and every script of calls the law returns true, and what was there stays. No condition.
-/
import Derived.Test.YtemeihamkdpmoaaK33
import Derived.Test.YtemeihamkdpmoaaK31
import Derived.Test.YtemeihamkdpmoaaK34
import Derived.Test.YtemeihamkdpmoaaK29
import Derived.ProofKit
import Derived.OpenShut
import Derived.Deep.RegionWith
import Derived.Deep.CutBlock
import Derived.Deep.DeepCutAuto
set_option linter.unusedSimpArgs false
set_option linter.unusedVariables false
namespace Go.Proofs.Ytemeihamkdpmoaa.lawMmuCounts
open Go.ChangeShapes Go.WideShapes Go.ChangeAt Go.RowKit
set_option maxHeartbeats 4000000

theorem info_a2 : (Try.prog.info? 89).map (fun i => (i.zero, i.size, i.bytes)) = some (some (.agg #[.int .i64 0, .int .i64 0]), 2, 16) := by kernel_rfl
def zbes : Array Value := madeCells #[.int .i64 0, .int .i64 0] 20
theorem zbes_size : zbes.size = 20 := size_madeCells _ _
theorem zbes_at (k : Nat) (h : k < 20) : zbes[k]? = some (.int .i64 0) := by
  unfold zbes
  have h4 : k % 2 < 2 := Nat.mod_lt _ (by omega)
  simp only [madeCells]
  simp [h]
  generalize k % 2 = m at h4 ⊢
  match m, h4 with
  | 0, _ => rfl
  | 1, _ => rfl
attribute [irreducible] zbes
theorem make_bes (W : World) : (Instr.makeSlice 82 (.int .i64 10) (.int .i64 10)).run Try.prog W = .ok (.slice (some ⟨W.heap.size, 0, none⟩) 10 10) (W.alloc (.cells zbes 89)) := by
  obtain ⟨i0, hi, hz0, hz1, hz2⟩ := info_parts info_a2
  have hr := run_make W 82 89 i0 (.agg #[.int .i64 0, .int .i64 0]) Try.underlying82 hi hz0 .i64 .i64 10 10 (by omega) (by omega) (by rw [hz2]; omega) (by omega)
  rw [hr, hz1]
  unfold zbes
  simp [Value.cells]
theorem zbes_row (W : World) : Row (W.alloc (.cells zbes 89)) W.heap.size 89 20 (cnt2 E0) :=
  ⟨zbes, heap_alloc_new W _, by rw [zbes_size]; omega, fun k hk => by rw [zbes_at k hk]; rfl⟩
/-- the program's side in the midst of a script, what was taken beside in block BB -/
structure CR (w W : World) (X B BB : Nat) (M : Mach) (sp : Nat → Sp) (pv : Nat → Value) (E : Cnt) (k : Nat) : Prop where
  p : PS W B X M sp pv
  all : All M sp E
  fw : few E k
  hn : M.n = 10
  b : Row W BB 89 20 (cnt2 E)
  e2 : ∀ i k, 2 ≤ k → E i k = 0
  nb : ¬ xfoot B X pv BB
  far : ∀ k, xfoot B X pv k → w.heap.size ≤ k
  farB : w.heap.size ≤ BB
  g : w.grownBy W none
section
variable {w W W' : World} {X B BB : Nat} {M M' : Mach} {sp sp' : Nat → Sp} {pv pv' : Nat → Value} {E E' : Cnt} {k i m : Nat}
theorem CR.more (h : CR w W X B BB M sp pv E k) (hg : W.grownBy W' none) : CR w W' X B BB M sp pv E k :=
  ⟨h.p.grown hg, h.all, h.fw, h.hn, h.b.grown hg (by simp), h.e2, h.nb, h.far, h.farB, h.g.trans hg⟩
/-- a call of the program that takes nothing beside -/
theorem CR.step (h : CR w W X B BB M sp pv E k) (hx : XL W W' B X pv M' sp') (ha : All M' sp' E) (hn : M'.n = M.n) : ∃ pv', CR w W' X B BB M' sp' pv' E (k + 1) := by
  obtain ⟨pv', hp, hc, hf⟩ := hx
  refine ⟨pv', hp, ha, h.fw.up, by rw [hn, h.hn], h.b.chg hc h.nb, h.e2, fun e => ?_, fun k hk => ?_, h.farB, hc.grown h.g h.far⟩
  · rcases hf _ e with e | e
    · exact h.nb e
    · have := h.b.lt; omega
  · rcases hf k hk with e | e
    · exact h.far k e
    · exact Nat.le_trans h.g.size e
/-- a call of the machine itself -/
theorem CR.stepM (h : CR w W X B BB M sp pv E k) (hm : PM W' B M') (hg : W.grownBy W' (some B)) (ha : All M' sp E) (hn : M'.n = M.n) : CR w W' X B BB M' sp pv E (k + 1) := by
  have hx : XM W W' B X M' := ⟨hm, hg.cell h.p.c0 (fun e => h.p.XB (by cases e; rfl)), hg, h.p.XB⟩
  exact ⟨h.p.core hx, ha, h.fw.up, by rw [hn, h.hn], h.b.grown hg (fun e => h.nb (by cases e; exact .inl rfl)), h.e2, h.nb, h.far, h.farB, h.g.andThen hg fun j e => .inl (by cases e; exact h.far _ (.inl rfl))⟩
/-- a reference is taken beside, and counted -/
theorem CR.get (h : CR w W X B BB M sp pv E k) (hm : PM W' B M') (hg : W.grownBy W' (some B)) (hi : i < 10) (hk : m < 2) (ha : All M' sp (E.add i m)) (hn : M'.n = M.n) : CR w (W'.setCell ⟨BB, i * 2 + m, none⟩ (.int .i64 ((E i m : Nat) + 1))) X B BB M' sp pv (E.add i m) (k + 1) := by
  have hx : XM W W' B X M' := ⟨hm, hg.cell h.p.c0 (fun e => h.p.XB (by cases e; rfl)), hg, h.p.XB⟩
  have hp := h.p.core hx
  have hb := h.b.grown hg (fun e => h.nb (by cases e; exact .inl rfl))
  have hg2 := grownBy_setCell W' BB (i * 2 + m) none (.int .i64 ((E i m : Nat) + 1))
  have hc : Chg (fun q => q = BB) W' (W'.setCell ⟨BB, i * 2 + m, none⟩ (.int .i64 ((E i m : Nat) + 1))) := Chg.of hg2 fun q e => .inl (Option.some.inj e).symm
  refine ⟨hp.chg hc fun q hq e => h.nb (e ▸ hq), ha, h.fw.add (by omega), by rw [hn, h.hn], hb.set (k := i * 2 + m) ?_ fun j hj hne => ?_, fun a b hb => ?_, h.nb, h.far, h.farB, (h.g.andThen hg fun j e => .inl (by cases e; exact h.far _ (.inl rfl))).andThen hg2 fun j e => .inl (by cases e; exact h.farB)⟩
  · unfold cnt2
    rw [show (i * 2 + m) / 2 = i by omega, show (i * 2 + m) % 2 = m by omega, Cnt.add_at]; rfl
  · unfold cnt2
    rw [Cnt.add_ne _ _ _ _ _ (by omega)]
  · rw [Cnt.add_ne _ _ _ _ _ (by omega), h.e2 a b hb]
theorem n_of (o : MOp) (s : Mach × (Nat → Sp)) {M' : Mach} (h : (playM o s).1 = M') : M'.n = s.1.n := h ▸ playM_n o s
end
set_option maxRecDepth 100000 in
set_option maxHeartbeats 8000000 in
theorem walk (pa : Option Addr) (cap : Nat) (ps : List PutV) (po : Option Addr) (co : Nat) (os : List MOpR) (w : World) (hp : PutsIn w pa ps) (hps : ps.length ≤ 9223372036854775807) (ho : MOpsIn w po os) (hos : os.length ≤ 140737488355328) :
    Calls Try.prog 10 #[.slice pa ps.length cap, .slice po os.length co] w fun e w' => e = .returned (.bool true) ∧ w.grownBy w' none := by
  have HB := hid (mBegin pa cap ps w hp hps)
  have HO := hid ho; have HOs := hid hos
  have HAl := hid (All.begin ps)
  have HN := hid (mC_n ps ps.length)
  have hmk := make_bes
  clear hp ho hos hps
  go_enter Try.func10, Try.ntmps10
  go_wp2_with (first
    | (go_at_call 36; refine HB.out.mono ?_; rintro e w1 ⟨X, Y, B, b, pv, L, A, rfl, h1⟩; have H1 := hid h1; clear h1)
    | (go_at_call 39; refine (xMachine X B w1 H1.out.p.c0).mono ?_; rintro e w' ⟨rfl, rfl⟩)
    | (go_at_call 40; refine (Size_yes B 10 w1 (by omega) (HN.out ▸ H1.out.p.m.size)).mono ?_; rintro e w' ⟨rfl, rfl⟩))
  have HCC0 := hid (show CR w (w1.alloc (.cells zbes 89)) X B w1.heap.size (mC ps ps.length) sp0 pv E0 0 from
    ⟨H1.out.p.grown (World.grownBy_alloc _ _ _), HAl.out, few0, HN.out, zbes_row w1, fun _ _ _ => rfl, fun e => Nat.lt_irrefl _ (H1.out.p.lt e), H1.out.farp, H1.out.g.size, H1.out.g.trans (World.grownBy_alloc _ _ _)⟩)
  obtain ⟨BB, hBB⟩ : ∃ BB, w1.heap.size = BB := ⟨_, rfl⟩
  rw [hBB] at HCC0 ⊢
  clear hmk hBB HB HAl HN
  go_loopw [10] (fun i wr => ∃ (j : Nat) (M : Mach) (sp : Nat → Sp) (pv : Nat → Value) (E : Cnt), i = .int .i64 j ∧ j ≤ os.length ∧ CR w wr X B BB M sp pv E j) (fun i _ => os.length - (intOf i).toNat)
  case atStart => exact ⟨0, _, _, _, _, rfl, by omega, HCC0.out⟩
  case round =>
    clear HCC0 H1
    obtain ⟨j, M, sp, pv, E, rfl, hj, hc⟩ := hrel
    have HL0 := hid hc
    clear hc
    have hj0 : (0 : Int) ≤ j := by omega
    by_cases hjl : j < os.length
    · have hjl' : (j : Int) < os.length := by omega
      obtain ⟨b', off, rfl, hb', d0, d1, d2, d3, d4⟩ := (HO.out j hjl).at'
      have HOk := hid (HO.out j hjl).ok; have HLn := hid (HO.out j hjl).len; have HSrc := hid (HO.out j hjl).src
      have gw := HL0.out.g
      have k0 := gw.cell d0 (by simp); have k1 := gw.cell d1 (by simp); have k2 := gw.cell d2 (by simp); have k3 := gw.cell d3 (by simp); have k4 := gw.cell d4 (by simp)
      have hj2 := HOs.out
      have HSm0 := hid HOs.out
      have HJ := hid (show j ≤ 140737488355328 by omega)
      clear d0 d1 d2 d3 d4 gw
      generalize os[j] = r at *
      obtain ⟨o, pa', cp⟩ := r
      simp only at k0 k1 k2 k3 k4 HOk HLn HSrc
      obtain ⟨WB, hWB, hgB, hsB, b0, b1, b2, b3, b4⟩ := box5m wr (.int .i64 o.x) (.int .i64 o.d) (.int .i64 o.a) (.int .i64 o.c) (.slice pa' o.l.length cp)
      have HL := hid (HL0.out.more hgB)
      have HT := hid (HL.out.all.okF HL.out.fw)
      have HTs := hid (fun A sp' (h : All A sp' E) => h.okF HL.out.fw)
      have HTa := hid (fun A (h : All A sp E) => h.okF HL.out.fw)
      have HBf := hid (HL.out.far B (.inl rfl))
      clear hgB hsB
      go_upto_block 2 with fail
      go_cut [] (fun wx => ∃ M2 sp2 pv2 E2, CR w wx X B BB M2 sp2 pv2 E2 (j + 1))
      case first =>
        by_cases h0 : o.x = 0
        · as_aux_lemma =>
            have hx := h0
            have e0 : (o.x == 0) = true := by simp [hx]
            clear h0 hx
            go_wp2_with (go_at_call 41; refine (xPin X B o.d o.a o.c _ M _ _ sp pv HL.out.p HL.out.all.inv HT.out (by have := HJ.out; omega) (fun d hd => by have := HL.out.all.len hd; omega)).mono ?_; rintro e w3 ⟨rfl, h3⟩; obtain ⟨pv', hcc⟩ := CR.step HL.out h3 (HL.out.all.pin o.d o.a o.c) (n_of ⟨0, o.d, o.a, o.c, []⟩ (M, sp) (by simp [playM])); have HCC := hid hcc; clear h3 hcc)
            all_goals go_meet
            case rel => exact ⟨_, _, _, _, HCC.out⟩
        by_cases h1 : o.x = 1
        · as_aux_lemma =>
            have hx := h1
            have e0 : (o.x == 0) = false := by simp [h0]
            have e1 : (o.x == 1) = true := by simp [hx]
            clear h0 h1 hx
            go_wp2_with (go_at_call 42; refine (xUnpinA X B o.d o.a _ M _ sp E pv HL.out.p HL.out.all HT.out (by have := HJ.out; omega)).mono ?_; rintro e w3 ⟨rfl, h3⟩; obtain ⟨pv', hcc⟩ := CR.step HL.out h3 (HL.out.all.unpin o.d o.a) (n_of ⟨1, o.d, o.a, o.c, []⟩ (M, sp) (by simp [playM])); have HCC := hid hcc; clear h3 hcc)
            all_goals go_meet
            case rel => exact ⟨_, _, _, _, HCC.out⟩
        by_cases h2 : o.x = 2
        · as_aux_lemma =>
            have hx := h2
            have e0 : (o.x == 0) = false := by simp [h0]
            have e1 : (o.x == 1) = false := by simp [h1]
            have e2 : (o.x == 2) = true := by simp [hx]
            clear h0 h1 h2 hx
            go_wp2_with (go_at_call 43; refine (xBaseA X B o.d o.a _ M _ sp E pv HL.out.p HL.out.all HT.out (by have := HJ.out; omega)).mono ?_; rintro e w3 ⟨rfl, h3⟩; obtain ⟨pv', hcc⟩ := CR.step HL.out h3 (HL.out.all.base o.d o.a) (n_of ⟨2, o.d, o.a, o.c, []⟩ (M, sp) (by simp [playM])); have HCC := hid hcc; clear h3 hcc)
            all_goals go_meet
            case rel => exact ⟨_, _, _, _, HCC.out⟩
        by_cases h3 : o.x = 3
        · as_aux_lemma =>
            have hx := h3
            have e0 : (o.x == 0) = false := by simp [h0]
            have e1 : (o.x == 1) = false := by simp [h1]
            have e2 : (o.x == 2) = false := by simp [h2]
            have e3 : (o.x == 3) = true := by simp [hx]
            clear h0 h1 h2 h3 hx
            go_wp2_with (go_at_call 44; refine (xUpdate X B o.d _ o.l _ M sp E _ HL.out.p.xm HL.out.all HTa.out (by have := HJ.out; omega) (HSrc.out.updsAt HL.out.g HBf.out cp) HOk.out (by have := HLn.out; omega)).mono ?_; rintro e w3 ⟨rfl, h3⟩; have HCC := hid (HL.out.stepM h3.m h3.g (HL.out.all.upds o.d HOk.out) (n_of ⟨3, o.d, o.a, o.c, o.l⟩ (M, sp) (by simp [playM]))); clear h3)
            all_goals go_meet
            case rel => exact ⟨_, _, _, _, HCC.out⟩
        by_cases h4 : o.x = 4
        · as_aux_lemma =>
            have hx := h4
            have e0 : (o.x == 0) = false := by simp [h0]
            have e1 : (o.x == 1) = false := by simp [h1]
            have e2 : (o.x == 2) = false := by simp [h2]
            have e3 : (o.x == 3) = false := by simp [h3]
            have e4 : (o.x == 4) = true := by simp [hx]
            clear h0 h1 h2 h3 h4 hx
            go_wp2_with (go_at_call 45; refine (xDrop X B o.d _ M sp E _ pv HL.out.p HL.out.all HTs.out (by have := HJ.out; omega)).mono ?_; rintro e w3 ⟨rfl, h3⟩; obtain ⟨pv', hcc⟩ := CR.step HL.out h3 (HL.out.all.drop o.d) (n_of ⟨4, o.d, o.a, o.c, []⟩ (M, sp) (by simp [playM])); have HCC := hid hcc; clear h3 hcc)
            all_goals go_meet
            case rel => exact ⟨_, _, _, _, HCC.out⟩
        by_cases h5 : o.x = 5
        · have e5 : (o.x == 5) = true := by simp [h5]
          have e0 : (o.x == 0) = false := by simp [h0]
          have e1 : (o.x == 1) = false := by simp [h1]
          have e2 : (o.x == 2) = false := by simp [h2]
          have e3 : (o.x == 3) = false := by simp [h3]
          have e4 : (o.x == 4) = false := by simp [h4]
          clear h0 h1 h2 h3 h4 h5
          obtain ⟨K, hK⟩ : ∃ K, kindI o.c = K := ⟨_, rfl⟩
          have hK1 : K ≤ 1 := hK ▸ kindI_le o.c
          have hkd := fun W => mKind o.c W
          rw [hK] at hkd
          have HKd := hid hkd
          have HLd := hid (HL.out.more (grownBy_drew WB none))
          have HGt := hid (Get_any B o.a o.d (K : Nat) _ M _ HLd.out.p.m HT.out (by have := HJ.out; omega))
          have u1 := (grownBy_drew WB none).cell b1 (by simp); have u2 := (grownBy_drew WB none).cell b2 (by simp); have u3 := (grownBy_drew WB none).cell b3 (by simp)
          have U1 := hid u1; have U2 := hid u2; have U3 := hid u3
          clear u1 u2 u3
          have HGn := hid (n_of ⟨5, o.d, o.a, o.c, []⟩ (M, sp) (M' := (M.get o.a o.d (K : Nat)).2) (by simp [playM, hK]))
          have HnB := hid (show (some wr.heap.size : Option Nat) ≠ some B from fun e => by have := HL0.out.p.m.lt; cases e; omega)
          clear hkd hK
          by_cases hg0 : (M.get o.a o.d (K : Nat)).1 = 0
          · as_aux_lemma =>
              have HAg := hid (HL.out.all.get (by omega) hg0)
              have hia : 0 ≤ o.a ∧ o.a < 10 := by
                have h9 := HL.out.hn
                by_cases hi : o.a < 0 ∨ M.n ≤ o.a
                · exfalso
                  rw [show M.get o.a o.d (K : Nat) = (1, M) by simp [Mach.get, Mach.is_no hi]] at hg0
                  simp at hg0
                · omega
              rw [hg0] at HGt
              clear hg0
              generalize (M.get o.a o.d (K : Nat)).2 = M3 at *
              obtain ⟨mm, hmm⟩ : ∃ mm : Nat, o.a = mm := ⟨o.a.toNat, by omega⟩
              rw [hmm] at HGt HAg k2 b2 hia U2 hWB
              rw [Int.toNat_natCast] at HAg
              have hm10 : mm < 10 := by omega
              have hm0 : (0 : Int) ≤ mm := by omega
              have hm10' : (mm : Int) < 10 := by omega
              clear hmm hia
              rcases (show K = 0 ∨ K = 1 by omega) with rfl | rfl
              all_goals
                go_wp2
                go_region_held3 (fun w' => w'.cell? ⟨wr.heap.size, 1, none⟩ = some (.int .i64 o.d) ∧ w'.cell? ⟨wr.heap.size, 2, none⟩ = some (.int .i64 mm) ∧ w'.cell? ⟨wr.heap.size, 3, none⟩ = some (.int .i64 o.c)) (first | exact ⟨by assumption, by assumption, by assumption⟩ | go_keep)
                  (first
                    | (go_at_call 47; refine (HKd.out _).mono ?_; rintro e w' ⟨rfl, rfl⟩)
                    | (go_at_call 46; refine HGt.out.mono ?_; rintro e w3 ⟨rfl, hm, g1⟩; have HG3 := hid g1; have HM3 := hid hm; have j1 := g1.cell U1.out HnB.out; have j2 := g1.cell U2.out HnB.out; have j3 := g1.cell U3.out HnB.out; clear hm g1))
                all_goals go_wp2
                have hbr := HLd.out.b.grown HG3.out (fun e => HL.out.nb (by cases e; exact .inl rfl))
                have y0 := hbr.cell (k := mm * 2) (by omega)
                have y1 := hbr.cell (k := mm * 2 + 1) (by omega)
                have yf := hbr.frozen
                simp only [cnt2, show mm * 2 / 2 = mm by omega, show mm * 2 % 2 = 0 by omega, show (mm * 2 + 1) / 2 = mm by omega, show (mm * 2 + 1) % 2 = 1 by omega] at y0 y1
                have hneB : wr.heap.size ≠ BB := by have := HL0.out.b.lt; omega
                have HV := hid (fun (q : Nat) (v : Value) => (⟨(grownBy_setCell w3.drew BB q none v).cell ((grownBy_drew w3 none).cell j2 (by simp)) (by simpa using hneB), (grownBy_setCell w3.drew BB q none v).cell ((grownBy_drew w3 none).cell j3 (by simp)) (by simpa using hneB)⟩ : (w3.drew.setCell ⟨BB, q, none⟩ v).cell? ⟨wr.heap.size, 2, none⟩ = some (.int .i64 mm) ∧ (w3.drew.setCell ⟨BB, q, none⟩ v).cell? ⟨wr.heap.size, 3, none⟩ = some (.int .i64 o.c)))
                have hf0 := HL.out.fw mm
                have hjj := HJ.out
                have HQ0 := hid (fun h => HLd.out.get (i := mm) (m := 0) HM3.out HG3.out hm10 (by omega) h HGn.out)
                have HQ1 := hid (fun h => HLd.out.get (i := mm) (m := 1) HM3.out HG3.out hm10 (by omega) h HGn.out)
                clear hbr
                generalize ha0 : E mm 0 = a0 at *
                generalize ha1 : E mm 1 = a1 at *
                have ha0' : (a0 : Int) < 140737488355400 := by omega
                have ha1' : (a1 : Int) < 140737488355400 := by omega
                have W0 := hid (show IntKind.i64.wrap ((a0 : Int) + 1) = (a0 : Int) + 1 from IntWalk.i64_in _ (by omega))
                have W1 := hid (show IntKind.i64.wrap ((a1 : Int) + 1) = (a1 : Int) + 1 from IntWalk.i64_in _ (by omega))
                clear ha0 ha1
                clear hf0 hjj hneB
                go_region_with (go_at_call 47; refine (HKd.out _).mono ?_; rintro e w' ⟨rfl, rfl⟩)
                all_goals go_wp2
                all_goals go_meet
                all_goals first
                  | (rw [W0.out]; exact ⟨_, _, _, _, (HQ0.out HAg.out).more (grownBy_drew _ none)⟩)
                  | (rw [W1.out]; exact ⟨_, _, _, _, (HQ1.out HAg.out).more (grownBy_drew _ none)⟩)
                  | exact ⟨_, _, _, _, (HQ0.out HAg.out).more (grownBy_drew _ none)⟩
                  | exact ⟨_, _, _, _, (HQ1.out HAg.out).more (grownBy_drew _ none)⟩
                  | exact ⟨_, _, _, _, HQ0.out HAg.out⟩
                  | exact ⟨_, _, _, _, HQ1.out HAg.out⟩
          · as_aux_lemma =>
              have hgb : ((M.get o.a o.d (K : Nat)).1 == 0) = false := by simp [hg0]
              have HMn := hid (Mach.get_no M o.a o.d (K : Nat) hg0)
              clear hg0
              go_wp2
              go_region_held3 (fun w' => w'.cell? ⟨wr.heap.size, 1, none⟩ = some (.int .i64 o.d) ∧ w'.cell? ⟨wr.heap.size, 2, none⟩ = some (.int .i64 o.a) ∧ w'.cell? ⟨wr.heap.size, 3, none⟩ = some (.int .i64 o.c)) (first | exact ⟨by assumption, by assumption, by assumption⟩ | go_keep)
                (first
                  | (go_at_call 47; refine (HKd.out _).mono ?_; rintro e w' ⟨rfl, rfl⟩)
                  | (go_at_call 46; refine HGt.out.mono ?_; rintro e w3 ⟨rfl, hm, g1⟩; have HCC := hid (HLd.out.stepM (HMn.out ▸ hm) g1 HL.out.all rfl); have j1 := g1.cell U1.out HnB.out; have j2 := g1.cell U2.out HnB.out; have j3 := g1.cell U3.out HnB.out; clear hm g1))
              all_goals go_wp2
              all_goals go_meet
              case rel => exact ⟨_, _, _, _, HCC.out⟩
        · as_aux_lemma =>
            have e0 : (o.x == 0) = false := by simp [h0]
            have e1 : (o.x == 1) = false := by simp [h1]
            have e2 : (o.x == 2) = false := by simp [h2]
            have e3 : (o.x == 3) = false := by simp [h3]
            have e4 : (o.x == 4) = false := by simp [h4]
            have e5 : (o.x == 5) = false := by simp [h5]
            have HFr := hid (n_of ⟨6, o.d, o.a, o.c, []⟩ (M, sp) (M' := (M.free o.a).2) (by simp [playM]))
            clear h0 h1 h2 h3 h4 h5
            go_wp2_with (go_at_call 48; refine (Free_any B o.a _ M _ HL.out.p.m HT.out).mono ?_; rintro e w3 ⟨rfl, hm, g1⟩; have HCC := hid (HL.out.stepM hm g1 (HL.out.all.free o.a) HFr.out); clear hm g1)
            all_goals go_meet
            case rel => exact ⟨_, _, _, _, HCC.out⟩
      case rest => as_aux_lemma =>
          obtain ⟨M2, sp2, pv2, E2, hcr⟩ := hcut
          have HC := hid hcr
          clear hcr
          have HT2 := hid (HC.out.all.okF HC.out.fw)
          have HCn := hid (lCounts B X BB 10 wc M2 _ sp2 pv2 E2 (j + 1) HC.out.p HC.out.all HT2.out HC.out.hn HC.out.b HC.out.e2 (fun i k => by
            have h1 := HC.out.fw i
            by_cases hk : 2 ≤ k
            · rw [HC.out.e2 i k hk]; omega
            · rcases (show k = 0 ∨ k = 1 by omega) with rfl | rfl <;> omega) (by have := HOs.out; omega))
          have HSm := hid (fun i => show full 1 2 M2 (full 2 3 M2 (outF sp2 E2)) i 0 + full 1 2 M2 (full 2 3 M2 (outF sp2 E2)) i 1 + full 1 2 M2 (full 2 3 M2 (outF sp2 E2)) i 2 + full 1 2 M2 (full 2 3 M2 (outF sp2 E2)) i 3 ≤ 140737488400000 from by
            have h1 := outF_bound (n := 10) (by omega) (fun d hd => HC.out.hn ▸ HC.out.all.sp d hd) (HC.out.fw i)
            have h2 := full_bound (M := M2) (lv := 2) (K := 3) h1
            have h3 := full_bound (M := M2) (lv := 1) (K := 2) h2
            rw [HC.out.hn] at h3
            have := HOs.out
            omega)
          go_wp2_with (go_at_call 49; refine HCn.out.mono ?_; rintro e w4 ⟨NB, rfl, h4⟩; have H4 := hid h4; have HC4 := hid (HC.out.more h4.g); clear h4)
          have HCH := hid HC.out.all.inv.inv.inv
          go_loopw [13] (fun i wr => ∃ k : Nat, i = .int .i64 k ∧ k ≤ 10 ∧ w4.grownBy wr none) (fun i _ => 10 - (intOf i).toNat)
          case atStart => exact ⟨0, rfl, by omega, World.grownBy.refl _ _⟩
          case round =>
            obtain ⟨k, rfl, hk, hg⟩ := hrel
            have HG := hid hg
            clear hg
            have hk0 : (0 : Int) ≤ k := by omega
            by_cases hlt : k < 10
            · have hlt' : (k : Int) < 10 := by omega
              have HRw := hid (H4.out.row.grown HG.out (by simp))
              have hFr := Frame_out B k wr M2 _ (HC4.out.p.grown HG.out).m HT2.out (by rw [HC.out.hn]; omega)
              have ht := HCH.out.tot k (by rw [HC.out.hn]; omega)
              have hc := HCH.out.cnt k (by rw [HC.out.hn]; omega)
              have hty := HCH.out.ty k
              rw [HC.out.hn] at hty
              have hsm := HSm.out k
              obtain ⟨c0, e0⟩ : ∃ c, full 1 2 M2 (full 2 3 M2 (outF sp2 E2)) k 0 = c := ⟨_, rfl⟩
              obtain ⟨c1, e1⟩ : ∃ c, full 1 2 M2 (full 2 3 M2 (outF sp2 E2)) k 1 = c := ⟨_, rfl⟩
              obtain ⟨c2, e2⟩ : ∃ c, full 1 2 M2 (full 2 3 M2 (outF sp2 E2)) k 2 = c := ⟨_, rfl⟩
              obtain ⟨c3, e3⟩ : ∃ c, full 1 2 M2 (full 2 3 M2 (outF sp2 E2)) k 3 = c := ⟨_, rfl⟩
              rw [e0, e1, e2, e3] at ht
              rw [e1, e2, e3] at hc
              rw [e0, e1, e2, e3] at hsm
              have t1 := fun h => hty 1 (by omega) (by omega) (by omega) h
              have t2 := fun h => hty 2 (by omega) (by omega) (by omega) h
              have t3 := fun h => hty 3 (by omega) (by omega) (by omega) h
              rw [e1] at t1; rw [e2] at t2; rw [e3] at t3
              rw [ht, hc] at hFr
              generalize (M2.fr k).owner = ow at *
              generalize (M2.fr k).ty = ty at *
              have HFr := hid hFr
              obtain ⟨tt, htt⟩ : ∃ tt : Int, (c0 : Int) + c1 + c2 + c3 = tt := ⟨_, rfl⟩
              obtain ⟨cc, hcc⟩ : ∃ cc : Int, (c1 : Int) + c2 + c3 = cc := ⟨_, rfl⟩
              obtain ⟨s1, hs1⟩ : ∃ s : Int, (c0 : Int) + c1 = s := ⟨_, rfl⟩
              obtain ⟨s2, hs2⟩ : ∃ s : Int, s1 + (c2 : Int) = s := ⟨_, rfl⟩
              have a1 : IntKind.i64.wrap ((c0 : Int) + c1) = s1 := by rw [IntWalk.i64_in _ (by omega)]; exact hs1
              have a2 : IntKind.i64.wrap (s1 + (c2 : Int)) = s2 := by rw [IntWalk.i64_in _ (by omega)]; exact hs2
              have a3 : IntKind.i64.wrap (s2 + (c3 : Int)) = tt := by rw [IntWalk.i64_in _ (by omega)]; omega
              have a4 : IntKind.i64.wrap (tt - (c0 : Int)) = cc := by rw [IntWalk.i64_in _ (by omega)]; omega
              have hcc0 : 0 ≤ cc := by omega
              rw [hcc, htt] at hFr
              have htc := hid (show (cc = 0 ∧ True) ∨ (0 < cc ∧ ty = 1 ∧ (c1 : Int) = cc) ∨ (0 < cc ∧ ty = 2 ∧ (c2 : Int) = cc) ∨ (0 < cc ∧ ty = 3 ∧ (c3 : Int) = cc) by
                by_cases q1 : 0 < c1
                · have := t1 q1
                  have : c2 = 0 := by
                    by_cases q : 0 < c2
                    · have := t2 q; omega
                    · omega
                  have : c3 = 0 := by
                    by_cases q : 0 < c3
                    · have := t3 q; omega
                    · omega
                  omega
                · by_cases q2 : 0 < c2
                  · have := t2 q2
                    have : c3 = 0 := by
                      by_cases q : 0 < c3
                      · have := t3 q; omega
                      · omega
                    omega
                  · by_cases q3 : 0 < c3
                    · have := t3 q3; omega
                    · exact .inl ⟨by omega, trivial⟩)
              have z0 := cnt4_cell (k := 0) hlt (by omega) HRw.out; rw [Nat.add_zero] at z0
              have z1 := cnt4_cell (k := 1) hlt (by omega) HRw.out
              have z2 := cnt4_cell (k := 2) hlt (by omega) HRw.out
              have z3 := cnt4_cell (k := 3) hlt (by omega) HRw.out
              rw [e0] at z0; rw [e1] at z1; rw [e2] at z2; rw [e3] at z3
              have HFr := hid hFr
              clear hFr hty ht hc t1 t2 t3 htt hcc hs1 hs2 e0 e1 e2 e3
              obtain ⟨WC, hWC⟩ : ∃ WC : World → World, WC = fun W => W.alloc (.cells #[.int .i64 ow, .int .i64 ty, .int .i64 cc, .int .i64 tt] 93) := ⟨_, rfl⟩
              have HZ := hid (fun (W : World) (g : wr.grownBy W none) => show (W.alloc (.cells #[.int .i64 ow, .int .i64 ty, .int .i64 cc, .int .i64 tt] 93)).cell? ⟨NB, k * 4, none⟩ = some (.int .i64 (c0 : Nat)) ∧ (W.alloc (.cells #[.int .i64 ow, .int .i64 ty, .int .i64 cc, .int .i64 tt] 93)).cell? ⟨NB, k * 4 + 1, none⟩ = some (.int .i64 (c1 : Nat)) ∧ (W.alloc (.cells #[.int .i64 ow, .int .i64 ty, .int .i64 cc, .int .i64 tt] 93)).cell? ⟨NB, k * 4 + 2, none⟩ = some (.int .i64 (c2 : Nat)) ∧ (W.alloc (.cells #[.int .i64 ow, .int .i64 ty, .int .i64 cc, .int .i64 tt] 93)).cell? ⟨NB, k * 4 + 3, none⟩ = some (.int .i64 (c3 : Nat)) from by
                have g2 := g.trans (World.grownBy_alloc W (.cells #[.int .i64 ow, .int .i64 ty, .int .i64 cc, .int .i64 tt] 93) none)
                exact ⟨g2.cell z0 (by simp), g2.cell z1 (by simp), g2.cell z2 (by simp), g2.cell z3 (by simp)⟩)
              have HGz := hid (fun (W : World) (g : wr.grownBy W none) => show w4.grownBy (W.alloc (.cells #[.int .i64 ow, .int .i64 ty, .int .i64 cc, .int .i64 tt] 93)) none from (HG.out.trans g).trans (World.grownBy_alloc W _ none))
              clear hWC WC z0 z1 z2 z3
              rcases htc.out with ⟨q0, _⟩ | ⟨q0, q1, q2⟩ | ⟨q0, q1, q2⟩ | ⟨q0, q1, q2⟩
              · as_aux_lemma =>
                  subst q0
                  go_wp2_with (go_at_call 50; refine HFr.out.mono ?_; rintro e w6 ⟨rfl, g6⟩; obtain ⟨z0, z1, z2, z3⟩ := HZ.out w6 g6; have HG6 := hid (HGz.out w6 g6); clear g6)
                  go_region
                  all_goals go_wp2
                  all_goals go_region
                  all_goals go_wp2
                  all_goals go_roundw
                  all_goals first
                    | exact ⟨k + 1, by go_num, by omega, (HG6.out.trans (grownBy_drew _ none)).trans (grownBy_drew _ none)⟩
                    | exact ⟨k + 1, by go_num, by omega, HG6.out.trans (grownBy_drew _ none)⟩
                    | exact ⟨k + 1, by go_num, by omega, HG6.out⟩
                    | (simp [intOf]; omega)
              · as_aux_lemma =>
                  subst q1
                  have hb2 : ((c1 : Int) != cc) = false := by simp [q2]
                  clear q2
                  go_wp2_with (go_at_call 50; refine HFr.out.mono ?_; rintro e w6 ⟨rfl, g6⟩; obtain ⟨z0, z1, z2, z3⟩ := HZ.out w6 g6; have HG6 := hid (HGz.out w6 g6); clear g6)
                  go_region
                  all_goals go_wp2
                  all_goals go_region
                  all_goals go_wp2
                  all_goals go_roundw
                  all_goals first
                    | exact ⟨k + 1, by go_num, by omega, (HG6.out.trans (grownBy_drew _ none)).trans (grownBy_drew _ none)⟩
                    | exact ⟨k + 1, by go_num, by omega, HG6.out.trans (grownBy_drew _ none)⟩
                    | exact ⟨k + 1, by go_num, by omega, HG6.out⟩
                    | (simp [intOf]; omega)
              · as_aux_lemma =>
                  subst q1
                  have hb2 : ((c2 : Int) != cc) = false := by simp [q2]
                  clear q2
                  go_wp2_with (go_at_call 50; refine HFr.out.mono ?_; rintro e w6 ⟨rfl, g6⟩; obtain ⟨z0, z1, z2, z3⟩ := HZ.out w6 g6; have HG6 := hid (HGz.out w6 g6); clear g6)
                  go_region
                  all_goals go_wp2
                  all_goals go_region
                  all_goals go_wp2
                  all_goals go_roundw
                  all_goals first
                    | exact ⟨k + 1, by go_num, by omega, (HG6.out.trans (grownBy_drew _ none)).trans (grownBy_drew _ none)⟩
                    | exact ⟨k + 1, by go_num, by omega, HG6.out.trans (grownBy_drew _ none)⟩
                    | exact ⟨k + 1, by go_num, by omega, HG6.out⟩
                    | (simp [intOf]; omega)
              · as_aux_lemma =>
                  subst q1
                  have hb2 : ((c3 : Int) != cc) = false := by simp [q2]
                  clear q2
                  go_wp2_with (go_at_call 50; refine HFr.out.mono ?_; rintro e w6 ⟨rfl, g6⟩; obtain ⟨z0, z1, z2, z3⟩ := HZ.out w6 g6; have HG6 := hid (HGz.out w6 g6); clear g6)
                  go_region
                  all_goals go_wp2
                  all_goals go_region
                  all_goals go_wp2
                  all_goals go_roundw
                  all_goals first
                    | exact ⟨k + 1, by go_num, by omega, (HG6.out.trans (grownBy_drew _ none)).trans (grownBy_drew _ none)⟩
                    | exact ⟨k + 1, by go_num, by omega, HG6.out.trans (grownBy_drew _ none)⟩
                    | exact ⟨k + 1, by go_num, by omega, HG6.out⟩
                    | (simp [intOf]; omega)
            · as_aux_lemma =>
                obtain rfl : k = 10 := by omega
                have hge : (10 : Int) ≤ ((10 : Nat) : Int) := by omega
                have HL2 := hid (HC4.out.more HG.out)
                go_wp2
                go_roundw
                case rel => first
                  | exact ⟨j + 1, M2, sp2, pv2, E2, by go_num, by omega, HL2.out⟩
                  | (repeat apply Exists.intro
                     exact ⟨⟨j + 1, M2, sp2, pv2, E2, by go_num, by omega, HL2.out⟩, rfl⟩)
                case measure => simp [intOf]; omega
    · obtain rfl : j = os.length := by omega
      have hge : (os.length : Int) ≤ os.length := by omega
      have HSz := hid (Size_yes B 10 wr (by omega) (HL0.out.hn ▸ HL0.out.p.m.size))
      go_wp2_with (go_at_call 40; refine HSz.out.mono ?_; rintro e w' ⟨rfl, rfl⟩)
      go_ret
      exact ⟨rfl, HL0.out.g⟩
theorem main {H : Type} {enc : TypeId × Value → H} (v0 v1 : Value) (W : World) (c0 : Flat.Came enc Try.prog W 0 (fun _ => true) true 70 v0) (c1 : Flat.Came enc Try.prog W 0 (fun _ => true) true 71 v1) :
    Calls Try.prog 10 #[v0, v1] W fun e w' => e = .returned (.bool true) ∧ W.grownBy w' none := by
  obtain ⟨pa, ps, cap, rfl, hps, hp⟩ := open_mputs c0
  obtain ⟨po, os, co, rfl, hos, ho⟩ := open_mops c1
  exact walk pa cap ps po co os W hp hps ho hos
theorem own : ownKnob Try.prog.godebug = none := by kernel_rfl
theorem laidOut : laidOutB Try.prog = true := by kernel_rfl

set_option maxRecDepth 100000 in
theorem lifted (os : Os) (started : os.Started) (H : Type) (enc : TypeId × Value → H) :
    ReturnsInHanded {} Try.checked os 10 .any (Rows.mmuCountsSpec.pre6 enc Try.prog Try.f10 Rows.mmuCountsRow.domain false) (Rows.mmuCountsSpec.post enc Try.prog Try.f10 false true false false) := by
  refine returnsInHanded_of_change_sized (C := Try.checked) own started (by kernel_rfl) Try.func10
    (ChangeSpec.witness6 (enc := enc) (C := Try.checked) false ⟨#[], #[.slice none 0 0, .slice none 0 0], []⟩ 8 (by kernel_rfl) (by kernel_rfl) (by kernel_rfl) (by kernel_rfl)) ?_
  intro W base args ds gs before hval0 hW _ hsz0 _
  have hsz : (DataW.weightsEach Try.prog (Try.f10.params.toList ++ Rows.mmuCountsSpec.plain.varTypes Try.prog) (ds ++ gs)).all (· ≤ reachBytes) = true := hsz0
  clear hsz0
  have hval : ∀ (j : Nat) t v, Try.f10.params[j]? = some t → args[j]? = some v → Value.okWide Try.prog W .any base t v := hval0
  have hW' := hW
  obtain ⟨p, q, hA0, hV, rfl, hfz, hnd⟩ := hW
  have hA : DataW.TrodAll enc Try.prog W 0 (fun _ => true) true Try.f10.params.toList args.toList ds p := hA0
  rw [Try.params10] at hA hval hsz
  obtain ⟨v0, vs0, d0, ds0, p0, q0, hargs, rfl, rfl, h0, r0⟩ := trodAll_cons hA
  obtain ⟨v1, vs1, d1, ds1, p1, q1, rfl, rfl, rfl, h1, r1⟩ := trodAll_cons r0
  obtain ⟨rfl, rfl, rfl⟩ := trodAll_nil r1
  obtain rfl : args = #[v0, v1] := by cases args; simp_all
  obtain ⟨rfl, rfl⟩ := trodVars_none hV
  obtain ⟨ps0, ln0, cp0, rfl⟩ := okWide_slice Try.underlying70 (hval 0 70 v0 rfl rfl)
  have k0 := h0
  have lt0 : ∀ x ∈ p0, x.block < W.heap.size := by obtain ⟨m, hm⟩ := k0; exact DataW.trod_lt m _ _ _ hm
  have c0 : Flat.Came enc Try.prog W 0 (fun _ => true) true 70 (.slice ps0 ln0 cp0) := by
    obtain ⟨fuel, hf⟩ := h0
    exact ⟨fuel, _, hf, fun n hn => by
      have := List.all_eq_true.1 hsz n (DataW.weights_mem_each (j := 0) rfl rfl n hn)
      simpa using this⟩
  obtain ⟨ps1, ln1, cp1, rfl⟩ := okWide_slice Try.underlying71 (hval 1 71 v1 rfl rfl)
  have k1 := h1
  have lt1 : ∀ x ∈ p1, x.block < W.heap.size := by obtain ⟨m, hm⟩ := k1; exact DataW.trod_lt m _ _ _ hm
  have c1 : Flat.Came enc Try.prog W 0 (fun _ => true) true 71 (.slice ps1 ln1 cp1) := by
    obtain ⟨fuel, hf⟩ := h1
    exact ⟨fuel, _, hf, fun n hn => by
      have := List.all_eq_true.1 hsz n (DataW.weights_mem_each (j := 1) rfl rfl n hn)
      simpa using this⟩
  clear hA0 hval0
  refine (main (.slice ps0 ln0 cp0) (.slice ps1 ln1 cp1) W c0 c1).mono fun e W' ⟨he, hg⟩ => ?_
  subst he
  have bel := below_grown' hg
  simp only [List.append_nil, List.nil_append] at hW'
  exact ⟨_, rfl, _, _, _, [], _, [], hW', trodAll_mk1 (shut_bool Try.underlying4 _), (trodAll_cons_mk (Below.trod laidOut (by kernel_rfl) (of_decide_eq_true (by kernel_rfl)) k0 bel lt0) (trodAll_cons_mk (Below.trod laidOut (by kernel_rfl) (of_decide_eq_true (by kernel_rfl)) k1 bel lt1) trodAll_mk0)), rfl, bel.frame _, fun h => by cases h⟩

theorem proved : Rows.MmuCountsSaid :=
  OpenClaim.holds_of_wide 10 Try.f10 rfl rfl rfl rfl rfl rfl rfl ⟨rfl, rfl, rfl, rfl, rfl⟩ rfl rfl rfl rfl rfl (by kernel_rfl) Try.func10 (by kernel_rfl)
    (of_decide_eq_true (by kernel_rfl)) (by unfold Func.isWrapper; first | (rw [if_pos (by decide +kernel)]; kernel_rfl) | (rw [if_neg (by decide +kernel)]; exact ⟨rfl, rfl⟩))
    (fun os started H enc _ => lifted os started H enc)
#print axioms proved
end Go.Proofs.Ytemeihamkdpmoaa.lawMmuCounts
