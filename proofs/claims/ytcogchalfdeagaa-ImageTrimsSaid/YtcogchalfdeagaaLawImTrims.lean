/-
  ImageTrims: for every base, number of blocks, sector and byte the law returns true, and what was there stays. No condition.
-/
import Derived.Test.YtcogchalfdeagaaImY
import Derived.Deep.RegionHeld3
set_option linter.unusedSimpArgs false
set_option linter.unusedVariables false
namespace Go.Proofs.Ytcogchalfdeagaa.lawImTrims
open Go.ChangeShapes Go.WideShapes Go.ChangeAt Go.RowKit Gen
set_option maxHeartbeats 2000000

set_option maxRecDepth 100000 in
theorem walk_no (p : Option Addr) (l : List UInt8) (c : Nat) (x f : UInt8) (s : Int) (w : World) (hb : BA w p l) (hl : l.length ≤ 140737488351232) (hn : p = none → c = 0) (N : Nat) (hN : (x.toNat : Int) % 9 = N) (hcode : newC l.length N ≠ 0) :
    Calls Try.prog 7 #[.slice p l.length c, .int .u8 x.toNat, .int .i64 s, .int .u8 f.toNat] w fun e w' => e = .returned (.bool true) ∧ w.grownBy w' none := by
  have HB := hid hb
  have HL := hid hl
  have HN := hid hn
  have HA := hid lAwake
  have HW := hid (fun (w' : World) (q : Option Addr) (c' : Nat) => iNew_no q l c' N w' hl hcode)
  obtain ⟨code, hc⟩ : ∃ code, newC l.length N = code := ⟨_, rfl⟩
  rw [hc] at HW hcode
  clear hc hb hl hn
  go_enter Try.func7, Try.ntmps7
  go_wp2_with (first
    | (at_builtin; refine wpList_append_empty rfl (.tmp 20) (.tmp 21) rfl rfl _ l c rfl HB.out HL.out HN.out ?_; intro v w1 hv; obtain ⟨q, c', rfl, hq, -, hc', -⟩ := hv.ba; have HG1 := hid hv.2; have HQ := hid hq; have HC := hid hc'; clear hv hq hc')
    | (go_at_call 8; refine (HW.out _ _ _).mono ?_; rintro e w2 ⟨rfl, rfl⟩)
    | (go_at_call 19; refine (HA.out _).mono ?_; rintro e w3 ⟨rfl, g3⟩; have HG3 := hid (HG1.out.trans g3); clear g3))
  go_ret
  exact ⟨rfl, HG3.out⟩
theorem len_of {l : List UInt8} {N : Nat} (h : newC l.length N = 0) : ∃ n, l.length = n * 64 ∧ n ≤ 256 := by
  unfold newC at h
  split at h
  · cases h
  · split at h
    · rename_i h1 h2
      exact ⟨l.length / 64, by omega, by omega⟩
    · cases h
def opF (f : UInt8) : OpV := ⟨0, 0, 0, f, none, [], 0⟩
theorem opF_fits (f : UInt8) (w : World) : (opF f).fits w := ⟨show I64 0 from I64.of (by decide) (by decide), show I64 0 from I64.of (by decide) (by decide), show I64 0 from I64.of (by decide) (by decide), BA.nil _ _, by simp [opF], fun _ => rfl, by simp [opF]⟩
theorem lB (f : UInt8) (w : World) : Calls Try.prog 12 #[.agg #[.int .i64 0, .int .i64 0, .int .i64 0, .int .u8 f.toNat, .slice none 0 0]] w fun e w' => ∃ q c, e = .returned (.slice q 64 c) ∧ BA w' q (List.replicate 64 f) ∧ w.grownBy w' none :=
  (lBytes (opF f) w (opF_fits f w)).mono fun e w' ⟨v, he, hv⟩ => by
    obtain ⟨q, c, rfl, hb, _⟩ := hv.ba
    have e1 : (opF f).out = List.replicate 64 f := rfl
    rw [e1] at hb he
    rw [List.length_replicate] at he
    exact ⟨q, c, he, hb, hv.2⟩
theorem cWriteF {w0 w : World} {b g m : Nat} {I : Im} (h : IW w0 w b g m I) (s : Int) (f : UInt8) (p : Option Addr) (c : Nat) (hb : BA w p (List.replicate 64 f)) :
    Calls Try.prog 11 #[.pointer (some ⟨b, 0, none⟩), .int .i64 s, .slice p 64 c] w fun e w' => e = .returned (.int .i64 (I.writeE s (List.replicate 64 f)).2) ∧ IW w0 w' b g m (I.writeE s (List.replicate 64 f)).1 ∧ CM1 m w w' := by
  have := cWrite h s p (List.replicate 64 f) c (by simp) hb
  rwa [List.length_replicate] at this
set_option maxRecDepth 100000 in
theorem walk_out (p : Option Addr) (l : List UInt8) (c : Nat) (x f : UInt8) (s : Int) (w : World) (hb : BA w p l) (hl : l.length ≤ 140737488351232) (hn : p = none → c = 0) (N : Nat) (hN : (x.toNat : Int) % 9 = N) (hcode : newC l.length N = 0) (hs : (newI l N).is s = false) :
    Calls Try.prog 7 #[.slice p l.length c, .int .u8 x.toNat, .int .i64 s, .int .u8 f.toNat] w fun e w' => e = .returned (.bool true) ∧ w.grownBy w' none := by
  have HB := hid hb
  have HL := hid hl
  have HN := hid hn
  have HC := hid hcode
  obtain ⟨n, hln, h256⟩ := len_of hcode
  have hno := Im.is_no hs
  have e3 : (l.length : Int) / 64 = n := by omega
  have en : (newI l N).n = n := by simp only [newI]; omega
  rw [en] at hno
  have e1 : (newI l N).writeE s (List.replicate 64 f) = (newI l N, 1) := by unfold Im.writeE; rw [if_pos hs]
  have e2 : (newI l N).trimE s = (newI l N, 1) := by unfold Im.trimE; rw [hs]; rfl
  have HW := hid (fun (w' : World) (b g m : Nat) (h : IW w w' b g m (newI l N)) (q : Option Addr) (c' : Nat) (hb : BA w' q (List.replicate 64 f)) => cWriteF h s f q c' hb)
  have HT := hid (fun (w' : World) (b g m : Nat) (h : IW w w' b g m (newI l N)) => cTrim h s)
  have HF := hid (fun (w' : World) (b g m : Nat) (h : IW w w' b g m (newI l N)) => cFree h)
  rw [e1] at HW
  rw [e2] at HT
  have em : ((newI l N).most : Int) - (newI l N).used = N := by simp [newI]
  rw [em] at HF
  clear hb hl hn hcode hs hln en e1 e2 em
  by_cases h0 : 0 ≤ s
  · have h1 : (n : Int) ≤ s := by omega
    have hd : decide (s < (n : Int)) = false := by simp; omega
    clear hno
    go_enter Try.func7, Try.ntmps7
    go_wp2_with (first
      | (at_builtin; refine wpList_append_empty rfl (.tmp 20) (.tmp 21) rfl rfl _ l c rfl HB.out HL.out HN.out ?_; intro v w1 hv; obtain ⟨q, c', rfl, hq, -, hc', -⟩ := hv.ba; have HG1 := hid hv.2; have HQ := hid hq; have HC' := hid hc'; clear hv hq hc')
      | (go_at_call 8; refine (cNew _ _ _ _ HG1.out HC.out HQ.out HC'.out).mono ?_; rintro e w2 ⟨b, g, m, rfl, h2⟩; have H2 := hid h2; clear h2)
      | (go_at_call 12; refine (lB f _).mono ?_; rintro e w3 ⟨r, cr, rfl, hbr, hg3⟩; have HB3 := hid hbr; have H3 := hid (H2.out.more hg3); clear hbr hg3)
      | (go_at_call 11; refine (HW.out _ _ _ _ H3.out r cr HB3.out).mono ?_; rintro e w4 ⟨rfl, h4, -⟩; have H4 := hid h4; clear h4)
      | (go_at_call 20; refine (HT.out _ _ _ _ H4.out).mono ?_; rintro e w5 ⟨rfl, h5, -⟩; have H5 := hid h5; clear h5)
      | (go_at_call 14; refine (HF.out _ _ _ _ H5.out).mono ?_; rintro e w6 ⟨rfl, h6, -⟩; have H6 := hid h6; clear h6))
    go_ret
    exact ⟨rfl, H6.out.g⟩
  · clear hno
    go_enter Try.func7, Try.ntmps7
    go_wp2_with (first
      | (at_builtin; refine wpList_append_empty rfl (.tmp 20) (.tmp 21) rfl rfl _ l c rfl HB.out HL.out HN.out ?_; intro v w1 hv; obtain ⟨q, c', rfl, hq, -, hc', -⟩ := hv.ba; have HG1 := hid hv.2; have HQ := hid hq; have HC' := hid hc'; clear hv hq hc')
      | (go_at_call 8; refine (cNew _ _ _ _ HG1.out HC.out HQ.out HC'.out).mono ?_; rintro e w2 ⟨b, g, m, rfl, h2⟩; have H2 := hid h2; clear h2)
      | (go_at_call 12; refine (lB f _).mono ?_; rintro e w3 ⟨r, cr, rfl, hbr, hg3⟩; have HB3 := hid hbr; have H3 := hid (H2.out.more hg3); clear hbr hg3)
      | (go_at_call 11; refine (HW.out _ _ _ _ H3.out r cr HB3.out).mono ?_; rintro e w4 ⟨rfl, h4, -⟩; have H4 := hid h4; clear h4)
      | (go_at_call 20; refine (HT.out _ _ _ _ H4.out).mono ?_; rintro e w5 ⟨rfl, h5, -⟩; have H5 := hid h5; clear h5)
      | (go_at_call 14; refine (HF.out _ _ _ _ H5.out).mono ?_; rintro e w6 ⟨rfl, h6, -⟩; have H6 := hid h6; clear h6))
    go_ret
    exact ⟨rfl, H6.out.g⟩
set_option maxRecDepth 100000 in
theorem walk_full (p : Option Addr) (l : List UInt8) (c : Nat) (x f : UInt8) (s : Int) (w : World) (hb : BA w p l) (hl : l.length ≤ 140737488351232) (hn : p = none → c = 0) (hlc : l.length ≤ c) (N : Nat) (hN : (x.toNat : Int) % 9 = N) (hcode : newC l.length N = 0) (hs : (newI l N).is s = true) (hN0 : N = 0) :
    Calls Try.prog 7 #[.slice p l.length c, .int .u8 x.toNat, .int .i64 s, .int .u8 f.toNat] w fun e w' => e = .returned (.bool true) ∧ w.grownBy w' none := by
  have HB := hid hb
  have HL := hid hl
  have HN := hid hn
  have HC := hid hcode
  obtain ⟨n, hln, h256⟩ := len_of hcode
  have e3 : (l.length : Int) / 64 = n := by omega
  have en : (newI l N).n = n := by simp only [newI]; omega
  obtain ⟨h0, h1⟩ := Im.is_yes.1 hs
  rw [en] at h1
  have hd : decide (s < (n : Int)) = true := by simpa using h1
  have hh : (newI l N).has s = false := rfl
  subst hN0
  have e1 : (newI l (0 : Nat)).writeE s (List.replicate 64 f) = (newI l (0 : Nat), 71) := by unfold Im.writeE; rw [hs, hh]; simp [newI]
  have e2 : (newI l (0 : Nat)).trimE s = ((newI l (0 : Nat)).clr s, 0) := by unfold Im.trimE; rw [if_pos hs]
  have HW := hid (fun (w' : World) (b g m : Nat) (h : IW w w' b g m (newI l (0 : Nat))) (q : Option Addr) (c' : Nat) (hb : BA w' q (List.replicate 64 f)) => cWriteF h s f q c' hb)
  have HT := hid (fun (w' : World) (b g m : Nat) (h : IW w w' b g m (newI l (0 : Nat))) => cTrim h s)
  have HF := hid (fun (w' : World) (b g m : Nat) (h : IW w w' b g m ((newI l (0 : Nat)).clr s)) => cFree h)
  rw [e1] at HW
  rw [e2] at HT
  have em : (((newI l (0 : Nat)).clr s).most : Int) - ((newI l (0 : Nat)).clr s).used = 0 := by unfold Im.clr; rw [hh]; simp [newI]
  rw [em] at HF
  clear hb hl hn hlc hcode hs hln en e1 e2 em hh
  go_enter Try.func7, Try.ntmps7
  go_wp2_with (first
      | (at_builtin; refine wpList_append_empty rfl (.tmp 20) (.tmp 21) rfl rfl _ l c rfl HB.out HL.out HN.out ?_; intro v w1 hv; obtain ⟨q, c', rfl, hq, -, hc', -⟩ := hv.ba; have HG1 := hid hv.2; have HQ := hid hq; have HC' := hid hc'; clear hv hq hc')
      | (go_at_call 8; refine (cNew _ _ _ _ HG1.out HC.out HQ.out HC'.out).mono ?_; rintro e w2 ⟨b, g, m, rfl, h2⟩; have H2 := hid h2; clear h2)
      | (go_at_call 12; refine (lB f _).mono ?_; rintro e w3 ⟨r, cr, rfl, hbr, hg3⟩; have HB3 := hid hbr; have H3 := hid (H2.out.more hg3); clear hbr hg3)
      | (go_at_call 11; refine (HW.out _ _ _ _ H3.out r cr HB3.out).mono ?_; rintro e w4 ⟨rfl, h4, -⟩; have H4 := hid h4; clear h4)
      | (go_at_call 20; refine (HT.out _ _ _ _ H4.out).mono ?_; rintro e w5 ⟨rfl, h5, -⟩; have H5 := hid h5; clear h5)
      | (go_at_call 14; refine (HF.out _ _ _ _ H5.out).mono ?_; rintro e w6 ⟨rfl, h6, -⟩; have H6 := hid h6; clear h6))
  go_ret
  exact ⟨rfl, H6.out.g⟩
theorem conv64 {w : World} {q : Option Addr} {l : List UInt8} (h : BA w q l) (hl : l.length = 64) (c : Nat) : (convert 22 9 (.slice q 64 c)).run Try.prog w = .ok (.string ⟨l.toArray⟩) w := by
  have := h.string c
  rwa [hl] at this
set_option maxRecDepth 100000 in
theorem walk_in (p : Option Addr) (l : List UInt8) (c : Nat) (x f : UInt8) (s : Int) (w : World) (hb : BA w p l) (hl : l.length ≤ 140737488351232) (hn : p = none → c = 0) (hlc : l.length ≤ c) (N : Nat) (hN : (x.toNat : Int) % 9 = N) (hcode : newC l.length N = 0) (hs : (newI l N).is s = true) (hN0 : 0 < N) :
    Calls Try.prog 7 #[.slice p l.length c, .int .u8 x.toNat, .int .i64 s, .int .u8 f.toNat] w fun e w' => e = .returned (.bool true) ∧ w.grownBy w' none := by
  have HB := hid hb
  have HL := hid hl
  have HN := hid hn
  have HC := hid hcode
  obtain ⟨n, hln, h256⟩ := len_of hcode
  have e3 : (l.length : Int) / 64 = n := by omega
  have en : (newI l N).n = n := by simp only [newI]; omega
  obtain ⟨h0, h1⟩ := Im.is_yes.1 hs
  rw [en] at h1
  have hd : decide (s < (n : Int)) = true := by simpa using h1
  have hh : (newI l N).has s = false := rfl
  obtain ⟨k, rfl⟩ : ∃ k : Nat, s = k := ⟨s.toNat, by omega⟩
  have hN8 : N ≤ 8 := by omega
  have hn0 : ((N : Int) == 0) = false := by simp; omega
  obtain ⟨I0, hI0⟩ : ∃ I0, newI l N = I0 := ⟨_, rfl⟩
  have hz : I0.used = 0 ∧ I0.most = N ∧ I0.B = l := by rw [← hI0]; exact ⟨rfl, by simp [newI], rfl⟩
  rw [hI0] at hs hh
  obtain ⟨I1, hI1⟩ : ∃ I1, I0.set k (List.replicate 64 f) = I1 := ⟨_, rfl⟩
  have e1 : I0.writeE k (List.replicate 64 f) = (I1, 0) := by unfold Im.writeE; rw [hs, hh, ← hI1]; simp [hz.1, hz.2.1]; omega
  have hs1 : I1.is k = true := by rw [← hI1]; exact hs
  have hh1 : I1.has k = true := by rw [← hI1]; simp [Im.has, Im.set]
  have ea : I1.at k = List.replicate 64 f := by rw [← hI1]; simp [Im.at, Im.set]
  have hz1 : I1.used = 1 ∧ I1.most = N ∧ I1.B = l := by rw [← hI1]; refine ⟨?_, hz.2.1, hz.2.2⟩; simp [Im.set, hh, hz.1]
  obtain ⟨I2, hI2⟩ : ∃ I2, I1.clr k = I2 := ⟨_, rfl⟩
  have e2 : I1.trimE k = (I2, 0) := by unfold Im.trimE; rw [if_pos hs1, hI2]
  have hs2 : I2.is k = true := by rw [← hI2]; exact hs1
  have hh2 : I2.has k = false := by rw [← hI2]; simp [Im.has, Im.clr]
  have hz2 : I2.used = 0 ∧ I2.most = N ∧ I2.B = l := by rw [← hI2]; refine ⟨?_, hz1.2.1, hz1.2.2⟩; simp [Im.clr, hh1, hz1.1]
  obtain ⟨I3, hI3⟩ : ∃ I3, I2.clr k = I3 := ⟨_, rfl⟩
  have e2' : I2.trimE k = (I3, 0) := by unfold Im.trimE; rw [if_pos hs2, hI3]
  have hs3 : I3.is k = true := by rw [← hI3]; exact hs2
  have hz3 : I3.used = 0 ∧ I3.most = N ∧ I3.B = l := by rw [← hI3]; refine ⟨?_, hz2.2.1, hz2.2.2⟩; simp [Im.clr, hh2, hz2.1]
  have eb : I3.at k = (l.drop (k * 64)).take 64 := by
    have : I3.own k = none := by rw [← hI3]; simp [Im.clr]
    unfold Im.at Im.base; rw [this, hz3.2.2]; simp
  have HW := hid (fun (w' : World) (b g m : Nat) (h : IW w w' b g m I0) (q : Option Addr) (c' : Nat) (hb : BA w' q (List.replicate 64 f)) => cWriteF h k f q c' hb)
  have HR1 := hid (fun (w' : World) (b g m : Nat) (h : IW w w' b g m I1) => cRead h k hs1)
  have HT1 := hid (fun (w' : World) (b g m : Nat) (h : IW w w' b g m I1) => cTrim h k)
  have HT2 := hid (fun (w' : World) (b g m : Nat) (h : IW w w' b g m I2) => cTrim h k)
  have HF1 := hid (fun (w' : World) (b g m : Nat) (h : IW w w' b g m I1) => cFree h)
  have HF2 := hid (fun (w' : World) (b g m : Nat) (h : IW w w' b g m I2) => cFree h)
  have HF3 := hid (fun (w' : World) (b g m : Nat) (h : IW w w' b g m I3) => cFree h)
  have HR3 := hid (fun (w' : World) (b g m : Nat) (h : IW w w' b g m I3) => cRead h k hs3)
  have HD3 := hid (fun (w' : World) (b g m : Nat) (h : IW w w' b g m I3) => cDirty h)
  rw [e1] at HW
  rw [ea] at HR1
  rw [e2] at HT1
  rw [e2'] at HT2
  rw [hz1.1, hz1.2.1] at HF1
  rw [hz2.1, hz2.2.1] at HF2
  rw [hz3.1, hz3.2.1] at HF3
  rw [hz3.1] at HD3
  rw [eb] at HR3
  obtain ⟨q0, o0, rfl, -⟩ := hb 0 (by omega)
  have HP := hid (fun (w' : World) => run_part w' q0 o0 l.length c k (by omega) hlc)
  have HPB := hid (fun (w' : World) (hg : w.grownBy w' none) => (hb.grown hg).part (k := k) (by omega))
  have hw1 : IntKind.i64.wrap ((N : Int) - 1) = (N : Int) - 1 := IntWalk.i64_in _ (by omega)
  obtain ⟨S1, hS1⟩ : ∃ S : ByteArray, (⟨(List.replicate 64 f).toArray⟩ : ByteArray) = S := ⟨_, rfl⟩
  obtain ⟨S2, hS2⟩ : ∃ S : ByteArray, (⟨((l.drop (k * 64)).take 64).toArray⟩ : ByteArray) = S := ⟨_, rfl⟩
  have HV1 := hid (fun (w' : World) (q : Option Addr) (c : Nat) (h : BA w' q (List.replicate 64 f)) => (show (convert 22 9 (.slice q 64 c)).run Try.prog w' = .ok (.string S1) w' from by rw [← hS1]; exact conv64 h (by simp) c))
  have HV2 := hid (fun (w' : World) (q : Option Addr) (c : Nat) (h : BA w' q ((l.drop (k * 64)).take 64)) => (show (convert 22 9 (.slice q 64 c)).run Try.prog w' = .ok (.string S2) w' from by rw [← hS2]; exact conv64 h (by rw [List.length_take, List.length_drop]; omega) c))
  clear hb hl hn hlc hcode hs hln en e1 hh hz hI1 hs1 hh1 ea hz1 hI2 e2 hs2 hh2 hz2 hI3 e2' hs3 hz3 eb hS1 hS2
  go_enter Try.func7, Try.ntmps7
  go_wp2_with (first
      | (at_builtin; refine wpList_append_empty rfl (.tmp 20) (.tmp 21) rfl rfl _ l c rfl HB.out HL.out HN.out ?_; intro v w1 hv; obtain ⟨q, c', rfl, hq, -, hc', -⟩ := hv.ba; have HG1 := hid hv.2; have HQ := hid hq; have HC' := hid hc'; clear hv hq hc')
      | (go_at_call 8; refine (cNew _ _ _ _ HG1.out HC.out HQ.out HC'.out).mono ?_; rintro e w2 ⟨b, g, m, rfl, h2⟩; rw [hI0] at h2; have H2 := hid h2; clear h2)
      | (go_at_call 12; refine (lB f _).mono ?_; rintro e w3 ⟨r, cr, rfl, hbr, hg3⟩; have HB3 := hid hbr; have H3 := hid (H2.out.more hg3); clear hbr hg3)
      | (go_at_call 11; refine (HW.out _ _ _ _ H3.out r cr HB3.out).mono ?_; rintro e w4 ⟨rfl, h4, -⟩; have H4 := hid h4; clear h4)
      | (go_at_call 22; refine (HR1.out _ _ _ _ H4.out).mono ?_; rintro e w5 ⟨q5, c5, rfl, hb5, h5, -⟩; have HB5 := hid hb5; have H5 := hid h5; clear hb5 h5))
  have HB5d := hid (HB5.out.grown (grownBy_drew w5 none))
  have H5d := hid (H5.out.more (grownBy_drew w5 none))
  have k5 := HV1.out _ _ c5 HB5d.out
  refine wp_region_held_drew (S := (fun W => (convert 22 9 (.slice q5 64 c5)).run Try.prog W = .ok (.string S1) W)) (by kernel_rfl) k5 (fun hH => ?_)
  refine wpAnyH_take (i := 0) (v := ?v0) (by simp only [List.getElem?_toArray, List.getElem?_cons_zero, List.getElem?_cons_succ]; rfl) (by kernel_rfl) (by kernel_rfl) (by kernel_rfl) (by intro _ _ _ h; exact h) (Or.inl ⟨by rfl, ?y0⟩) (by assumption) ?r0
  case y0 =>
    intro W hSw
    try dsimp only at hSw
    go_simp
    try with_reducible rfl
  try dsimp only [Act.put]
  try simp only [List.setIfInBounds_toArray, List.set_cons_zero, List.set_cons_succ]
  refine wpAnyH_take (i := 1) (v := ?v1) (by simp only [List.getElem?_toArray, List.getElem?_cons_zero, List.getElem?_cons_succ]; rfl) (by kernel_rfl) (by kernel_rfl) (by kernel_rfl) (by intro _ _ _ h; exact h) (Or.inl ⟨by rfl, ?y1⟩) (by assumption) ?r1
  case y1 =>
    intro W hSw
    try dsimp only at hSw
    go_simp
    try with_reducible rfl
  try dsimp only [Act.put]
  try simp only [List.setIfInBounds_toArray, List.set_cons_zero, List.set_cons_succ]
  refine wpAnyH_take (i := 2) (v := ?v2) (by simp only [List.getElem?_toArray, List.getElem?_cons_zero, List.getElem?_cons_succ]; rfl) (by kernel_rfl) (by kernel_rfl) (by kernel_rfl) (by intro _ _ _ h; exact h) (Or.inl ⟨by rfl, ?y2⟩) (by assumption) ?r2
  case y2 =>
    intro W hSw
    try dsimp only at hSw
    go_simp
    try with_reducible rfl
  try dsimp only [Act.put]
  try simp only [List.setIfInBounds_toArray, List.set_cons_zero, List.set_cons_succ]
  refine wpAnyH_take (i := 3) (v := ?v3) (by simp only [List.getElem?_toArray, List.getElem?_cons_zero, List.getElem?_cons_succ]; rfl) (by kernel_rfl) (by kernel_rfl) (by kernel_rfl) (by intro _ _ _ h; exact h) (Or.inl ⟨by rfl, ?y3⟩) (by assumption) ?r3
  case y3 =>
    intro W hSw
    try dsimp only at hSw
    go_simp
    try with_reducible rfl
  try dsimp only [Act.put]
  try simp only [List.setIfInBounds_toArray, List.set_cons_zero, List.set_cons_succ]
  refine wpAnyH_take (i := 4) (v := ?v4) (by simp only [List.getElem?_toArray, List.getElem?_cons_zero, List.getElem?_cons_succ]; rfl) (by kernel_rfl) (by kernel_rfl) (by kernel_rfl) (by intro _ _ _ h; exact h) (Or.inl ⟨by rfl, ?y4⟩) (by assumption) ?r4
  case y4 =>
    intro W hSw
    try dsimp only at hSw
    go_simp
    try with_reducible rfl
  try dsimp only [Act.put]
  try simp only [List.setIfInBounds_toArray, List.set_cons_zero, List.set_cons_succ]
  refine wpAnyH_take (i := 5) (v := ?v5) (by simp only [List.getElem?_toArray, List.getElem?_cons_zero, List.getElem?_cons_succ]; rfl) (by kernel_rfl) (by kernel_rfl) (by kernel_rfl) (by intro _ _ _ h; exact h) (Or.inl ⟨by rfl, ?y5⟩) (by assumption) ?r5
  case y5 =>
    intro W hSw
    try dsimp only at hSw
    go_simp
    try with_reducible rfl
  try dsimp only [Act.put]
  try simp only [List.setIfInBounds_toArray, List.set_cons_zero, List.set_cons_succ]
  refine wpAnyH_take (i := 6) (v := ?v6) (by simp only [List.getElem?_toArray, List.getElem?_cons_zero, List.getElem?_cons_succ]; rfl) (by kernel_rfl) (by kernel_rfl) (by kernel_rfl) (by intro _ _ _ h; exact h) (Or.inl ⟨by rfl, ?y6⟩) (by assumption) ?r6
  case y6 =>
    intro W hSw
    try dsimp only at hSw
    go_simp
    try with_reducible rfl
  try dsimp only [Act.put]
  try simp only [List.setIfInBounds_toArray, List.set_cons_zero, List.set_cons_succ]
  refine wpAnyH_ready (rs := [7]) (by kernel_rfl) (by simp) ?_
  refine AllReadyH.cons (by simp only [List.getElem?_toArray, List.getElem?_cons_zero, List.getElem?_cons_succ]; rfl) (fun K0 hK0 => ?_) AllReadyH.nil
  go_simp
  refine (lB f _).mono ?_
  rintro e w6 ⟨r6, c6, rfl, hb6, g6⟩
  have H6 := hid (H5d.out.more g6)
  have B6 := hid (HB5d.out.grown g6)
  have k6 := HV1.out _ _ c5 B6.out
  have J6 := hid (HV1.out _ _ c6 hb6)
  clear hb6 g6
  refine hK0.out _ _ (by assumption) (fun hH => ?_)
  clear hK0 K0
  try dsimp only [Act.put]
  try simp only [List.setIfInBounds_toArray, List.set_cons_zero, List.set_cons_succ]
  refine wpAnyH_ready (rs := [8]) (by kernel_rfl) (by simp) ?_
  refine AllReadyH.cons (by simp only [List.getElem?_toArray, List.getElem?_cons_zero, List.getElem?_cons_succ]; rfl) (fun K0 hK0 => ?_) AllReadyH.nil
  have j6 := J6.out
  go_simp
  clear j6
  refine hK0.out _ _ (by assumption) (fun hH => ?_)
  clear hK0 K0
  try dsimp only [Act.put]
  try simp only [List.setIfInBounds_toArray, List.set_cons_zero, List.set_cons_succ]
  refine wpAnyH_take (i := 9) (v := ?v9) (by simp only [List.getElem?_toArray, List.getElem?_cons_zero, List.getElem?_cons_succ]; rfl) (by kernel_rfl) (by kernel_rfl) (by kernel_rfl) (by intro _ _ _ h; exact h) (Or.inl ⟨by rfl, ?y9⟩) (by assumption) ?r9
  case y9 =>
    intro W hSw
    try dsimp only at hSw
    go_simp
    try with_reducible rfl
  try dsimp only [Act.put]
  try simp only [List.setIfInBounds_toArray, List.set_cons_zero, List.set_cons_succ]
  refine wpAnyH_take (i := 10) (v := ?v10) (by simp only [List.getElem?_toArray, List.getElem?_cons_zero, List.getElem?_cons_succ]; rfl) (by kernel_rfl) (by kernel_rfl) (by kernel_rfl) (by intro _ _ _ h; exact h) (Or.inl ⟨by rfl, ?y10⟩) (by assumption) ?r10
  case y10 =>
    intro W hSw
    try dsimp only at hSw
    go_simp
    try with_reducible rfl
  try dsimp only [Act.put]
  try simp only [List.setIfInBounds_toArray, List.set_cons_zero, List.set_cons_succ]
  refine wpAnyH_take (i := 11) (v := ?v11) (by simp only [List.getElem?_toArray, List.getElem?_cons_zero, List.getElem?_cons_succ]; rfl) (by kernel_rfl) (by kernel_rfl) (by kernel_rfl) (by intro _ _ _ h; exact h) (Or.inl ⟨by rfl, ?y11⟩) (by assumption) ?r11
  case y11 =>
    intro W hSw
    try dsimp only at hSw
    go_simp
    try with_reducible rfl
  try dsimp only [Act.put]
  try simp only [List.setIfInBounds_toArray, List.set_cons_zero, List.set_cons_succ]
  refine wpAnyH_take (i := 12) (v := ?v12) (by simp only [List.getElem?_toArray, List.getElem?_cons_zero, List.getElem?_cons_succ]; rfl) (by kernel_rfl) (by kernel_rfl) (by kernel_rfl) (by intro _ _ _ h; exact h) (Or.inl ⟨by rfl, ?y12⟩) (by assumption) ?r12
  case y12 =>
    intro W hSw
    try dsimp only at hSw
    go_simp
    try with_reducible rfl
  try dsimp only [Act.put]
  try simp only [List.setIfInBounds_toArray, List.set_cons_zero, List.set_cons_succ]
  refine wpAnyH_take (i := 14) (v := ?v14) (by simp only [List.getElem?_toArray, List.getElem?_cons_zero, List.getElem?_cons_succ]; rfl) (by kernel_rfl) (by kernel_rfl) (by kernel_rfl) (by intro _ _ _ h; exact h) (Or.inl ⟨by rfl, ?y14⟩) (by assumption) ?r14
  case y14 =>
    intro W hSw
    try dsimp only at hSw
    go_simp
    try with_reducible rfl
  try dsimp only [Act.put]
  try simp only [List.setIfInBounds_toArray, List.set_cons_zero, List.set_cons_succ]
  refine wpAnyH_take (i := 15) (v := ?v15) (by simp only [List.getElem?_toArray, List.getElem?_cons_zero, List.getElem?_cons_succ]; rfl) (by kernel_rfl) (by kernel_rfl) (by kernel_rfl) (by intro _ _ _ h; exact h) (Or.inl ⟨by rfl, ?y15⟩) (by assumption) ?r15
  case y15 =>
    intro W hSw
    try dsimp only at hSw
    go_simp
    try with_reducible rfl
  try dsimp only [Act.put]
  try simp only [List.setIfInBounds_toArray, List.set_cons_zero, List.set_cons_succ]
  refine wpAnyH_ready (rs := [13]) (by kernel_rfl) (by simp) ?_
  refine AllReadyH.cons (by simp only [List.getElem?_toArray, List.getElem?_cons_zero, List.getElem?_cons_succ]; rfl) (fun K0 hK0 => ?_) AllReadyH.nil
  go_simp
  refine (HF1.out _ _ _ _ H6.out).mono ?_
  rintro e w7 ⟨rfl, h7, hc7⟩
  have H7 := hid h7
  have B7 := hid (H6.out.ba hc7 B6.out)
  have k7 := HV1.out _ _ c5 B7.out
  clear h7 hc7
  refine hK0.out _ _ (by assumption) (fun hH => ?_)
  clear hK0 K0
  try dsimp only [Act.put]
  try simp only [List.setIfInBounds_toArray, List.set_cons_zero, List.set_cons_succ]
  refine wpAnyH_take (i := 16) (v := ?v16) (by simp only [List.getElem?_toArray, List.getElem?_cons_zero, List.getElem?_cons_succ]; rfl) (by kernel_rfl) (by kernel_rfl) (by kernel_rfl) (by intro _ _ _ h; exact h) (Or.inl ⟨by rfl, ?y16⟩) (by assumption) ?r16
  case y16 =>
    intro W hSw
    try dsimp only at hSw
    go_simp
    try with_reducible rfl
  try dsimp only [Act.put]
  try simp only [List.setIfInBounds_toArray, List.set_cons_zero, List.set_cons_succ]
  refine wpAnyH_take (i := 17) (v := ?v17) (by simp only [List.getElem?_toArray, List.getElem?_cons_zero, List.getElem?_cons_succ]; rfl) (by kernel_rfl) (by kernel_rfl) (by kernel_rfl) (by intro _ _ _ h; exact h) (Or.inl ⟨by rfl, ?y17⟩) (by assumption) ?r17
  case y17 =>
    intro W hSw
    try dsimp only at hSw
    go_simp
    try with_reducible rfl
  try dsimp only [Act.put]
  try simp only [List.setIfInBounds_toArray, List.set_cons_zero, List.set_cons_succ]
  refine wpAnyH_take (i := 18) (v := ?v18) (by simp only [List.getElem?_toArray, List.getElem?_cons_zero, List.getElem?_cons_succ]; rfl) (by kernel_rfl) (by kernel_rfl) (by kernel_rfl) (by intro _ _ _ h; exact h) (Or.inl ⟨by rfl, ?y18⟩) (by assumption) ?r18
  case y18 =>
    intro W hSw
    try dsimp only at hSw
    go_simp
    try with_reducible rfl
  try dsimp only [Act.put]
  try simp only [List.setIfInBounds_toArray, List.set_cons_zero, List.set_cons_succ]
  refine wpAnyH_take (i := 19) (v := ?v19) (by simp only [List.getElem?_toArray, List.getElem?_cons_zero, List.getElem?_cons_succ]; rfl) (by kernel_rfl) (by kernel_rfl) (by kernel_rfl) (by intro _ _ _ h; exact h) (Or.inl ⟨by rfl, ?y19⟩) (by assumption) ?r19
  case y19 =>
    intro W hSw
    try dsimp only at hSw
    go_simp
    try with_reducible rfl
  try dsimp only [Act.put]
  try simp only [List.setIfInBounds_toArray, List.set_cons_zero, List.set_cons_succ]
  refine wpAnyH_take (i := 20) (v := ?v20) (by simp only [List.getElem?_toArray, List.getElem?_cons_zero, List.getElem?_cons_succ]; rfl) (by kernel_rfl) (by kernel_rfl) (by kernel_rfl) (by intro _ _ _ h; exact h) (Or.inl ⟨by rfl, ?y20⟩) (by assumption) ?r20
  case y20 =>
    intro W hSw
    try dsimp only at hSw
    go_simp
    try with_reducible rfl
  try dsimp only [Act.put]
  try simp only [List.setIfInBounds_toArray, List.set_cons_zero, List.set_cons_succ]
  refine wpAnyH_ready (rs := [21]) (by kernel_rfl) (by simp) ?_
  refine AllReadyH.cons (by simp only [List.getElem?_toArray, List.getElem?_cons_zero, List.getElem?_cons_succ]; rfl) (fun K0 hK0 => ?_) AllReadyH.nil
  go_simp
  refine (HT1.out _ _ _ _ H7.out).mono ?_
  rintro e w8 ⟨rfl, h8, hc8⟩
  have H8 := hid h8
  have B8 := hid (H7.out.ba hc8 B7.out)
  have k8 := HV1.out _ _ c5 B8.out
  clear h8 hc8
  refine hK0.out _ _ (by assumption) (fun hH => ?_)
  clear hK0 K0
  try dsimp only [Act.put]
  try simp only [List.setIfInBounds_toArray, List.set_cons_zero, List.set_cons_succ]
  refine wpAnyH_take (i := 22) (v := ?v22) (by simp only [List.getElem?_toArray, List.getElem?_cons_zero, List.getElem?_cons_succ]; rfl) (by kernel_rfl) (by kernel_rfl) (by kernel_rfl) (by intro _ _ _ h; exact h) (Or.inl ⟨by rfl, ?y22⟩) (by assumption) ?r22
  case y22 =>
    intro W hSw
    try dsimp only at hSw
    go_simp
    try with_reducible rfl
  try dsimp only [Act.put]
  try simp only [List.setIfInBounds_toArray, List.set_cons_zero, List.set_cons_succ]
  refine wpAnyH_take (i := 23) (v := ?v23) (by simp only [List.getElem?_toArray, List.getElem?_cons_zero, List.getElem?_cons_succ]; rfl) (by kernel_rfl) (by kernel_rfl) (by kernel_rfl) (by intro _ _ _ h; exact h) (Or.inl ⟨by rfl, ?y23⟩) (by assumption) ?r23
  case y23 =>
    intro W hSw
    try dsimp only at hSw
    go_simp
    try with_reducible rfl
  try dsimp only [Act.put]
  try simp only [List.setIfInBounds_toArray, List.set_cons_zero, List.set_cons_succ]
  refine wpAnyH_take (i := 24) (v := ?v24) (by simp only [List.getElem?_toArray, List.getElem?_cons_zero, List.getElem?_cons_succ]; rfl) (by kernel_rfl) (by kernel_rfl) (by kernel_rfl) (by intro _ _ _ h; exact h) (Or.inl ⟨by rfl, ?y24⟩) (by assumption) ?r24
  case y24 =>
    intro W hSw
    try dsimp only at hSw
    go_simp
    try with_reducible rfl
  try dsimp only [Act.put]
  try simp only [List.setIfInBounds_toArray, List.set_cons_zero, List.set_cons_succ]
  refine wpAnyH_take (i := 25) (v := ?v25) (by simp only [List.getElem?_toArray, List.getElem?_cons_zero, List.getElem?_cons_succ]; rfl) (by kernel_rfl) (by kernel_rfl) (by kernel_rfl) (by intro _ _ _ h; exact h) (Or.inl ⟨by rfl, ?y25⟩) (by assumption) ?r25
  case y25 =>
    intro W hSw
    try dsimp only at hSw
    go_simp
    try with_reducible rfl
  try dsimp only [Act.put]
  try simp only [List.setIfInBounds_toArray, List.set_cons_zero, List.set_cons_succ]
  refine wpAnyH_take (i := 27) (v := ?v27) (by simp only [List.getElem?_toArray, List.getElem?_cons_zero, List.getElem?_cons_succ]; rfl) (by kernel_rfl) (by kernel_rfl) (by kernel_rfl) (by intro _ _ _ h; exact h) (Or.inl ⟨by rfl, ?y27⟩) (by assumption) ?r27
  case y27 =>
    intro W hSw
    try dsimp only at hSw
    go_simp
    try with_reducible rfl
  try dsimp only [Act.put]
  try simp only [List.setIfInBounds_toArray, List.set_cons_zero, List.set_cons_succ]
  refine wpAnyH_ready (rs := [26]) (by kernel_rfl) (by simp) ?_
  refine AllReadyH.cons (by simp only [List.getElem?_toArray, List.getElem?_cons_zero, List.getElem?_cons_succ]; rfl) (fun K0 hK0 => ?_) AllReadyH.nil
  go_simp
  refine (HF2.out _ _ _ _ H8.out).mono ?_
  rintro e w9 ⟨rfl, h9, hc9⟩
  have H9 := hid h9
  have B9 := hid (H8.out.ba hc9 B8.out)
  have k9 := HV1.out _ _ c5 B9.out
  clear h9 hc9
  refine hK0.out _ _ (by assumption) (fun hH => ?_)
  clear hK0 K0
  try dsimp only [Act.put]
  try simp only [List.setIfInBounds_toArray, List.set_cons_zero, List.set_cons_succ]
  refine wpAnyH_take (i := 28) (v := ?v28) (by simp only [List.getElem?_toArray, List.getElem?_cons_zero, List.getElem?_cons_succ]; rfl) (by kernel_rfl) (by kernel_rfl) (by kernel_rfl) (by intro _ _ _ h; exact h) (Or.inl ⟨by rfl, ?y28⟩) (by assumption) ?r28
  case y28 =>
    intro W hSw
    try dsimp only at hSw
    go_simp
    try with_reducible rfl
  try dsimp only [Act.put]
  try simp only [List.setIfInBounds_toArray, List.set_cons_zero, List.set_cons_succ]
  refine wpAnyH_take (i := 29) (v := ?v29) (by simp only [List.getElem?_toArray, List.getElem?_cons_zero, List.getElem?_cons_succ]; rfl) (by kernel_rfl) (by kernel_rfl) (by kernel_rfl) (by intro _ _ _ h; exact h) (Or.inl ⟨by rfl, ?y29⟩) (by assumption) ?r29
  case y29 =>
    intro W hSw
    try dsimp only at hSw
    go_simp
    try with_reducible rfl
  try dsimp only [Act.put]
  try simp only [List.setIfInBounds_toArray, List.set_cons_zero, List.set_cons_succ]
  refine wpAnyH_take (i := 30) (v := ?v30) (by simp only [List.getElem?_toArray, List.getElem?_cons_zero, List.getElem?_cons_succ]; rfl) (by kernel_rfl) (by kernel_rfl) (by kernel_rfl) (by intro _ _ _ h; exact h) (Or.inl ⟨by rfl, ?y30⟩) (by assumption) ?r30
  case y30 =>
    intro W hSw
    try dsimp only at hSw
    go_simp
    try with_reducible rfl
  try dsimp only [Act.put]
  try simp only [List.setIfInBounds_toArray, List.set_cons_zero, List.set_cons_succ]
  refine wpAnyH_take (i := 31) (v := ?v31) (by simp only [List.getElem?_toArray, List.getElem?_cons_zero, List.getElem?_cons_succ]; rfl) (by kernel_rfl) (by kernel_rfl) (by kernel_rfl) (by intro _ _ _ h; exact h) (Or.inl ⟨by rfl, ?y31⟩) (by assumption) ?r31
  case y31 =>
    intro W hSw
    try dsimp only at hSw
    go_simp
    try with_reducible rfl
  try dsimp only [Act.put]
  try simp only [List.setIfInBounds_toArray, List.set_cons_zero, List.set_cons_succ]
  refine wpAnyH_take (i := 32) (v := ?v32) (by simp only [List.getElem?_toArray, List.getElem?_cons_zero, List.getElem?_cons_succ]; rfl) (by kernel_rfl) (by kernel_rfl) (by kernel_rfl) (by intro _ _ _ h; exact h) (Or.inl ⟨by rfl, ?y32⟩) (by assumption) ?r32
  case y32 =>
    intro W hSw
    try dsimp only at hSw
    go_simp
    try with_reducible rfl
  try dsimp only [Act.put]
  try simp only [List.setIfInBounds_toArray, List.set_cons_zero, List.set_cons_succ]
  refine wpAnyH_ready (rs := [33]) (by kernel_rfl) (by simp) ?_
  refine AllReadyH.cons (by simp only [List.getElem?_toArray, List.getElem?_cons_zero, List.getElem?_cons_succ]; rfl) (fun K0 hK0 => ?_) AllReadyH.nil
  go_simp
  refine (HT2.out _ _ _ _ H9.out).mono ?_
  rintro e w10 ⟨rfl, h10, hc10⟩
  have H10 := hid h10
  have B10 := hid (H9.out.ba hc10 B9.out)
  have k10 := HV1.out _ _ c5 B10.out
  clear h10 hc10
  refine hK0.out _ _ (by assumption) (fun hH => ?_)
  clear hK0 K0
  try dsimp only [Act.put]
  try simp only [List.setIfInBounds_toArray, List.set_cons_zero, List.set_cons_succ]
  refine wpAnyH_take (i := 34) (v := ?v34) (by simp only [List.getElem?_toArray, List.getElem?_cons_zero, List.getElem?_cons_succ]; rfl) (by kernel_rfl) (by kernel_rfl) (by kernel_rfl) (by intro _ _ _ h; exact h) (Or.inl ⟨by rfl, ?y34⟩) (by assumption) ?r34
  case y34 =>
    intro W hSw
    try dsimp only at hSw
    go_simp
    try with_reducible rfl
  try dsimp only [Act.put]
  try simp only [List.setIfInBounds_toArray, List.set_cons_zero, List.set_cons_succ]
  refine wpAnyH_take (i := 35) (v := ?v35) (by simp only [List.getElem?_toArray, List.getElem?_cons_zero, List.getElem?_cons_succ]; rfl) (by kernel_rfl) (by kernel_rfl) (by kernel_rfl) (by intro _ _ _ h; exact h) (Or.inl ⟨by rfl, ?y35⟩) (by assumption) ?r35
  case y35 =>
    intro W hSw
    try dsimp only at hSw
    go_simp
    try with_reducible rfl
  try dsimp only [Act.put]
  try simp only [List.setIfInBounds_toArray, List.set_cons_zero, List.set_cons_succ]
  refine wpAnyH_take (i := 36) (v := ?v36) (by simp only [List.getElem?_toArray, List.getElem?_cons_zero, List.getElem?_cons_succ]; rfl) (by kernel_rfl) (by kernel_rfl) (by kernel_rfl) (by intro _ _ _ h; exact h) (Or.inl ⟨by rfl, ?y36⟩) (by assumption) ?r36
  case y36 =>
    intro W hSw
    try dsimp only at hSw
    go_simp
    try with_reducible rfl
  try dsimp only [Act.put]
  try simp only [List.setIfInBounds_toArray, List.set_cons_zero, List.set_cons_succ]
  refine wpAnyH_take (i := 37) (v := ?v37) (by simp only [List.getElem?_toArray, List.getElem?_cons_zero, List.getElem?_cons_succ]; rfl) (by kernel_rfl) (by kernel_rfl) (by kernel_rfl) (by intro _ _ _ h; exact h) (Or.inl ⟨by rfl, ?y37⟩) (by assumption) ?r37
  case y37 =>
    intro W hSw
    try dsimp only at hSw
    go_simp
    try with_reducible rfl
  try dsimp only [Act.put]
  try simp only [List.setIfInBounds_toArray, List.set_cons_zero, List.set_cons_succ]
  refine wpAnyH_take (i := 39) (v := ?v39) (by simp only [List.getElem?_toArray, List.getElem?_cons_zero, List.getElem?_cons_succ]; rfl) (by kernel_rfl) (by kernel_rfl) (by kernel_rfl) (by intro _ _ _ h; exact h) (Or.inl ⟨by rfl, ?y39⟩) (by assumption) ?r39
  case y39 =>
    intro W hSw
    try dsimp only at hSw
    go_simp
    try with_reducible rfl
  try dsimp only [Act.put]
  try simp only [List.setIfInBounds_toArray, List.set_cons_zero, List.set_cons_succ]
  refine wpAnyH_ready (rs := [38]) (by kernel_rfl) (by simp) ?_
  refine AllReadyH.cons (by simp only [List.getElem?_toArray, List.getElem?_cons_zero, List.getElem?_cons_succ]; rfl) (fun K0 hK0 => ?_) AllReadyH.nil
  go_simp
  refine (HF3.out _ _ _ _ H10.out).mono ?_
  rintro e w11 ⟨rfl, h11, hc11⟩
  have H11 := hid h11
  have B11 := hid (H10.out.ba hc11 B10.out)
  have k11 := HV1.out _ _ c5 B11.out
  clear h11 hc11
  refine hK0.out _ _ (by assumption) (fun hH => ?_)
  clear hK0 K0
  try dsimp only [Act.put]
  try simp only [List.setIfInBounds_toArray, List.set_cons_zero, List.set_cons_succ]
  refine wpAnyH_take (i := 40) (v := ?v40) (by simp only [List.getElem?_toArray, List.getElem?_cons_zero, List.getElem?_cons_succ]; rfl) (by kernel_rfl) (by kernel_rfl) (by kernel_rfl) (by intro _ _ _ h; exact h) (Or.inl ⟨by rfl, ?y40⟩) (by assumption) ?r40
  case y40 =>
    intro W hSw
    try dsimp only at hSw
    go_simp
    try with_reducible rfl
  try dsimp only [Act.put]
  try simp only [List.setIfInBounds_toArray, List.set_cons_zero, List.set_cons_succ]
  refine wpAnyH_take (i := 41) (v := ?v41) (by simp only [List.getElem?_toArray, List.getElem?_cons_zero, List.getElem?_cons_succ]; rfl) (by kernel_rfl) (by kernel_rfl) (by kernel_rfl) (by intro _ _ _ h; exact h) (Or.inl ⟨by rfl, ?y41⟩) (by assumption) ?r41
  case y41 =>
    intro W hSw
    try dsimp only at hSw
    go_simp
    try with_reducible rfl
  try dsimp only [Act.put]
  try simp only [List.setIfInBounds_toArray, List.set_cons_zero, List.set_cons_succ]
  refine wpAnyH_done (by kernel_rfl) ?_ _
  go_wp2_with (go_at_call 22; refine (HR3.out _ _ _ _ H11.out).mono ?_; rintro e w12 ⟨q12, c12, rfl, hb12, h12, -⟩; have HB12 := hid hb12; have H12 := hid h12; clear hb12 h12)
  have k12 := HV2.out _ _ c12 (HB12.out.grown (grownBy_drew w12 none))
  have H12d := hid (H12.out.more (grownBy_drew w12 none))
  have kp := HP.out
  have kb := HV2.out _ _ (c - k * 64) (HPB.out _ H12d.out.g)
  have i1 : IntKind.i64.wrap ((k : Int) * 64) = (k : Int) * 64 := IntWalk.i64_in _ (by omega)
  have i2 : IntKind.i64.wrap ((k : Int) + 1) = (k : Int) + 1 := IntWalk.i64_in _ (by omega)
  have i3 : IntKind.i64.wrap (((k : Int) + 1) * 64) = ((k : Int) + 1) * 64 := IntWalk.i64_in _ (by omega)
  go_region_held3 (fun W => (convert 22 9 (.slice q12 64 c12)).run Try.prog W = .ok (.string S2) W ∧ (convert 22 9 (.slice (some ⟨q0, o0 + k * 64, none⟩) 64 (c - k * 64))).run Try.prog W = .ok (.string S2) W) (first | exact ⟨by assumption, by assumption⟩ | go_keep)
    (first
      | (go_at_call 17; refine (HD3.out _ _ _ _ H12d.out).mono ?_; rintro e w13 ⟨q13, c13, rfl, hn13, h13, hc13⟩; have H13 := hid h13; have l12 := HV2.out _ _ c12 (H12d.out.ba hc13 (HB12.out.grown (grownBy_drew w12 none))); have lp := HV2.out _ _ (c - k * 64) (HPB.out _ h13.g); clear hn13 h13 hc13))
  all_goals go_wp2
  all_goals
    go_ret
    exact ⟨rfl, H13.out.g⟩
theorem u8_of {n : Int} (h : (Lit.int .u8 n).wf = true) : ∃ x : UInt8, n = (x.toNat : Int) := by
  have hb := bounds_u8 h
  have hx : (UInt8.ofNat n.toNat).toNat = n.toNat := UInt8.toNat_ofNat_of_lt' (show n.toNat < 256 by omega)
  exact ⟨UInt8.ofNat n.toNat, by rw [hx, Int.toNat_of_nonneg hb.1]⟩
theorem main {H : Type} {enc : TypeId × Value → H} (v0 v1 v2 v3 : Value) (W : World) (c0 : Flat.Came enc Try.prog W 0 (fun _ => true) true 22 v0) (c1 : Flat.Came enc Try.prog W 0 (fun _ => true) true 5 v1) (c2 : Flat.Came enc Try.prog W 0 (fun _ => true) true 3 v2) (c3 : Flat.Came enc Try.prog W 0 (fun _ => true) true 5 v3) :
    Calls Try.prog 7 #[v0, v1, v2, v3] W fun e w' => e = .returned (.bool true) ∧ W.grownBy w' none := by
  obtain ⟨p, l, c, rfl, hb, hl, hn, hlc⟩ := came_bytes c0
  obtain ⟨xn, rfl, hx⟩ := c1.int Try.underlying5
  obtain ⟨s, rfl, _⟩ := c2.int Try.underlying3
  obtain ⟨fn, rfl, hf⟩ := c3.int Try.underlying5
  obtain ⟨x, rfl⟩ := u8_of hx
  obtain ⟨f, rfl⟩ := u8_of hf
  obtain ⟨N, hN⟩ : ∃ N : Nat, (x.toNat : Int) % 9 = N := ⟨x.toNat % 9, by omega⟩
  by_cases hcode : newC l.length N = 0
  · cases hs : (newI l N).is s with
    | false => exact walk_out p l c x f s W hb hl hn N hN hcode hs
    | true =>
      by_cases hN0 : N = 0
      · exact walk_full p l c x f s W hb hl hn hlc N hN hcode hs hN0
      · exact walk_in p l c x f s W hb hl hn hlc N hN hcode hs (by omega)
  · exact walk_no p l c x f s W hb hl hn N hN hcode

theorem own : ownKnob Try.prog.godebug = none := by kernel_rfl
theorem laidOut : laidOutB Try.prog = true := by kernel_rfl

set_option maxRecDepth 100000 in
theorem lifted (os : Os) (started : os.Started) (H : Type) (enc : TypeId × Value → H) :
    ReturnsInHanded {} Try.checked os 7 .any (Rows.imageTrimsSpec.pre6 enc Try.prog Try.f7 Rows.imageTrimsRow.domain false) (Rows.imageTrimsSpec.post enc Try.prog Try.f7 false true false false) := by
  refine returnsInHanded_of_change_sized (C := Try.checked) own started (by kernel_rfl) Try.func7
    (ChangeSpec.witness6 (enc := enc) (C := Try.checked) false ⟨#[], #[.slice none 0 0, .int .u8 0, .int .i64 0, .int .u8 0], []⟩ 8 (by kernel_rfl) (by kernel_rfl) (by kernel_rfl) (by kernel_rfl)) ?_
  intro W base args ds gs before hval0 hW _ hsz0 _
  have hsz : (DataW.weightsEach Try.prog (Try.f7.params.toList ++ Rows.imageTrimsSpec.plain.varTypes Try.prog) (ds ++ gs)).all (· ≤ reachBytes) = true := hsz0
  clear hsz0
  have hval : ∀ (j : Nat) t v, Try.f7.params[j]? = some t → args[j]? = some v → Value.okWide Try.prog W .any base t v := hval0
  have hW' := hW
  obtain ⟨p, q, hA0, hV, rfl, hfz, hnd⟩ := hW
  have hA : DataW.TrodAll enc Try.prog W 0 (fun _ => true) true Try.f7.params.toList args.toList ds p := hA0
  rw [Try.params7] at hA hval hsz
  obtain ⟨v0, vs0, d0, ds0, p0, q0, hargs, rfl, rfl, h0, r0⟩ := trodAll_cons hA
  obtain ⟨v1, vs1, d1, ds1, p1, q1, rfl, rfl, rfl, h1, r1⟩ := trodAll_cons r0
  obtain ⟨v2, vs2, d2, ds2, p2, q2, rfl, rfl, rfl, h2, r2⟩ := trodAll_cons r1
  obtain ⟨v3, vs3, d3, ds3, p3, q3, rfl, rfl, rfl, h3, r3⟩ := trodAll_cons r2
  obtain ⟨rfl, rfl, rfl⟩ := trodAll_nil r3
  obtain rfl : args = #[v0, v1, v2, v3] := by cases args; simp_all
  obtain ⟨rfl, rfl⟩ := trodVars_none hV
  obtain ⟨ps0, ln0, cp0, rfl⟩ := okWide_slice Try.underlying22 (hval 0 22 v0 rfl rfl)
  have k0 := h0
  have lt0 : ∀ x ∈ p0, x.block < W.heap.size := by obtain ⟨m, hm⟩ := k0; exact DataW.trod_lt m _ _ _ hm
  have c0 : Flat.Came enc Try.prog W 0 (fun _ => true) true 22 (.slice ps0 ln0 cp0) := by
    obtain ⟨fuel, hf⟩ := h0
    exact ⟨fuel, _, hf, fun n hn => by
      have := List.all_eq_true.1 hsz n (DataW.weights_mem_each (j := 0) rfl rfl n hn)
      simpa using this⟩
  obtain ⟨a1, rfl, rfl, rfl, w1⟩ := open_int Try.underlying5 (hval 1 5 v1 rfl rfl) h1
  have k1 := h1
  have lt1 : ∀ x ∈ ([] : List MemPlace), x.block < W.heap.size := by obtain ⟨m, hm⟩ := k1; exact DataW.trod_lt m _ _ _ hm
  have c1 : Flat.Came enc Try.prog W 0 (fun _ => true) true 5 (.int .u8 a1) := by
    obtain ⟨fuel, hf⟩ := h1
    exact ⟨fuel, _, hf, fun n hn => by
      have := List.all_eq_true.1 hsz n (DataW.weights_mem_each (j := 1) rfl rfl n hn)
      simpa using this⟩
  obtain ⟨a2, rfl, rfl, rfl, w2⟩ := open_int Try.underlying3 (hval 2 3 v2 rfl rfl) h2
  have k2 := h2
  have lt2 : ∀ x ∈ ([] : List MemPlace), x.block < W.heap.size := by obtain ⟨m, hm⟩ := k2; exact DataW.trod_lt m _ _ _ hm
  have c2 : Flat.Came enc Try.prog W 0 (fun _ => true) true 3 (.int .i64 a2) := by
    obtain ⟨fuel, hf⟩ := h2
    exact ⟨fuel, _, hf, fun n hn => by
      have := List.all_eq_true.1 hsz n (DataW.weights_mem_each (j := 2) rfl rfl n hn)
      simpa using this⟩
  obtain ⟨a3, rfl, rfl, rfl, w3⟩ := open_int Try.underlying5 (hval 3 5 v3 rfl rfl) h3
  have k3 := h3
  have lt3 : ∀ x ∈ ([] : List MemPlace), x.block < W.heap.size := by obtain ⟨m, hm⟩ := k3; exact DataW.trod_lt m _ _ _ hm
  have c3 : Flat.Came enc Try.prog W 0 (fun _ => true) true 5 (.int .u8 a3) := by
    obtain ⟨fuel, hf⟩ := h3
    exact ⟨fuel, _, hf, fun n hn => by
      have := List.all_eq_true.1 hsz n (DataW.weights_mem_each (j := 3) rfl rfl n hn)
      simpa using this⟩
  clear hA0 hval0
  refine (main (.slice ps0 ln0 cp0) (.int .u8 a1) (.int .i64 a2) (.int .u8 a3) W c0 c1 c2 c3).mono fun e W' ⟨he, hg⟩ => ?_
  subst he
  have bel := below_grown' hg
  simp only [List.append_nil, List.nil_append] at hW'
  exact ⟨_, rfl, _, _, _, [], _, [], hW', trodAll_mk1 (shut_bool Try.underlying4 _), (trodAll_cons_mk (Below.trod laidOut (by kernel_rfl) (of_decide_eq_true (by kernel_rfl)) k0 bel lt0) (trodAll_cons_mk (Below.trod laidOut (by kernel_rfl) (of_decide_eq_true (by kernel_rfl)) k1 bel lt1) (trodAll_cons_mk (Below.trod laidOut (by kernel_rfl) (of_decide_eq_true (by kernel_rfl)) k2 bel lt2) (trodAll_cons_mk (Below.trod laidOut (by kernel_rfl) (of_decide_eq_true (by kernel_rfl)) k3 bel lt3) trodAll_mk0)))), rfl, bel.frame _, fun h => by cases h⟩

theorem proved : Rows.ImageTrimsSaid :=
  OpenClaim.holds_of_wide 7 Try.f7 rfl rfl rfl rfl rfl rfl rfl ⟨rfl, rfl, rfl, rfl, rfl⟩ rfl rfl rfl rfl rfl (by kernel_rfl) Try.func7 (by kernel_rfl)
    (of_decide_eq_true (by kernel_rfl)) (by unfold Func.isWrapper; first | (rw [if_pos (by decide +kernel)]; kernel_rfl) | (rw [if_neg (by decide +kernel)]; exact ⟨rfl, rfl⟩))
    (fun os started H enc _ => lifted os started H enc)
#print axioms proved
end Go.Proofs.Ytcogchalfdeagaa.lawImTrims
