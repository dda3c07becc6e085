/-
  ImageNeeds: for every number of sectors and blocks, every script and every part of the disk the law returns true, and what was there stays. No condition.
-/
import Derived.Test.YtcogchalfdeagaaImY
import Derived.Test.YtcogchalfdeagaaImQ
import Derived.Deep.RegionHeld3
set_option linter.unusedSimpArgs false
set_option linter.unusedVariables false
namespace Go.Proofs.Ytcogchalfdeagaa.lawImNeeds
open Go.ChangeShapes Go.WideShapes Go.ChangeAt Go.RowKit Gen
set_option maxHeartbeats 2000000

theorem new_of (S N : Nat) (hS : S ≤ 11) (hN : N ≤ 13) : newC ((1 + S) * 64) (N : Int) = 0 := by
  unfold newC
  rw [if_neg (by omega), if_pos ⟨by omega, by omega, by omega⟩]
theorem make_s (w : World) (S : Nat) (hS : S ≤ 11) : ∃ w', (Instr.makeSlice 22 (.int .i64 ((1 + (S : Int)) * 64)) (.int .i64 ((1 + (S : Int)) * 64))).run Try.prog w = .ok (.slice (some ⟨w.heap.size, 0, none⟩) ((1 + S) * 64) ((1 + S) * 64)) w' ∧
    BA w' (some ⟨w.heap.size, 0, none⟩) (List.replicate ((1 + S) * 64) 0) ∧ w.grownBy w' none := by
  obtain ⟨w', h1, h2, h3⟩ := make_z w ((1 + S) * 64) (by omega)
  have e : ((((1 + S) * 64 : Nat)) : Int) = (1 + (S : Int)) * 64 := by omega
  rw [e] at h1
  refine ⟨w', h1, ?_, h3⟩
  have hnb : NewB w (List.replicate ((1 + S) * 64) 0) (.slice (some ⟨w.heap.size, 0, none⟩) ((1 + S) * 64) ((1 + S) * 64)) w' := ⟨by simpa using h2, h3⟩
  obtain ⟨p, c, e, hba, _⟩ := hnb.ba
  simp only [Value.slice.injEq] at e
  obtain ⟨rfl, -, -⟩ := e
  exact hba
theorem trim_n (I : Im) (s : Int) : (I.trimE s).1.n = I.n := by unfold Im.trimE; split <;> rfl
theorem write_n (I : Im) (s : Int) (b : List UInt8) : (I.writeE s b).1.n = I.n := by rcases I.write_cases s b with ⟨_, e⟩ | ⟨_, _, e⟩ | ⟨_, _, _, _, e⟩ | ⟨_, _, _, e⟩ | ⟨_, _, _, _, e⟩ <;> rw [e] <;> rfl
theorem make_64 (w : World) : ∃ w', (Instr.makeSlice 22 (.int .i64 64) (.int .i64 64)).run Try.prog w = .ok (.slice (some ⟨w.heap.size, 0, none⟩) 64 64) w' ∧ BA w' (some ⟨w.heap.size, 0, none⟩) zs64 ∧ w.grownBy w' none := by
  obtain ⟨w', h1, h2, h3⟩ := make_z w 64 (by omega)
  refine ⟨w', h1, ?_, h3⟩
  unfold zs64
  have hnb : NewB w (List.replicate 64 0) (.slice (some ⟨w.heap.size, 0, none⟩) 64 64) w' := ⟨by simpa using h2, h3⟩
  obtain ⟨p, c, e, hba, _⟩ := hnb.ba
  simp only [Value.slice.injEq] at e
  obtain ⟨rfl, -, -⟩ := e
  exact hba
set_option maxRecDepth 100000 in
theorem walk (x y f z : UInt8) (pa : Option Addr) (ops : List OpV) (cap : Nat) (w : World) (ho : OpsIn w pa ops) (hol : ops.length ≤ maxLen) (S N A K : Nat) (hS : (x.toNat : Int) % 12 = S) (hN : (y.toNat : Int) % 14 = N) (hA : (f.toNat : Int) % (1 + S) = A) (hK : (z.toNat : Int) % (1 + S - A + 1) = K) :
    Calls Try.prog 5 #[.int .u8 x.toNat, .int .u8 y.toNat, .slice pa ops.length cap, .int .u8 f.toNat, .int .u8 z.toNat] w fun e w' => e = .returned (.bool true) ∧ w.grownBy w' none := by
  have hS11 : S ≤ 11 := by omega
  have hN13 : N ≤ 13 := by omega
  have hAS : A ≤ S := by have := Int.emod_lt_of_pos (f.toNat : Int) (show (0 : Int) < 1 + S by omega); omega
  have hKS : K + A ≤ 1 + S := by have := Int.emod_lt_of_pos (z.toNat : Int) (show (0 : Int) < 1 + S - A + 1 by omega); omega
  obtain ⟨W1, hmk, hb1, hg1⟩ := make_s w S hS11
  have HN := hid (cNew (some ⟨w.heap.size, 0, none⟩) (List.replicate ((1 + S) * 64) 0) ((1 + S) * 64) (N : Int) hg1 (by rw [List.length_replicate]; exact new_of S N hS11 hN13) hb1 (by simp))
  rw [List.length_replicate] at HN
  have HO := hid ho
  have HL := hid hol
  have hin : (newI (List.replicate ((1 + S) * 64) 0) (N : Int)).n = 1 + S := by simp [newI]
  have HIN := hid hin
  clear hb1 hg1 ho hol hin
  go_enter Try.func5, Try.ntmps5
  go_wp2_with (go_at_call 8; refine HN.out.mono ?_; rintro e w2 ⟨b, g, m, rfl, h2⟩; have H2 := hid h2; clear h2)
  have HAq := hid hA
  have HKq := hid hK
  clear hS hN hA hK hmk HN
  go_loopw [14] (fun i wr => ∃ (k : Nat) (I : Im), i = .int .i64 k ∧ k ≤ ops.length ∧ IW w wr b g m I ∧ I.n = 1 + S) (fun i _ => ops.length - (intOf i).toNat)
  case atStart => exact ⟨0, _, rfl, by omega, H2.out, HIN.out⟩
  case round =>
    clear H2
    obtain ⟨k, I, rfl, hk, hi, hIn⟩ := hrel
    have H := hid hi
    have HIn := hid hIn
    clear hi hIn
    have hk0 : (0 : Int) ≤ k := by omega
    by_cases hlt : k < ops.length
    · have hlt' : (k : Int) < ops.length := by omega
      have hm := HL.out
      unfold maxLen at hm
      obtain ⟨pb, off, rfl, o0, o1, o2, o3, o4, hfit⟩ := HO.out k hlt
      obtain ⟨o, hoq⟩ : ∃ o, ops[k] = o := ⟨_, rfl⟩
      rw [hoq] at o0 o1 o2 o3 o4 hfit
      obtain ⟨what, a, bb, fl, lp, ll, lc⟩ := o
      simp only at o0 o1 o2 o3 o4
      have c0 := H.out.g.cell o0 (by simp)
      have c1 := H.out.g.cell o1 (by simp)
      have c2 := H.out.g.cell o2 (by simp)
      have c3 := H.out.g.cell o3 (by simp)
      have c4 := H.out.g.cell o4 (by simp)
      have O0 := hid o0; have O1 := hid o1; have O2 := hid o2; have O3 := hid o3; have O4 := hid o4
      have HFit := hid hfit
      clear hoq o0 o1 o2 o3 o4 hfit
      by_cases hw : what = 2
      · subst hw
        go_wp2_with (go_at_call 20; refine (cTrim H.out a).mono ?_; rintro e w3 ⟨rfl, h3, -⟩; have H3 := hid h3; clear h3)
        go_roundw
        case rel => exact ⟨k + 1, _, by go_num, hlt, H3.out, by rw [trim_n]; exact HIn.out⟩
        case measure => simp [intOf]; omega
      · have hw' : (what == 2) = false := by simpa using hw
        have HB := hid (fun (w' : World) (hg : w.grownBy w' none) => lBytes ⟨what, a, bb, fl, lp, ll, lc⟩ w' (HFit.out.grown hg))
        have HLen := hid (OpV.out_len HFit.out.len)
        go_wp2_with fail
        have Hd := hid (H.out.more (grownBy_drew wr none))
        go_region_held3 (fun W => W.cell? ⟨pb, off + k * 5, none⟩ = some (.int .i64 what) ∧ W.cell? ⟨pb, off + k * 5 + 1, none⟩ = some (.int .i64 a) ∧ W.cell? ⟨pb, off + k * 5 + 2, none⟩ = some (.int .i64 bb) ∧ W.cell? ⟨pb, off + k * 5 + 3, none⟩ = some (.int .u8 fl.toNat) ∧ W.cell? ⟨pb, off + k * 5 + 4, none⟩ = some (.slice lp ll.length lc)) (first | exact ⟨by assumption, by assumption, by assumption, by assumption, by assumption⟩ | go_keep)
          (first
            | (go_at_call 12; refine (HB.out _ Hd.out.g).mono ?_; rintro e w3 ⟨v, rfl, hv⟩; obtain ⟨q3, c3', rfl, hb3, -⟩ := hv.ba; have H3 := hid (Hd.out.more hv.2); have HB3 := hid hb3; have d0 := H3.out.g.cell O0.out (by simp); have d1 := H3.out.g.cell O1.out (by simp); have d2 := H3.out.g.cell O2.out (by simp); have d3 := H3.out.g.cell O3.out (by simp); have d4 := H3.out.g.cell O4.out (by simp); clear hv hb3)
            | (go_at_call 11; refine (cWrite H3.out a q3 _ c3' HLen.out HB3.out).mono ?_; rintro e w4 ⟨rfl, h4, -⟩; have H4 := hid h4; have e0 := H4.out.g.cell O0.out (by simp); have e1 := H4.out.g.cell O1.out (by simp); have e2 := H4.out.g.cell O2.out (by simp); have e3 := H4.out.g.cell O3.out (by simp); have e4 := H4.out.g.cell O4.out (by simp); clear h4))
        all_goals go_wp2
        all_goals
          go_roundw
          case rel => exact ⟨k + 1, _, by go_num, hlt, H4.out, by rw [write_n]; exact HIn.out⟩
          case measure => simp [intOf]; omega
    · obtain rfl : k = ops.length := by omega
      have hge : (ops.length : Int) ≤ ops.length := by omega
      have hA := HAq.out
      have hK := HKq.out
      have hfit : I.fit A K = true := by unfold Im.fit; rw [HIn.out]; simp; omega
      have HNe := hid (cNeed H.out (A : Int) (K : Int) (I64.of (by omega) (by omega)) (I64.of (by omega) (by omega)))
      rw [Im.needE_fit hfit] at HNe
      have hle := Im.lack_le I A K
      have HF := hid (fun (w' : World) (h : IW w w' b g m I) => cFree h)
      obtain ⟨L, hL⟩ : ∃ L, I.lack A K = L := ⟨_, rfl⟩
      obtain ⟨F, hF⟩ : ∃ F : Nat, I.most - I.used = F := ⟨_, rfl⟩
      have hFe : (I.most : Int) - I.used = F := by have := H.out.ok.le; omega
      rw [hL] at HNe hle
      rw [hFe] at HF
      obtain ⟨E, hE⟩ : ∃ E, decide (L ≤ F) = E := ⟨_, rfl⟩
      have HEq := hid hE
      have HW0 := hid (show Wr I A K ((L : Int) - F) 0 false from ⟨by rw [hL]; omega, fun _ i hi => by omega, fun h => by cases h⟩)
      have hm := HL.out
      unfold maxLen at hm
      have b0 : (0 : Int) ≤ f.toNat := by omega
      have b1 : (f.toNat : Int) ≤ 255 := by have := f.toNat_lt; omega
      have b2 : (0 : Int) ≤ z.toNat := by omega
      have b3 : (z.toNat : Int) ≤ 255 := by have := z.toNat_lt; omega
      have b4 : (0 : Int) < 1 + S := by omega
      have b5 : (S : Int) ≤ 11 := by omega
      have b6 : (0 : Int) ≤ A := by omega
      have b7 : (A : Int) ≤ S := by omega
      have b8 : (0 : Int) < 1 + S - A + 1 := by omega
      clear hfit hL hF hFe
      go_wp2_with (first
        | (go_at_call 23; refine HNe.out.mono ?_; rintro e w3 ⟨rfl, h3, -⟩; have H3 := hid h3; clear h3)
        | (go_at_call 14; refine (HF.out _ H3.out).mono ?_; rintro e w4 ⟨rfl, h4, -⟩; have H4 := hid h4; clear h4))
      clear hA hK hE
      go_loopw [20, 21] (fun v i wx => ∃ (i0 : Nat) (fl : Bool) (J : Im), v = .bool fl ∧ i = .int .i64 i0 ∧ A ≤ i0 ∧ i0 ≤ A + K ∧ IW w wx b g m J ∧ J.n = 1 + S ∧ Wr J A K ((L : Int) - F) (i0 - A) fl) (fun _ i _ => A + K - (intOf i).toNat)
      case atStart => exact ⟨A, false, I, rfl, rfl, Nat.le_refl _, by omega, H4.out, HIn.out, by rw [Nat.sub_self]; exact HW0.out⟩
      case round =>
        clear H4 HW0 H3
        obtain ⟨i0, fl, J, rfl, rfl, hi0, hi1, hj, hjn, hwr⟩ := hrel
        have HJ := hid hj
        have HJn := hid hjn
        have HWr := hid hwr
        clear hj hjn hwr
        have hi00 : (0 : Int) ≤ i0 := by omega
        by_cases hlt : i0 < A + K
        · have hlt' : (i0 : Int) < (A : Int) + K := by omega
          have hin : (0 : Int) ≤ i0 ∧ (i0 : Int) < J.n := by rw [HJn.out]; omega
          obtain ⟨h1, h2, h3⟩ := HWr.out.next HJ.out.ok (b := zs64) zs64_len (j := i0 - A) (by omega) (by rw [show ((A : Int) + ((i0 - A : Nat) : Int)) = i0 by omega]; exact Im.is_yes.2 hin)
          rw [show ((A : Int) + ((i0 - A : Nat) : Int)) = i0 by omega] at h1 h2 h3
          obtain ⟨W2, hmk, hb, hg⟩ := make_64 wr
          have HB := hid hb
          have HC := hid (cWrite (HJ.out.more hg) (i0 : Int) (some ⟨wr.heap.size, 0, none⟩) zs64 64 (by rw [zs64_len]; omega) hb)
          rw [zs64_len] at HC
          have HN2 := hid h2
          have HW3 := hid h3
          clear hb hg h2 h3 hin
          rcases h1 with e1 | e1 <;> cases fl
          · rw [e1] at HC HW3
            clear e1
            go_wp2_with (go_at_call 11; refine HC.out.mono ?_; rintro e w5 ⟨rfl, h5, -⟩; have H5 := hid h5; clear h5)
            go_roundw
            case rel => exact ⟨i0 + 1, false, _, rfl, by go_num, by omega, by omega, H5.out, HN2.out.trans HJn.out, by have := HW3.out; rw [show i0 + 1 - A = i0 - A + 1 by omega]; simpa using this⟩
            case measure => simp [intOf]; omega
          · rw [e1] at HC HW3
            clear e1
            go_wp2_with (go_at_call 11; refine HC.out.mono ?_; rintro e w5 ⟨rfl, h5, -⟩; have H5 := hid h5; clear h5)
            go_roundw
            case rel => exact ⟨i0 + 1, true, _, rfl, by go_num, by omega, by omega, H5.out, HN2.out.trans HJn.out, by have := HW3.out; rw [show i0 + 1 - A = i0 - A + 1 by omega]; simpa using this⟩
            case measure => simp [intOf]; omega
          · rw [e1] at HC HW3
            clear e1
            go_wp2_with (go_at_call 11; refine HC.out.mono ?_; rintro e w5 ⟨rfl, h5, -⟩; have H5 := hid h5; clear h5)
            go_roundw
            case rel => exact ⟨i0 + 1, true, _, rfl, by go_num, by omega, by omega, H5.out, HN2.out.trans HJn.out, by have := HW3.out; rw [show i0 + 1 - A = i0 - A + 1 by omega]; simpa using this⟩
            case measure => simp [intOf]; omega
          · rw [e1] at HC HW3
            clear e1
            go_wp2_with (go_at_call 11; refine HC.out.mono ?_; rintro e w5 ⟨rfl, h5, -⟩; have H5 := hid h5; clear h5)
            go_roundw
            case rel => exact ⟨i0 + 1, true, _, rfl, by go_num, by omega, by omega, H5.out, HN2.out.trans HJn.out, by have := HW3.out; rw [show i0 + 1 - A = i0 - A + 1 by omega]; simpa using this⟩
            case measure => simp [intOf]; omega
        · obtain rfl : i0 = A + K := by omega
          have hge : (A : Int) + K ≤ ((A + K : Nat) : Int) := by omega
          have hw := HWr.out
          rw [show A + K - A = K by omega] at hw
          obtain ⟨d1, d2⟩ := hw.done HJ.out.ok
          have hfit : J.fit A K = true := by unfold Im.fit; rw [HJn.out]; simp; omega
          have HNe := hid (cNeed HJ.out (A : Int) (K : Int) (I64.of (by omega) (by omega)) (I64.of (by omega) (by omega)))
          rw [Im.needE_fit hfit] at HNe
          obtain ⟨L2, hL2⟩ : ∃ L, J.lack A K = L := ⟨_, rfl⟩
          rw [hL2] at HNe d2
          have hE := HEq.out
          by_cases hD : (L : Int) ≤ F
          · have e1 : E = true := by rw [← hE]; simp; omega
            have e2 : fl = false := by rw [d1]; simp; omega
            have e3 : L2 = 0 := by
              rw [decide_eq_true (show (L : Int) - F ≤ 0 by omega)] at d2
              simpa using d2
            subst e1 e2 e3
            clear d1 d2 hfit hL2 hE hD hw
            go_wp2_with (go_at_call 23; refine HNe.out.mono ?_; rintro e w6 ⟨rfl, h6, -⟩; have H6 := hid h6; clear h6)
            go_ret
            exact ⟨rfl, H6.out.g⟩
          · have e1 : E = false := by rw [← hE]; simp; omega
            have e2 : fl = true := by rw [d1]; simp; omega
            have e3 : ((L2 : Int) == 0) = false := by
              rw [decide_eq_false (show ¬ (L : Int) - F ≤ 0 by omega)] at d2
              simp at d2 ⊢
              omega
            subst e1 e2
            clear d1 d2 hfit hL2 hE hD hw
            go_wp2_with (go_at_call 23; refine HNe.out.mono ?_; rintro e w6 ⟨rfl, h6, -⟩; have H6 := hid h6; clear h6)
            go_ret
            exact ⟨rfl, H6.out.g⟩
theorem u8_of {n : Int} (h : (Lit.int .u8 n).wf = true) : ∃ x : UInt8, n = (x.toNat : Int) := by
  have hb := bounds_u8 h
  have hx : (UInt8.ofNat n.toNat).toNat = n.toNat := UInt8.toNat_ofNat_of_lt' (show n.toNat < 256 by omega)
  exact ⟨UInt8.ofNat n.toNat, by rw [hx, Int.toNat_of_nonneg hb.1]⟩
theorem main {H : Type} {enc : TypeId × Value → H} (v0 v1 v2 v3 v4 : Value) (W : World) (c0 : Flat.Came enc Try.prog W 0 (fun _ => true) true 5 v0) (c1 : Flat.Came enc Try.prog W 0 (fun _ => true) true 5 v1) (c2 : Flat.Came enc Try.prog W 0 (fun _ => true) true 23 v2) (c3 : Flat.Came enc Try.prog W 0 (fun _ => true) true 5 v3) (c4 : Flat.Came enc Try.prog W 0 (fun _ => true) true 5 v4) :
    Calls Try.prog 5 #[v0, v1, v2, v3, v4] W fun e w' => e = .returned (.bool true) ∧ W.grownBy w' none := by
  obtain ⟨n0, rfl, h0⟩ := c0.int Try.underlying5
  obtain ⟨n1, rfl, h1⟩ := c1.int Try.underlying5
  obtain ⟨pa, ops, cap, rfl, ho, hol⟩ := open_ops c2
  obtain ⟨n3, rfl, h3⟩ := c3.int Try.underlying5
  obtain ⟨n4, rfl, h4⟩ := c4.int Try.underlying5
  obtain ⟨x, rfl⟩ := u8_of h0
  obtain ⟨y, rfl⟩ := u8_of h1
  obtain ⟨f, rfl⟩ := u8_of h3
  obtain ⟨z, rfl⟩ := u8_of h4
  obtain ⟨S, hS⟩ : ∃ S : Nat, (x.toNat : Int) % 12 = S := ⟨x.toNat % 12, by omega⟩
  obtain ⟨N, hN⟩ : ∃ N : Nat, (y.toNat : Int) % 14 = N := ⟨y.toNat % 14, by omega⟩
  obtain ⟨A, hA⟩ : ∃ A : Nat, (f.toNat : Int) % (1 + S) = A := ⟨((f.toNat : Int) % (1 + S)).toNat, (Int.toNat_of_nonneg (Int.emod_nonneg _ (by omega))).symm⟩
  have hAS : (A : Int) < 1 + S := hA ▸ Int.emod_lt_of_pos (f.toNat : Int) (show (0 : Int) < 1 + S by omega)
  obtain ⟨K, hK⟩ : ∃ K : Nat, (z.toNat : Int) % (1 + S - A + 1) = K := ⟨((z.toNat : Int) % (1 + S - A + 1)).toNat, (Int.toNat_of_nonneg (Int.emod_nonneg _ (by omega))).symm⟩
  exact walk x y f z pa ops cap W ho hol S N A K hS hN hA hK

theorem own : ownKnob Try.prog.godebug = none := by kernel_rfl
theorem laidOut : laidOutB Try.prog = true := by kernel_rfl

set_option maxRecDepth 100000 in
theorem lifted (os : Os) (started : os.Started) (H : Type) (enc : TypeId × Value → H) :
    ReturnsInHanded {} Try.checked os 5 .any (Rows.imageNeedsSpec.pre6 enc Try.prog Try.f5 Rows.imageNeedsRow.domain false) (Rows.imageNeedsSpec.post enc Try.prog Try.f5 false true false false) := by
  refine returnsInHanded_of_change_sized (C := Try.checked) own started (by kernel_rfl) Try.func5
    (ChangeSpec.witness6 (enc := enc) (C := Try.checked) false ⟨#[], #[.int .u8 0, .int .u8 0, .slice none 0 0, .int .u8 0, .int .u8 0], []⟩ 8 (by kernel_rfl) (by kernel_rfl) (by kernel_rfl) (by kernel_rfl)) ?_
  intro W base args ds gs before hval0 hW _ hsz0 _
  have hsz : (DataW.weightsEach Try.prog (Try.f5.params.toList ++ Rows.imageNeedsSpec.plain.varTypes Try.prog) (ds ++ gs)).all (· ≤ reachBytes) = true := hsz0
  clear hsz0
  have hval : ∀ (j : Nat) t v, Try.f5.params[j]? = some t → args[j]? = some v → Value.okWide Try.prog W .any base t v := hval0
  have hW' := hW
  obtain ⟨p, q, hA0, hV, rfl, hfz, hnd⟩ := hW
  have hA : DataW.TrodAll enc Try.prog W 0 (fun _ => true) true Try.f5.params.toList args.toList ds p := hA0
  rw [Try.params5] at hA hval hsz
  obtain ⟨v0, vs0, d0, ds0, p0, q0, hargs, rfl, rfl, h0, r0⟩ := trodAll_cons hA
  obtain ⟨v1, vs1, d1, ds1, p1, q1, rfl, rfl, rfl, h1, r1⟩ := trodAll_cons r0
  obtain ⟨v2, vs2, d2, ds2, p2, q2, rfl, rfl, rfl, h2, r2⟩ := trodAll_cons r1
  obtain ⟨v3, vs3, d3, ds3, p3, q3, rfl, rfl, rfl, h3, r3⟩ := trodAll_cons r2
  obtain ⟨v4, vs4, d4, ds4, p4, q4, rfl, rfl, rfl, h4, r4⟩ := trodAll_cons r3
  obtain ⟨rfl, rfl, rfl⟩ := trodAll_nil r4
  obtain rfl : args = #[v0, v1, v2, v3, v4] := by cases args; simp_all
  obtain ⟨rfl, rfl⟩ := trodVars_none hV
  obtain ⟨a0, rfl, rfl, rfl, w0⟩ := open_int Try.underlying5 (hval 0 5 v0 rfl rfl) h0
  have k0 := h0
  have lt0 : ∀ x ∈ ([] : List MemPlace), x.block < W.heap.size := by obtain ⟨m, hm⟩ := k0; exact DataW.trod_lt m _ _ _ hm
  have c0 : Flat.Came enc Try.prog W 0 (fun _ => true) true 5 (.int .u8 a0) := by
    obtain ⟨fuel, hf⟩ := h0
    exact ⟨fuel, _, hf, fun n hn => by
      have := List.all_eq_true.1 hsz n (DataW.weights_mem_each (j := 0) rfl rfl n hn)
      simpa using this⟩
  obtain ⟨a1, rfl, rfl, rfl, w1⟩ := open_int Try.underlying5 (hval 1 5 v1 rfl rfl) h1
  have k1 := h1
  have lt1 : ∀ x ∈ ([] : List MemPlace), x.block < W.heap.size := by obtain ⟨m, hm⟩ := k1; exact DataW.trod_lt m _ _ _ hm
  have c1 : Flat.Came enc Try.prog W 0 (fun _ => true) true 5 (.int .u8 a1) := by
    obtain ⟨fuel, hf⟩ := h1
    exact ⟨fuel, _, hf, fun n hn => by
      have := List.all_eq_true.1 hsz n (DataW.weights_mem_each (j := 1) rfl rfl n hn)
      simpa using this⟩
  obtain ⟨ps2, ln2, cp2, rfl⟩ := okWide_slice Try.underlying23 (hval 2 23 v2 rfl rfl)
  have k2 := h2
  have lt2 : ∀ x ∈ p2, x.block < W.heap.size := by obtain ⟨m, hm⟩ := k2; exact DataW.trod_lt m _ _ _ hm
  have c2 : Flat.Came enc Try.prog W 0 (fun _ => true) true 23 (.slice ps2 ln2 cp2) := by
    obtain ⟨fuel, hf⟩ := h2
    exact ⟨fuel, _, hf, fun n hn => by
      have := List.all_eq_true.1 hsz n (DataW.weights_mem_each (j := 2) rfl rfl n hn)
      simpa using this⟩
  obtain ⟨a3, rfl, rfl, rfl, w3⟩ := open_int Try.underlying5 (hval 3 5 v3 rfl rfl) h3
  have k3 := h3
  have lt3 : ∀ x ∈ ([] : List MemPlace), x.block < W.heap.size := by obtain ⟨m, hm⟩ := k3; exact DataW.trod_lt m _ _ _ hm
  have c3 : Flat.Came enc Try.prog W 0 (fun _ => true) true 5 (.int .u8 a3) := by
    obtain ⟨fuel, hf⟩ := h3
    exact ⟨fuel, _, hf, fun n hn => by
      have := List.all_eq_true.1 hsz n (DataW.weights_mem_each (j := 3) rfl rfl n hn)
      simpa using this⟩
  obtain ⟨a4, rfl, rfl, rfl, w4⟩ := open_int Try.underlying5 (hval 4 5 v4 rfl rfl) h4
  have k4 := h4
  have lt4 : ∀ x ∈ ([] : List MemPlace), x.block < W.heap.size := by obtain ⟨m, hm⟩ := k4; exact DataW.trod_lt m _ _ _ hm
  have c4 : Flat.Came enc Try.prog W 0 (fun _ => true) true 5 (.int .u8 a4) := by
    obtain ⟨fuel, hf⟩ := h4
    exact ⟨fuel, _, hf, fun n hn => by
      have := List.all_eq_true.1 hsz n (DataW.weights_mem_each (j := 4) rfl rfl n hn)
      simpa using this⟩
  clear hA0 hval0
  refine (main (.int .u8 a0) (.int .u8 a1) (.slice ps2 ln2 cp2) (.int .u8 a3) (.int .u8 a4) W c0 c1 c2 c3 c4).mono fun e W' ⟨he, hg⟩ => ?_
  subst he
  have bel := below_grown' hg
  simp only [List.append_nil, List.nil_append] at hW'
  exact ⟨_, rfl, _, _, _, [], _, [], hW', trodAll_mk1 (shut_bool Try.underlying4 _), (trodAll_cons_mk (Below.trod laidOut (by kernel_rfl) (of_decide_eq_true (by kernel_rfl)) k0 bel lt0) (trodAll_cons_mk (Below.trod laidOut (by kernel_rfl) (of_decide_eq_true (by kernel_rfl)) k1 bel lt1) (trodAll_cons_mk (Below.trod laidOut (by kernel_rfl) (of_decide_eq_true (by kernel_rfl)) k2 bel lt2) (trodAll_cons_mk (Below.trod laidOut (by kernel_rfl) (of_decide_eq_true (by kernel_rfl)) k3 bel lt3) (trodAll_cons_mk (Below.trod laidOut (by kernel_rfl) (of_decide_eq_true (by kernel_rfl)) k4 bel lt4) trodAll_mk0))))), rfl, bel.frame _, fun h => by cases h⟩

theorem proved : Rows.ImageNeedsSaid :=
  OpenClaim.holds_of_wide 5 Try.f5 rfl rfl rfl rfl rfl rfl rfl ⟨rfl, rfl, rfl, rfl, rfl⟩ rfl rfl rfl rfl rfl (by kernel_rfl) Try.func5 (by kernel_rfl)
    (of_decide_eq_true (by kernel_rfl)) (by unfold Func.isWrapper; first | (rw [if_pos (by decide +kernel)]; kernel_rfl) | (rw [if_neg (by decide +kernel)]; exact ⟨rfl, rfl⟩))
    (fun os started H enc _ => lifted os started H enc)
#print axioms proved
end Go.Proofs.Ytcogchalfdeagaa.lawImNeeds
