/-
  ImageBase: for every base, number of blocks and script the law returns true, and what was there stays. No condition.
-/
import Derived.Test.YtcogchalfdeagaaImB
set_option linter.unusedSimpArgs false
set_option linter.unusedVariables false
namespace Go.Proofs.Ytcogchalfdeagaa.lawImBase
open Go.ChangeShapes Go.WideShapes Go.ChangeAt Go.RowKit Gen
set_option maxHeartbeats 2000000

set_option maxRecDepth 100000 in
theorem walk_no (p : Option Addr) (l : List UInt8) (c : Nat) (K : Int) (so : Value) (w : World) (hb : BA w p l) (hl : l.length ≤ 140737488351232) (hn : p = none → c = 0) (hcode : newC l.length K ≠ 0) :
    Calls Try.prog 4 #[.slice p l.length c, .int .i64 K, so] w fun e w' => e = .returned (.bool true) ∧ w.grownBy w' none := by
  have HB := hid hb
  have HL := hid hl
  have HN := hid hn
  have HA := hid lAwake
  have HW := hid (fun (w' : World) (q : Option Addr) (c' : Nat) => iNew_no q l c' K w' hl hcode)
  obtain ⟨code, hc⟩ : ∃ code, newC l.length K = code := ⟨_, rfl⟩
  rw [hc] at HW hcode
  clear hc hb hl hn
  go_enter Try.func4, Try.ntmps4
  go_wp2_with (first
    | (at_builtin; refine wpList_append_empty rfl (.tmp 20) (.tmp 21) rfl rfl p l c rfl HB.out HL.out HN.out ?_; intro v w1 hv; obtain ⟨q, c', rfl, hq, -, hc', -⟩ := hv.ba; have HG1 := hid hv.2; have HQ := hid hq; have HC := hid hc'; clear hv hq hc')
    | (go_at_call 8; refine (HW.out _ _ _).mono ?_; rintro e w2 ⟨rfl, rfl⟩)
    | (go_at_call 19; refine (HA.out _).mono ?_; rintro e w3 ⟨rfl, g3⟩; have HG3 := hid (HG1.out.trans g3); clear g3))
  go_ret
  exact ⟨rfl, HG3.out⟩
theorem len_of {l : List UInt8} {K : Int} (h : newC l.length K = 0) : ∃ n, l.length = n * 64 ∧ n ≤ 256 ∧ 0 ≤ K ∧ K ≤ 256 := by
  unfold newC at h
  split at h
  · cases h
  · split at h
    · rename_i h1 h2
      exact ⟨l.length / 64, by omega, by omega, h2.2.1, h2.2.2⟩
    · cases h
/-- what stays from round to round -/
structure Inv (w0 w : World) (b g m NB n K : Nat) (l : List UInt8) (I : Im) : Prop where
  i : IW w0 w b g m I
  en : I.n = n
  eB : I.B = l
  em : I.most = K
  now : Now w NB n (fun i => I.at i)
section
variable {w0 w : World} {b g m NB n K : Nat} {l : List UInt8} {I : Im}
theorem Inv.more (h : Inv w0 w b g m NB n K l I) {w' : World} (hg : w.grownBy w' none) : Inv w0 w' b g m NB n K l I := ⟨h.i.more hg, h.en, h.eB, h.em, h.now.grown hg⟩
theorem Inv.chg (h : Inv w0 w b g m NB n K l I) {w' : World} (hi : IW w0 w' b g m I) (hc : CM1 m w w') : Inv w0 w' b g m NB n K l I := ⟨hi, h.en, h.eB, h.em, h.now.chg h.i hc⟩
end
set_option maxRecDepth 100000 in
theorem walk_yes (p : Option Addr) (l : List UInt8) (c : Nat) (K : Nat) (pa : Option Addr) (ops : List OpV) (cap : Nat) (w : World) (hb : BA w p l) (hl : l.length ≤ 140737488351232) (hn : p = none → c = 0) (hlc : l.length ≤ c) (hcode : newC l.length (K : Int) = 0) (ho : OpsIn w pa ops) (hol : ops.length ≤ maxLen) :
    Calls Try.prog 4 #[.slice p l.length c, .int .i64 K, .slice pa ops.length cap] w fun e w' => e = .returned (.bool true) ∧ w.grownBy w' none := by
  obtain ⟨n, hln, h256, hK0, hK1⟩ := len_of hcode
  have e3 : (l.length : Int) / 64 = n := by omega
  have HB := hid hb
  have HL := hid hl
  have HN := hid hn
  have HC := hid hcode
  have HLC := hid hlc
  have HLn := hid hln
  have HO := hid ho
  have HOL := hid hol
  have HA := hid lAwake
  have HI0 := hid (show (newI l (K : Int)).n = n ∧ (newI l (K : Int)).B = l ∧ (newI l (K : Int)).most = K ∧ ∀ i : Nat, (newI l (K : Int)).at i = (l.drop (i * 64)).take 64 from ⟨by simp only [newI]; omega, rfl, by simp [newI], fun i => by simp [Im.at, Im.base, newI]⟩)
  clear hb hl hn hlc hcode hln ho hol
  go_enter Try.func4, Try.ntmps4
  go_wp2_with (first
    | (at_builtin; refine wpList_append_empty rfl (.tmp 20) (.tmp 21) rfl rfl p l c rfl HB.out HL.out HN.out ?_; intro v w1 hv; obtain ⟨q, c', rfl, hq, -, hc', -⟩ := hv.ba; have HG1 := hid hv.2; have HQ := hid hq; have HC' := hid hc'; clear hv hq hc')
    | (go_at_call 8; refine (cNew _ _ _ _ HG1.out HC.out HQ.out HC'.out).mono ?_; rintro e w2 ⟨b, g, m, rfl, h2⟩; obtain ⟨W3, hmk, hr3, hg3⟩ := make_rows w2 n h256; have HR3 := hid hr3; have H3 := hid (h2.more hg3); have HLo := hid h2.g.size; clear h2 hr3 hg3))
  have E3 := hid e3
  obtain ⟨NB, hNB⟩ : ∃ NB, w2.heap.size = NB := ⟨_, rfl⟩
  rw [hNB] at HR3 HLo
  rw [hNB]
  clear hmk hNB e3
  go_loopw [11] (fun i wr => ∃ k : Nat, i = .int .i64 k ∧ k ≤ n ∧ IW w wr b g m (newI l (K : Int)) ∧ Row wr NB 22 n (partX p c k)) (fun i _ => n - (intOf i).toNat)
  case atStart => exact ⟨0, rfl, by omega, H3.out, HR3.out.congr fun i _ => by simp [partX]⟩
  case round =>
    clear H3 HR3
    obtain ⟨k, rfl, hk, hi, hr⟩ := hrel
    have H := hid hi
    have HR := hid hr
    clear hi hr
    have hk0 : (0 : Int) ≤ k := by omega
    by_cases hlt : k < n
    · have hlt' : (k : Int) < n := by omega
      obtain ⟨q0, o0, rfl, -⟩ := HB.out 0 (by have := HLn.out; omega)
      have hsl := fun W => run_part W q0 o0 l.length c k (by have := HLn.out; omega) HLC.out
      have i1 : IntKind.i64.wrap ((k : Int) * 64) = (k : Int) * 64 := IntWalk.i64_in _ (by omega)
      have i2 : IntKind.i64.wrap ((k : Int) + 1) = (k : Int) + 1 := IntWalk.i64_in _ (by omega)
      have i3 : IntKind.i64.wrap (((k : Int) + 1) * 64) = ((k : Int) + 1) * 64 := IntWalk.i64_in _ (by omega)
      have hc := HR.out.cell hlt
      have hz : partX (some ⟨q0, o0, none⟩) c k k = .slice none 0 0 := by simp [partX]
      rw [hz] at hc
      have hf := HR.out.frozen k
      clear hz
      go_wp2
      go_roundw
      case rel => exact ⟨k + 1, by go_num, hlt, H.out.store HR.out HLo.out k _, HR.out.set (by simp [partX, partV]) (fun j _ hj => partX_next _ _ _ _ hj)⟩
      case measure => simp [intOf]; omega
    · obtain rfl : n = k := by omega
      have hge : (n : Int) ≤ n := by omega
      have HI := hid (show Inv w wr b g m NB n K l (newI l (K : Int)) from ⟨H.out, HI0.out.1, HI0.out.2.1, HI0.out.2.2.1, (Now.of_parts HR.out HB.out (HB.out.grown H.out.g) HLo.out HLn.out).congr fun i _ => HI0.out.2.2.2 i⟩)
      clear H HR
      have hm := HOL.out
      unfold maxLen at hm
      go_wp2_with fail
      go_loopw [12] (fun i wx => ∃ (k : Nat) (I : Im), i = .int .i64 k ∧ k ≤ ops.length ∧ Inv w wx b g m NB n K l I) (fun i _ => ops.length - (intOf i).toNat)
      case atStart => exact ⟨0, _, rfl, by omega, HI.out⟩
      case round =>
        clear HI
        obtain ⟨k, I, rfl, hk, hi⟩ := hrel
        have H := hid hi
        clear hi hge
        have hk0 : (0 : Int) ≤ k := by omega
        by_cases hlt : k < ops.length
        · have hlt' : (k : Int) < ops.length := by omega
          obtain ⟨pb, off, rfl, o0, o1, o2, o3, o4, hfit⟩ := HO.out k hlt
          obtain ⟨o, hoq⟩ : ∃ o, ops[k] = o := ⟨_, rfl⟩
          rw [hoq] at o0 o1 o2 o3 o4 hfit
          obtain ⟨what, a, bb, fl, lp, ll, lc⟩ := o
          simp only at o0 o1 o2 o3 o4
          have c0 := H.out.i.g.cell o0 (by simp)
          have c1 := H.out.i.g.cell o1 (by simp)
          have c2 := H.out.i.g.cell o2 (by simp)
          have c3 := H.out.i.g.cell o3 (by simp)
          have c4 := H.out.i.g.cell o4 (by simp)
          have HFit := hid hfit
          clear hoq o0 o1 o2 o3 o4 hfit
          by_cases hw1 : what = 1
          · subst hw1
            have hwg := HFit.out
            obtain ⟨OB, hOB⟩ : ∃ OB, wr.heap.size = OB := ⟨_, rfl⟩
            have hmlt : m < OB := hOB ▸ H.out.i.i.map.lt
            have hnlt : NB < OB := hOB ▸ H.out.now.lt
            go_wp2_with fail
            obtain ⟨W1, hW, hg1, d0, d1, d2, d3, d4⟩ : ∃ W, wr.alloc (.cells #[.int .i64 1, .int .i64 a, .int .i64 bb, .int .u8 fl.toNat, .slice lp ll.length lc] 32) = W ∧ wr.grownBy W none ∧ W.cell? ⟨wr.heap.size, 0, none⟩ = some (.int .i64 1) ∧ W.cell? ⟨wr.heap.size, 1, none⟩ = some (.int .i64 a) ∧ W.cell? ⟨wr.heap.size, 2, none⟩ = some (.int .i64 bb) ∧ W.cell? ⟨wr.heap.size, 3, none⟩ = some (.int .u8 fl.toNat) ∧ W.cell? ⟨wr.heap.size, 4, none⟩ = some (.slice lp ll.length lc) :=
              ⟨_, rfl, World.grownBy_alloc _ _ _, by simp [go_sem], by simp [go_sem], by simp [go_sem], by simp [go_sem], by simp [go_sem]⟩
            rw [hW]
            rw [hOB] at d0 d1 d2 d3 d4
            have H1 := hid (H.out.more hg1)
            clear hW hOB hwg c0 c1 c2 c3 c4 hg1
            have H1d := hid (H1.out.more (grownBy_drew W1 none))
            have HBy := hid (fun (w' : World) (hg : w.grownBy w' none) => lBytesQ ⟨1, a, bb, fl, lp, ll, lc⟩ w' (HFit.out.grown hg))
            have HLen := hid (OpV.out_len HFit.out.len)
            obtain ⟨out, hout⟩ : ∃ out, (⟨1, a, bb, fl, lp, ll, lc⟩ : OpV).out = out := ⟨_, rfl⟩
            rw [hout] at HBy HLen
            have HWr := hid (fun (w' : World) (hi : IW w w' b g m I) (q : Option Addr) (c : Nat) (hb : BA w' q out) => cWrite hi a q out c HLen.out hb)
            rcases write_split I a out with ⟨e1, e2⟩ | ⟨hs, hlo, e1⟩
            · rw [e1] at HWr
              obtain ⟨F, U, hsum, hFr, hDi⟩ := cFD H.out.i H.out.em
              have HFr := hid hFr
              have HDi := hid hDi
              obtain ⟨code, hcd⟩ : ∃ code, (I.writeE a out).2 = code := ⟨_, rfl⟩
              rw [hcd] at e2 HWr
              clear e1 hcd hout hFr hDi
              go_region_held3 (fun W => W.cell? ⟨OB, 0, none⟩ = some (.int .i64 1) ∧ W.cell? ⟨OB, 1, none⟩ = some (.int .i64 a) ∧ W.cell? ⟨OB, 2, none⟩ = some (.int .i64 bb) ∧ W.cell? ⟨OB, 3, none⟩ = some (.int .u8 fl.toNat) ∧ W.cell? ⟨OB, 4, none⟩ = some (.slice lp ll.length lc)) (first | exact ⟨by assumption, by assumption, by assumption, by assumption, by assumption⟩ | go_keep)
                (first
                  | (go_at_call 12; refine (HBy.out _ H1d.out.i.g).mono ?_; rintro e w3 ⟨q3, c3', rfl, hb3, hg3⟩; have H3 := hid (H1d.out.more hg3); have HB3 := hid hb3; have f0 := hg3.cell d0 (by simp); have f1 := hg3.cell d1 (by simp); have f2 := hg3.cell d2 (by simp); have f3 := hg3.cell d3 (by simp); have f4 := hg3.cell d4 (by simp); clear hb3 hg3)
                  | (go_at_call 11; refine (HWr.out _ H3.out.i q3 c3' HB3.out).mono ?_; rintro e w4 ⟨rfl, h4, hc4⟩; have H4 := hid (H3.out.chg h4 hc4); have k0 := hc4.cell f0 (by simp; omega); have k1 := hc4.cell f1 (by simp; omega); have k2 := hc4.cell f2 (by simp; omega); have k3 := hc4.cell f3 (by simp; omega); have k4 := hc4.cell f4 (by simp; omega); clear h4 hc4))
              all_goals go_wp2_with (first
              |        (go_at_call 14; refine (HFr.out _ H4.out.i).mono ?_; rintro e w7 ⟨rfl, h7, hc7⟩; have H7 := hid h7; have C7 := hid hc7; clear h7 hc7)
              | (go_at_call 17; refine (HDi.out _ H7.out).mono ?_; rintro e w8 ⟨p8, c8, rfl, -, h8, hc8⟩; have H8 := hid h8; have C8 := hid hc8; clear h8 hc8))
              all_goals
                go_roundw
                case rel => exact ⟨k + 1, I, by go_num, hlt, (H4.out.chg H7.out C7.out).chg H8.out C8.out⟩
                case measure => simp [intOf]; omega
            · obtain ⟨hs0, hs1⟩ := Im.is_yes.1 hs
              obtain ⟨ka, rfl⟩ : ∃ ka : Nat, a = ka := ⟨a.toNat, by omega⟩
              rw [H.out.en] at hs1
              have hka : ka < n := by omega
              rw [e1] at HWr
              have HB6 := hid (fun (w' : World) (hg : w.grownBy w' none) => lBytes64 ⟨1, (ka : Int), bb, fl, lp, ll, lc⟩ w' (HFit.out.grown hg) (by rw [hout]; exact hlo))
              rw [hout] at HB6
              have HLou := hid hlo
              have HEm := hid (show (I.set ka out).n = n ∧ (I.set ka out).B = l ∧ (I.set ka out).most = K from ⟨H.out.en, H.out.eB, H.out.em⟩)
              clear e1 hs hout hlo
              go_region_held3 (fun W => W.cell? ⟨OB, 0, none⟩ = some (.int .i64 1) ∧ W.cell? ⟨OB, 1, none⟩ = some (.int .i64 ka) ∧ W.cell? ⟨OB, 2, none⟩ = some (.int .i64 bb) ∧ W.cell? ⟨OB, 3, none⟩ = some (.int .u8 fl.toNat) ∧ W.cell? ⟨OB, 4, none⟩ = some (.slice lp ll.length lc)) (first | exact ⟨by assumption, by assumption, by assumption, by assumption, by assumption⟩ | go_keep)
                (first
                  | (go_at_call 12; refine (HBy.out _ H1d.out.i.g).mono ?_; rintro e w3 ⟨q3, c3', rfl, hb3, hg3⟩; have H3 := hid (H1d.out.more hg3); have HB3 := hid hb3; have f0 := hg3.cell d0 (by simp); have f1 := hg3.cell d1 (by simp); have f2 := hg3.cell d2 (by simp); have f3 := hg3.cell d3 (by simp); have f4 := hg3.cell d4 (by simp); clear hb3 hg3)
                  | (go_at_call 11; refine (HWr.out _ H3.out.i q3 c3' HB3.out).mono ?_; rintro e w4 ⟨rfl, h4, hc4⟩; have H4 := hid h4; have N4 := hid (H3.out.now.chg H3.out.i hc4); have k0 := hc4.cell f0 (by simp; omega); have k1 := hc4.cell f1 (by simp; omega); have k2 := hc4.cell f2 (by simp; omega); have k3 := hc4.cell f3 (by simp; omega); have k4 := hc4.cell f4 (by simp; omega); clear h4 hc4))
              go_wp2_with fail
              have H4d := hid (H4.out.more (grownBy_drew w4 none))
              have N4d := hid (N4.out.grown (grownBy_drew w4 none))
              have hn4 := N4.out.lt
              have e4 : w4.heap.size = w4.heap.size := rfl
              clear e4
              go_region_held3 (fun W => W.cell? ⟨OB, 0, none⟩ = some (.int .i64 1) ∧ W.cell? ⟨OB, 1, none⟩ = some (.int .i64 ka) ∧ W.cell? ⟨OB, 2, none⟩ = some (.int .i64 bb) ∧ W.cell? ⟨OB, 3, none⟩ = some (.int .u8 fl.toNat) ∧ W.cell? ⟨OB, 4, none⟩ = some (.slice lp ll.length lc)) (first | exact ⟨by assumption, by assumption, by assumption, by assumption, by assumption⟩ | exact ⟨z0 _, z1 _, z2 _, z3 _, z4 _⟩ | go_keep)
                ((((go_at_call 12; refine (HB6.out _ H4d.out.g).mono ?_; rintro e w5 ⟨q5, c5, rfl, hb5, hl5, hg5⟩; have H5 := hid (H4d.out.more hg5); have N5 := hid (N4d.out.grown hg5); have HB5 := hid hb5; have HL5 := hid (fun x e => Nat.lt_of_lt_of_le hn4 (hl5 x e)); have g0 := hg5.cell k0 (by simp); have g1 := hg5.cell k1 (by simp); have g2 := hg5.cell k2 (by simp); have g3 := hg5.cell k3 (by simp); have g4 := hg5.cell k4 (by simp); obtain ⟨p6, c6, hcell, -⟩ := N5.out.cell hka; have hfz := N5.out.frozen ka; have z0 := fun v => (grownBy_setCell w5 NB ka none v).cell g0 (by simp; omega); have z1 := fun v => (grownBy_setCell w5 NB ka none v).cell g1 (by simp; omega); have z2 := fun v => (grownBy_setCell w5 NB ka none v).cell g2 (by simp; omega); have z3 := fun v => (grownBy_setCell w5 NB ka none v).cell g3 (by simp; omega); have z4 := fun v => (grownBy_setCell w5 NB ka none v).cell g4 (by simp; omega); clear hb5 hl5 hg5))))
              obtain ⟨X6, hX6⟩ := N5.out.row
              have H6 := hid (H5.out.store hX6 HLo.out ka (.slice q5 64 c5))
              have N6 := hid (N5.out.set hka HB5.out HLou.out (fun x e => by have := HL5.out x e; omega) (c := c5))
              obtain ⟨W6, hW6⟩ : ∃ W, w5.setCell ⟨NB, ka, none⟩ (.slice q5 64 c5) = W := ⟨_, rfl⟩
              rw [hW6] at H6 N6
              rw [hW6]
              obtain ⟨F, U, hsum, hFr, hDi⟩ := cFD H6.out HEm.out.2.2
              have HFr := hid hFr
              have HDi := hid hDi
              clear hW6 hFr hDi hX6 z0 z1 z2 z3 z4 hcell hfz g0 g1 g2 g3 g4 k0 k1 k2 k3 k4 f0 f1 f2 f3 f4
              go_wp2_with (first
              |        (go_at_call 14; refine (HFr.out _ H6.out).mono ?_; rintro e w7 ⟨rfl, h7, hc7⟩; have H7 := hid h7; have C7 := hid hc7; clear h7 hc7)
              | (go_at_call 17; refine (HDi.out _ H7.out).mono ?_; rintro e w8 ⟨p8, c8, rfl, -, h8, hc8⟩; have H8 := hid h8; have C8 := hid hc8; clear h8 hc8))
              go_roundw
              case rel => exact ⟨k + 1, I.set ka out, by go_num, hlt, H8.out, HEm.out.1, HEm.out.2.1, HEm.out.2.2, ((N6.out.chg H6.out C7.out).chg H7.out C8.out).congr fun i _ => by
                  rw [Im.at_set]
                  by_cases e : i = ka
                  · subst e; simp
                  · rw [if_neg e, if_neg (show ¬ (i : Int) = ka by omega)]⟩
              case measure => simp [intOf]; omega
          · have hw1' : (what == 1) = false := by simpa using hw1
            by_cases hw2 : what = 2
            · subst hw2
              have hwg := HFit.out
              obtain ⟨OB, hOB⟩ : ∃ OB, wr.heap.size = OB := ⟨_, rfl⟩
              have hmlt : m < OB := hOB ▸ H.out.i.i.map.lt
              have hnlt : NB < OB := hOB ▸ H.out.now.lt
              obtain ⟨W1, hW, hg1, d0, d1, d2, d3, d4⟩ : ∃ W, wr.alloc (.cells #[.int .i64 2, .int .i64 a, .int .i64 bb, .int .u8 fl.toNat, .slice lp ll.length lc] 32) = W ∧ wr.grownBy W none ∧ W.cell? ⟨wr.heap.size, 0, none⟩ = some (.int .i64 2) ∧ W.cell? ⟨wr.heap.size, 1, none⟩ = some (.int .i64 a) ∧ W.cell? ⟨wr.heap.size, 2, none⟩ = some (.int .i64 bb) ∧ W.cell? ⟨wr.heap.size, 3, none⟩ = some (.int .u8 fl.toNat) ∧ W.cell? ⟨wr.heap.size, 4, none⟩ = some (.slice lp ll.length lc) :=
                ⟨_, rfl, World.grownBy_alloc _ _ _, by simp [go_sem], by simp [go_sem], by simp [go_sem], by simp [go_sem], by simp [go_sem]⟩
              rw [hOB] at d0 d1 d2 d3 d4
              have H1 := hid (H.out.more hg1)
              clear hwg hg1
              cases hs : I.is a with
              | false =>
                have HT := hid (cTrim H1.out.i a)
                rw [show I.trimE a = (I, 1) by unfold Im.trimE; rw [hs]; rfl] at HT
                obtain ⟨F, U, hsum, hFr, hDi⟩ := cFD H.out.i H.out.em
                have HFr := hid hFr
                have HDi := hid hDi
                clear hFr hDi hs
                go_wp2_with (first
                | (go_at_call 20; refine HT.out.mono ?_; rintro e w4 ⟨rfl, h4, hc4⟩; have H4 := hid (H1.out.chg h4 hc4); clear h4 hc4)
                | (go_at_call 14; refine (HFr.out _ H4.out.i).mono ?_; rintro e w7 ⟨rfl, h7, hc7⟩; have H7 := hid h7; have C7 := hid hc7; clear h7 hc7)
                | (go_at_call 17; refine (HDi.out _ H7.out).mono ?_; rintro e w8 ⟨p8, c8, rfl, -, h8, hc8⟩; have H8 := hid h8; have C8 := hid hc8; clear h8 hc8))
                go_roundw
                case rel => exact ⟨k + 1, I, by go_num, hlt, (H4.out.chg H7.out C7.out).chg H8.out C8.out⟩
                case measure => simp [intOf]; omega
              | true =>
                obtain ⟨hs0, hs1⟩ := Im.is_yes.1 hs
                obtain ⟨ka, rfl⟩ : ∃ ka : Nat, a = ka := ⟨a.toNat, by omega⟩
                rw [H.out.en] at hs1
                have hka : ka < n := by omega
                have HT := hid (cTrim H1.out.i (ka : Int))
                rw [show I.trimE ka = (I.clr ka, 0) by unfold Im.trimE; rw [if_pos hs]] at HT
                have HEm := hid (show (I.clr ka).n = n ∧ (I.clr ka).B = l ∧ (I.clr ka).most = K from ⟨H.out.en, H.out.eB, H.out.em⟩)
                have HBs := hid (show I.base ka = (l.drop (ka * 64)).take 64 by unfold Im.base; rw [H.out.eB]; simp)
                clear hs
                go_wp2_with (go_at_call 20; refine HT.out.mono ?_; rintro e w4 ⟨rfl, h4, hc4⟩; have H4 := hid h4; have N4 := hid (H1.out.now.chg H1.out.i hc4); have k1 := hc4.cell d1 (by simp; omega); clear h4 hc4)
                obtain ⟨q0, o0, rfl, hq0⟩ := HB.out 0 (by have := HLn.out; omega)
                have hq0' := World.block_lt_of_cell? w _ hq0
                have hsl := fun W => run_part W q0 o0 l.length c ka (by have := HLn.out; omega) HLC.out
                have HPt := hid ((HB.out.grown (H4.out.more (grownBy_drew w4 none)).g).part (k := ka) (by have := HLn.out; omega))
                have i1 : IntKind.i64.wrap ((ka : Int) * 64) = (ka : Int) * 64 := IntWalk.i64_in _ (by omega)
                have i2 : IntKind.i64.wrap ((ka : Int) + 1) = (ka : Int) + 1 := IntWalk.i64_in _ (by omega)
                have i3 : IntKind.i64.wrap (((ka : Int) + 1) * 64) = ((ka : Int) + 1) * 64 := IntWalk.i64_in _ (by omega)
                have H4d := hid (H4.out.more (grownBy_drew w4 none))
                have N4d := hid (N4.out.grown (grownBy_drew w4 none))
                clear hq0
                go_still_tail 13, (by kernel_rfl)
                change wpList _ _ _ _ _ w4.drew
                generalize w4.drew = w5 at *
                obtain ⟨p6, c6, hcell, -⟩ := N4d.out.cell hka
                have hfz := N4d.out.frozen ka
                obtain ⟨X6, hX6⟩ := N4d.out.row
                have H6 := hid (H4d.out.store hX6 HLo.out ka (.slice (some ⟨q0, o0 + ka * 64, none⟩) 64 (c - ka * 64)))
                have N6 := hid (N4d.out.set hka HPt.out (by rw [List.length_take, List.length_drop]; have := HLn.out; omega) (fun x e => by cases e; have := HLo.out; simp only at hq0' ⊢; omega) (c := c - ka * 64))
                obtain ⟨W6, hW6⟩ : ∃ W, w5.setCell ⟨NB, ka, none⟩ (.slice (some ⟨q0, o0 + ka * 64, none⟩) 64 (c - ka * 64)) = W := ⟨_, rfl⟩
                rw [hW6] at H6 N6
                obtain ⟨F, U, hsum, hFr, hDi⟩ := cFD H6.out HEm.out.2.2
                have HFr := hid hFr
                have HDi := hid hDi
                clear hFr hDi hX6 hsl
                go_wp2_with (first
                | (go_at_call 14; refine (HFr.out _ H6.out).mono ?_; rintro e w7 ⟨rfl, h7, hc7⟩; have H7 := hid h7; have C7 := hid hc7; clear h7 hc7)
                | (go_at_call 17; refine (HDi.out _ H7.out).mono ?_; rintro e w8 ⟨p8, c8, rfl, -, h8, hc8⟩; have H8 := hid h8; have C8 := hid hc8; clear h8 hc8))
                clear hW6
                go_roundw
                case rel => exact ⟨k + 1, I.clr ka, by go_num, hlt, H8.out, HEm.out.1, HEm.out.2.1, HEm.out.2.2, ((N6.out.chg H6.out C7.out).chg H7.out C8.out).congr fun i _ => by
                  rw [Im.at_clr]
                  by_cases e : i = ka
                  · subst e; simp [HBs.out]
                  · rw [if_neg e, if_neg (show ¬ (i : Int) = ka by omega)]⟩
                case measure => simp [intOf]; omega
            · have hw2' : (what == 2) = false := by simpa using hw2
              have hwg := HFit.out
              obtain ⟨OB, hOB⟩ : ∃ OB, wr.heap.size = OB := ⟨_, rfl⟩
              have hmlt : m < OB := hOB ▸ H.out.i.i.map.lt
              have hnlt : NB < OB := hOB ▸ H.out.now.lt
              obtain ⟨W1, hW, hg1, d0, d1, d2, d3, d4⟩ : ∃ W, wr.alloc (.cells #[.int .i64 what, .int .i64 a, .int .i64 bb, .int .u8 fl.toNat, .slice lp ll.length lc] 32) = W ∧ wr.grownBy W none ∧ W.cell? ⟨wr.heap.size, 0, none⟩ = some (.int .i64 what) ∧ W.cell? ⟨wr.heap.size, 1, none⟩ = some (.int .i64 a) ∧ W.cell? ⟨wr.heap.size, 2, none⟩ = some (.int .i64 bb) ∧ W.cell? ⟨wr.heap.size, 3, none⟩ = some (.int .u8 fl.toNat) ∧ W.cell? ⟨wr.heap.size, 4, none⟩ = some (.slice lp ll.length lc) :=
                ⟨_, rfl, World.grownBy_alloc _ _ _, by simp [go_sem], by simp [go_sem], by simp [go_sem], by simp [go_sem], by simp [go_sem]⟩
              rw [hOB] at d0 d1 d2 d3 d4
              have H1 := hid (H.out.more hg1)
              clear hwg hg1
              obtain ⟨F, U, hsum, hFr, hDi⟩ := cFD H.out.i H.out.em
              have HFr := hid hFr
              have HDi := hid hDi
              clear hFr hDi
              go_wp2_with (first
              | (go_at_call 14; refine (HFr.out _ H1.out.i).mono ?_; rintro e w7 ⟨rfl, h7, hc7⟩; have H7 := hid h7; have C7 := hid hc7; clear h7 hc7)
              | (go_at_call 17; refine (HDi.out _ H7.out).mono ?_; rintro e w8 ⟨p8, c8, rfl, -, h8, hc8⟩; have H8 := hid h8; have C8 := hid hc8; clear h8 hc8))
              go_roundw
              case rel => exact ⟨k + 1, I, by go_num, hlt, (H1.out.chg H7.out C7.out).chg H8.out C8.out⟩
              case measure => simp [intOf]; omega
        · obtain rfl : k = ops.length := by omega
          have hge : (ops.length : Int) ≤ ops.length := by omega
          go_wp2_with fail
          go_loopw [14] (fun i wx => ∃ j : Nat, i = .int .i64 j ∧ j ≤ n ∧ Inv w wx b g m NB n K l I) (fun i _ => n - (intOf i).toNat)
          case atStart => exact ⟨0, rfl, by omega, H.out⟩
          case round =>
            clear H hge
            obtain ⟨j, rfl, hj, hi⟩ := hrel
            have H := hid hi
            clear hi
            have hj0 : (0 : Int) ≤ j := by omega
            by_cases hjn : j < n
            · have hjn' : (j : Int) < n := by omega
              have hs : I.is j = true := Im.is_yes.2 ⟨hj0, by rw [H.out.en]; exact hjn'⟩
              have HBa := hid (cBase H.out.i (j : Int) hs)
              have HRd := hid (fun (w' : World) (h : IW w w' b g m I) => cRead h (j : Int) hs)
              have HBs := hid (show I.base j = (l.drop (j * 64)).take 64 by unfold Im.base; rw [H.out.eB]; simp)
              have HBl := hid (Im.base_len H.out.i.ok hs)
              have HAl := hid (Im.at_len H.out.i.ok hs)
              clear hs
              go_wp2_with (first
                | (go_at_call 21; refine HBa.out.mono ?_; rintro e w5 ⟨q5, c5, rfl, hb5, h5, hc5⟩; have H5 := hid (H.out.chg h5 hc5); have HB5 := hid hb5; clear hb5 h5 hc5)
                | (go_at_call 22; refine (HRd.out _ H5.out.i).mono ?_; rintro e w6 ⟨q6, c6, rfl, hb6, h6, hc6⟩; have H6 := hid (H5.out.chg h6 hc6); have HB5' := hid (H5.out.i.ba hc6 HB5.out); have HB6 := hid hb6; clear hb6 h6 hc6))
              obtain ⟨q0, o0, rfl, -⟩ := HB.out 0 (by have := HLn.out; omega)
              have hsl := fun W => run_part W q0 o0 l.length c j (by have := HLn.out; omega) HLC.out
              have HPt := hid ((HB.out.grown H6.out.i.g).part (k := j) (by have := HLn.out; omega))
              have i1 : IntKind.i64.wrap ((j : Int) * 64) = (j : Int) * 64 := IntWalk.i64_in _ (by omega)
              have i2 : IntKind.i64.wrap ((j : Int) + 1) = (j : Int) + 1 := IntWalk.i64_in _ (by omega)
              have i3 : IntKind.i64.wrap (((j : Int) + 1) * 64) = ((j : Int) + 1) * 64 := IntWalk.i64_in _ (by omega)
              obtain ⟨pn, cn, hcell, hnb, hnl⟩ := H6.out.now.cell hjn
              have HNb := hid hnb
              obtain ⟨S1, hS1⟩ : ∃ S : ByteArray, (⟨(I.base j).toArray⟩ : ByteArray) = S := ⟨_, rfl⟩
              obtain ⟨S2, hS2⟩ : ∃ S : ByteArray, (⟨(I.at j).toArray⟩ : ByteArray) = S := ⟨_, rfl⟩
              have v1 := fun N => (show (convert 22 9 (.slice q5 64 c5)).run Try.prog (w6.drewN N) = .ok (.string S1) (w6.drewN N) from by rw [← hS1]; exact conv64 (w := w6.drewN N) HB5'.out HBl.out c5)
              have v2 := fun N => (show (convert 22 9 (.slice (some ⟨q0, o0 + j * 64, none⟩) 64 (c - j * 64))).run Try.prog (w6.drewN N) = .ok (.string S1) (w6.drewN N) from by rw [← hS1, HBs.out]; exact conv64 (w := w6.drewN N) HPt.out (by rw [← HBs.out]; exact HBl.out) _)
              have v3 := fun N => (show (convert 22 9 (.slice q6 64 c6)).run Try.prog (w6.drewN N) = .ok (.string S2) (w6.drewN N) from by rw [← hS2]; exact conv64 (w := w6.drewN N) HB6.out HAl.out c6)
              have v4 := fun N => (show (convert 22 9 (.slice pn 64 cn)).run Try.prog (w6.drewN N) = .ok (.string S2) (w6.drewN N) from by rw [← hS2]; exact conv64 (w := w6.drewN N) HNb.out HAl.out cn)
              clear hnb hnl hS1 hS2
              go_quiet (fail)
              go_wp2
              go_roundw
              case rel => exact ⟨j + 1, by go_num, hjn, H6.out.more (grown_drewN _ _)⟩
              case measure => simp [intOf]; omega
            · obtain rfl : j = n := by omega
              have hge : (j : Int) ≤ j := by omega
              have HSe := hid (cSectors H.out.i)
              rw [H.out.en] at HSe
              go_wp2_with (first
                | (go_at_call 15; refine HSe.out.mono ?_; rintro e w' ⟨rfl, rfl⟩)
                | (go_at_call 19; refine (HA.out _).mono ?_; rintro e w9 ⟨rfl, g9⟩; have HG9 := hid (H.out.i.g.trans g9); clear g9))
              go_ret
              exact ⟨rfl, HG9.out⟩
theorem main {H : Type} {enc : TypeId × Value → H} (v0 v1 v2 : Value) (W : World) (c0 : Flat.Came enc Try.prog W 0 (fun _ => true) true 22 v0) (c1 : Flat.Came enc Try.prog W 0 (fun _ => true) true 3 v1) (c2 : Flat.Came enc Try.prog W 0 (fun _ => true) true 23 v2) :
    Calls Try.prog 4 #[v0, v1, v2] W fun e w' => e = .returned (.bool true) ∧ W.grownBy w' none := by
  obtain ⟨p, l, c, rfl, hb, hl, hn, hlc⟩ := came_bytes c0
  obtain ⟨k, rfl, _⟩ := c1.int Try.underlying3
  obtain ⟨pa, ops, cap, rfl, ho, hol⟩ := open_ops c2
  by_cases hcode : newC l.length k = 0
  · obtain ⟨n, -, -, h0, -⟩ := len_of hcode
    obtain ⟨K, rfl⟩ : ∃ K : Nat, k = K := ⟨k.toNat, by omega⟩
    exact walk_yes p l c K pa ops cap W hb hl hn hlc hcode ho hol
  · exact walk_no p l c k _ W hb hl hn hcode

theorem own : ownKnob Try.prog.godebug = none := by kernel_rfl
theorem laidOut : laidOutB Try.prog = true := by kernel_rfl

set_option maxRecDepth 100000 in
theorem lifted (os : Os) (started : os.Started) (H : Type) (enc : TypeId × Value → H) :
    ReturnsInHanded {} Try.checked os 4 .any (Rows.imageBaseSpec.pre6 enc Try.prog Try.f4 Rows.imageBaseRow.domain false) (Rows.imageBaseSpec.post enc Try.prog Try.f4 false true false false) := by
  refine returnsInHanded_of_change_sized (C := Try.checked) own started (by kernel_rfl) Try.func4
    (ChangeSpec.witness6 (enc := enc) (C := Try.checked) false ⟨#[], #[.slice none 0 0, .int .i64 0, .slice none 0 0], []⟩ 8 (by kernel_rfl) (by kernel_rfl) (by kernel_rfl) (by kernel_rfl)) ?_
  intro W base args ds gs before hval0 hW _ hsz0 _
  have hsz : (DataW.weightsEach Try.prog (Try.f4.params.toList ++ Rows.imageBaseSpec.plain.varTypes Try.prog) (ds ++ gs)).all (· ≤ reachBytes) = true := hsz0
  clear hsz0
  have hval : ∀ (j : Nat) t v, Try.f4.params[j]? = some t → args[j]? = some v → Value.okWide Try.prog W .any base t v := hval0
  have hW' := hW
  obtain ⟨p, q, hA0, hV, rfl, hfz, hnd⟩ := hW
  have hA : DataW.TrodAll enc Try.prog W 0 (fun _ => true) true Try.f4.params.toList args.toList ds p := hA0
  rw [Try.params4] at hA hval hsz
  obtain ⟨v0, vs0, d0, ds0, p0, q0, hargs, rfl, rfl, h0, r0⟩ := trodAll_cons hA
  obtain ⟨v1, vs1, d1, ds1, p1, q1, rfl, rfl, rfl, h1, r1⟩ := trodAll_cons r0
  obtain ⟨v2, vs2, d2, ds2, p2, q2, rfl, rfl, rfl, h2, r2⟩ := trodAll_cons r1
  obtain ⟨rfl, rfl, rfl⟩ := trodAll_nil r2
  obtain rfl : args = #[v0, v1, v2] := by cases args; simp_all
  obtain ⟨rfl, rfl⟩ := trodVars_none hV
  obtain ⟨ps0, ln0, cp0, rfl⟩ := okWide_slice Try.underlying22 (hval 0 22 v0 rfl rfl)
  have k0 := h0
  have lt0 : ∀ x ∈ p0, x.block < W.heap.size := by obtain ⟨m, hm⟩ := k0; exact DataW.trod_lt m _ _ _ hm
  have c0 : Flat.Came enc Try.prog W 0 (fun _ => true) true 22 (.slice ps0 ln0 cp0) := by
    obtain ⟨fuel, hf⟩ := h0
    exact ⟨fuel, _, hf, fun n hn => by
      have := List.all_eq_true.1 hsz n (DataW.weights_mem_each (j := 0) rfl rfl n hn)
      simpa using this⟩
  obtain ⟨a1, rfl, rfl, rfl, w1⟩ := open_int Try.underlying3 (hval 1 3 v1 rfl rfl) h1
  have k1 := h1
  have lt1 : ∀ x ∈ ([] : List MemPlace), x.block < W.heap.size := by obtain ⟨m, hm⟩ := k1; exact DataW.trod_lt m _ _ _ hm
  have c1 : Flat.Came enc Try.prog W 0 (fun _ => true) true 3 (.int .i64 a1) := by
    obtain ⟨fuel, hf⟩ := h1
    exact ⟨fuel, _, hf, fun n hn => by
      have := List.all_eq_true.1 hsz n (DataW.weights_mem_each (j := 1) rfl rfl n hn)
      simpa using this⟩
  obtain ⟨ps2, ln2, cp2, rfl⟩ := okWide_slice Try.underlying23 (hval 2 23 v2 rfl rfl)
  have k2 := h2
  have lt2 : ∀ x ∈ p2, x.block < W.heap.size := by obtain ⟨m, hm⟩ := k2; exact DataW.trod_lt m _ _ _ hm
  have c2 : Flat.Came enc Try.prog W 0 (fun _ => true) true 23 (.slice ps2 ln2 cp2) := by
    obtain ⟨fuel, hf⟩ := h2
    exact ⟨fuel, _, hf, fun n hn => by
      have := List.all_eq_true.1 hsz n (DataW.weights_mem_each (j := 2) rfl rfl n hn)
      simpa using this⟩
  clear hA0 hval0
  refine (main (.slice ps0 ln0 cp0) (.int .i64 a1) (.slice ps2 ln2 cp2) W c0 c1 c2).mono fun e W' ⟨he, hg⟩ => ?_
  subst he
  have bel := below_grown' hg
  simp only [List.append_nil, List.nil_append] at hW'
  exact ⟨_, rfl, _, _, _, [], _, [], hW', trodAll_mk1 (shut_bool Try.underlying4 _), (trodAll_cons_mk (Below.trod laidOut (by kernel_rfl) (of_decide_eq_true (by kernel_rfl)) k0 bel lt0) (trodAll_cons_mk (Below.trod laidOut (by kernel_rfl) (of_decide_eq_true (by kernel_rfl)) k1 bel lt1) (trodAll_cons_mk (Below.trod laidOut (by kernel_rfl) (of_decide_eq_true (by kernel_rfl)) k2 bel lt2) trodAll_mk0))), rfl, bel.frame _, fun h => by cases h⟩

theorem proved : Rows.ImageBaseSaid :=
  OpenClaim.holds_of_wide 4 Try.f4 rfl rfl rfl rfl rfl rfl rfl ⟨rfl, rfl, rfl, rfl, rfl⟩ rfl rfl rfl rfl rfl (by kernel_rfl) Try.func4 (by kernel_rfl)
    (of_decide_eq_true (by kernel_rfl)) (by unfold Func.isWrapper; first | (rw [if_pos (by decide +kernel)]; kernel_rfl) | (rw [if_neg (by decide +kernel)]; exact ⟨rfl, rfl⟩))
    (fun os started H enc _ => lifted os started H enc)
#print axioms proved
end Go.Proofs.Ytcogchalfdeagaa.lawImBase
