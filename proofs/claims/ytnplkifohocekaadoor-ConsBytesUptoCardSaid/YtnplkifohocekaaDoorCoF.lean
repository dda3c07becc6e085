/-
  Package cons: a ring's numbers move on; Feed.
-/
import Derived.Test.YtnplkifohocekaaDoorCoV
import Derived.Deep.CutBlock
import Derived.Deep.DeepCutAuto
set_option linter.unusedSimpArgs false
set_option linter.unusedVariables false
namespace Go.Proofs.YtnplkifohocekaaDoor.Co
open Go.RowKit Go.Lib Go.Proofs.YtnplkifohocekaaDoor.Bk
set_option maxHeartbeats 2000000
/-- a number's two bytes -/
def two (n : Nat) : List UInt8 := [UInt8.ofNat (n % 256), UInt8.ofNat (n / 256 % 256)]
theorem two_len (n : Nat) : (two n).length = 2 := rfl
variable {w w' : World} {V G B C : Nat} {S : Nat → Prop} {l : List PokeV} {n T : Nat} {M M' : Mach} {X mfn : Int} {tk pt : Nat} {L R : Value}
set_option maxRecDepth 100000 in
theorem cMoved (h : FW w V G B C S l n T M X mfn tk L R pt) (k own cnt own' tk' pt' at_ : Nat) (hc : w.cell? ⟨C, k, none⟩ = some (.int .u16 own)) (how : own < 65536) (hcnt : cnt ≤ 128) (ho' : own' = (own + cnt) % 65536)
    (hv : cnV mfn tk' L R pt' k = .int .u16 own') (hoth : ∀ j, j < 6 → j ≠ k → cnV mfn tk' L R pt' j = cnV mfn tk L R pt j) (hat : at_ ≤ 256) :
    Calls Tryd.prog 76 #[.pointer (some ⟨C, k, none⟩), .pointer (some ⟨V, 0, none⟩), .int .i64 mfn, .int .i64 (at_ : Int), .int .i64 cnt] w fun e w' => e = .returned (.tuple #[]) ∧
      FW w' V G B C S l n T (M.write mfn at_ (two own')).2 X mfn tk' L R pt' ∧ Chg (fset V G B C) w w' := by
  have fz := h.con.frozen k
  obtain ⟨h1, hc1⟩ := h.set (k := k) (v := .int .u16 own') hv hoth
  have hk6 : k < 6 := by
    rcases Nat.lt_or_ge k 6 with h6 | h6
    · exact h6
    · exfalso
      match k, h6 with
      | k + 6, _ => simp [cnV, undef] at hv
  have HKV := hid (show ∀ W2 M2, FW W2 V G B C S l n T M2 X mfn tk' L R pt' → W2.cell? ⟨C, k, none⟩ = some (.int .u16 own') from fun W2 M2 hf => by rw [hf.con.cell hk6, hv])
  have hd := HKV.out _ _ h1
  clear hk6
  have e1 : IntKind.u16.wrap (cnt : Int) = cnt := by simp [IntKind.wrap_u16]; omega
  have e2 : IntKind.u16.wrap ((own : Int) + cnt) = own' := by simp [IntKind.wrap_u16]; omega
  have ho2 : own' < 65536 := by omega
  obtain ⟨W1, hW1⟩ : ∃ W1, w.setCell ⟨C, k, none⟩ (.int .u16 own') = W1 := ⟨_, rfl⟩
  rw [hW1] at h1 hc1 hd
  have H1 := hid h1
  have HC1 := hid hc1
  have hcni : (cnt : Int) ≤ 128 := by omega
  clear h1 hc1 hv hoth ho' h
  go_enter Tryd.func76, Tryd.ntmps76
  obtain ⟨q1, hq1⟩ : ∃ q, own' % 256 = q := ⟨_, rfl⟩
  obtain ⟨q2, hq2⟩ : ∃ q, own' / 256 % 256 = q := ⟨_, rfl⟩
  have e3 : IntKind.u8.wrap (own' : Int) = q1 := by simp [IntKind.wrap_u8]; omega
  have e4 : IntKind.u8.wrap ((own' : Int) / 256) = q2 := by simp [IntKind.wrap_u8]; omega
  have ho2i : (own' : Int) ≤ 65535 := by omega
  have HWR := hid (show ∀ A : World, A.cell? ⟨W1.heap.size, 0, none⟩ = some (.int .u8 q1) → A.cell? ⟨W1.heap.size, 1, none⟩ = some (.int .u8 q2) → W1.grownBy A none → Calls Tryd.prog 77 #[.pointer (some ⟨V, 0, none⟩), .int .i64 mfn, .int .i64 (at_ : Int), .slice (some ⟨W1.heap.size, 0, none⟩) 2 2] A fun e w' => (∃ r, e = .returned (.int .i64 r)) ∧
      FW w' V G B C S l n T (M.write mfn at_ (two own')).2 X mfn tk' L R pt' ∧ Chg (fset V G B C) A w' from fun A c0 c1 hg => by
    have HA := H1.out.grown hg
    obtain ⟨f, hv⟩ := HA.view
    have hlt := H1.out.lt B (.inr (.inr (.inl rfl)))
    refine (vWrite V G B S l n T f mfn at_ _ (two own') A M X hv HA.mach HA.ok (by omega) (.inr ⟨⟨W1.heap.size, 0, none⟩, 2, rfl, (by show W1.heap.size ≠ B; omega), fun j x hj => ?_⟩) (by rw [two_len]; omega)).mono ?_
    · have hj2 : j < (two own').length := (List.getElem?_eq_some_iff.1 hj).1
      rw [two_len] at hj2
      have ea : (⟨W1.heap.size, 0, none⟩ : Addr).add j = ⟨W1.heap.size, j, none⟩ := by unfold Addr.add; split <;> simp_all
      rw [ea]
      rcases (show j = 0 ∨ j = 1 by omega) with rfl | rfl
      · simp only [two, List.getElem?_cons_zero, Option.some.injEq] at hj
        subst hj
        rw [c0, UInt8.toNat_ofNat', ← hq1]
        simp
      · simp only [two, List.getElem?_cons_succ, List.getElem?_cons_zero, Option.some.injEq] at hj
        subst hj
        rw [c1, UInt8.toNat_ofNat', ← hq2]
        simp
    · rintro e w' ⟨rfl, hm, hg2⟩
      obtain ⟨x, y⟩ := HA.left hm hg2 (Mach.write_ok HA.ok _ _ _)
      exact ⟨⟨_, rfl⟩, x, y⟩)
  have hz := World.grownBy_alloc W1.drew (Obj.cells #[.int .u8 q1, .int .u8 q2] 5) none
  have HR1 := hid (HWR.out (W1.drew.alloc (Obj.cells #[.int .u8 q1, .int .u8 q2] 5)) ((Lib.cell_of_heap (MapKept.heap_alloc W1.drew (Obj.cells #[.int .u8 q1, .int .u8 q2] 5)).1 0).trans rfl) ((Lib.cell_of_heap (MapKept.heap_alloc W1.drew (Obj.cells #[.int .u8 q1, .int .u8 q2] 5)).1 1).trans rfl) ((Gen.grownBy_drew W1 none).trans hz))
  have HZ := hid hz
  have HG := hid ((Gen.grownBy_drew W1 none).trans hz)
  have HT := hid (show ∀ ob, (W1.alloc ob).cell? ⟨C, k, none⟩ = some (.int .u16 own') from fun ob => (World.grownBy_alloc W1 ob none).cell hd (by simp))
  have ht := HT.out
  clear hq1 hq2 hz
  go_upto_region 1 with fail
  go_region_held3 (fun W' => W'.cell? ⟨C, k, none⟩ = some (.int .u16 own')) (first | assumption | exact ht _ | go_keep)
    (first
    | (go_at_call 77; (refine HR1.out.mono ?_); rintro e w2 ⟨⟨r2, rfl⟩, hf2, hc2⟩; have HF2 := hid hf2; have HC2 := hid hc2; have d2 := HKV.out _ _ hf2; clear hf2 hc2)
    | fail)
  all_goals
    go_wp2
    go_end0
    exact ⟨rfl, HF2.out, HC1.out.trans ((Chg.of0 (S := fset V G B C) HG.out).trans HC2.out fun k hk => .inl hk) fun k hk => .inl hk⟩
theorem BA.sub0 {p : Option Addr} {b : List UInt8} (h : BA w p b) (n : Nat) : BA w p (b.take n) := fun k hk => by
  rw [List.length_take] at hk
  obtain ⟨g, o, e, hc⟩ := h k (by omega)
  refine ⟨g, o, e, hc.trans ?_⟩
  rw [List.getD_eq_getElem?_getD, List.getD_eq_getElem?_getD, List.getElem?_take, if_pos (by omega)]
theorem cut_from (p : Option Addr) (len c k : Nat) (hk : k ≤ len) (hlc : len ≤ c) : ∃ q c', (∀ W, (Instr.slice 22 (.slice p len c) (some (.int .i64 (k : Int))) none none).run Tryd.prog W = .ok (.slice q (len - k) c') W) ∧
    (∀ (w : World) (b : List UInt8), b.length = len → BA w p b → BA w q (b.drop k)) ∧ (∀ a, q = some a → ∃ a', p = some a' ∧ a'.block = a.block) := by
  have i5 := u8_size
  cases h5 : Tryd.prog.info? 5 with
  | none => rw [h5] at i5; cases i5
  | some x =>
  rw [h5] at i5
  simp only [Option.map_some, Option.some.injEq] at i5
  have hel : Tryd.prog.elem 22 = 5 := by kernel_rfl
  refine ⟨if c = k then p else p.map (·.add k), c - k, fun W => ?_, fun w b hb h => ?_, fun a ha => ?_⟩
  · rw [run_slice_l (P := Tryd.prog) W 22 p len c (by rw [hel]; exact Tryd.underlying22) .i64 (k : Int) (by omega) (by omega), hel]
    simp [sizeOf, typeInfo, h5, i5, sliced, Result.andThen]
  · by_cases hkl : k = len
    · rw [hkl, ← hb, List.drop_length]
      exact BA.nil _ _
    · obtain ⟨g, o, rfl⟩ := h.ptr (by omega)
      have hs := h.sub k (b.length - k) (by omega)
      rw [List.take_of_length_le (by rw [List.length_drop]; exact Nat.le_refl _)] at hs
      split
      · rename_i hck
        omega
      · have e : (⟨g, o, none⟩ : Addr).add k = ⟨g, o + k, none⟩ := by unfold Addr.add; split <;> simp_all
        simpa [e] using hs
  · split at ha
    · exact ⟨a, ha, rfl⟩
    · cases p with
      | none => simp at ha
      | some a' =>
        simp only [Option.map_some, Option.some.injEq] at ha
        exact ⟨a', rfl, by rw [← ha]; unfold Addr.add; split <;> rfl⟩
/-- how many of so many bytes have room -/
def fedN (pt ix n : Nat) : Nat := min n (64 - (pt + 65536 - ix) % 65536)
/-- what Feed leaves of the machine -/
def feedM (M : Mach) (mfn : Int) (pt k : Nat) (b : List UInt8) : Mach :=
  (((M.write mfn ((160 + pt % 64 : Nat) : Int) (b.take (min k (64 - pt % 64)))).2.write mfn ((160 : Nat) : Int) ((b.take k).drop (min k (64 - pt % 64)))).2.write mfn ((6 : Nat) : Int) (two ((pt + k) % 65536))).2
theorem wordOf_lt (r : List UInt8 × Int) : ∃ ix : Nat, wordOf r = ix ∧ ix < 65536 := by
  unfold wordOf
  split
  · rename_i x y
    have h1 := UInt8.toNat_lt x
    have h2 := UInt8.toNat_lt y
    exact ⟨x.toNat + 256 * y.toNat, by omega, by omega⟩
  · exact ⟨0, rfl, by omega⟩
theorem read_err (M : Mach) (i off k : Int) : (M.read i off k).2 = 0 ∨ (M.read i off k).2 = 1 := by
  unfold Mach.read
  split
  · exact .inr rfl
  · split
    · exact .inr rfl
    · exact .inl rfl
set_option maxRecDepth 100000 in
/-- the view writes bytes that stand far off -/
theorem vWr (h : FW w V G B C S l n T M X mfn tk L R pt) (off : Nat) (p : Option Addr) (c : Nat) (b : List UInt8) (hoff : off ≤ 1000) (hb : BA w p b) (hf : Far V G B C p b.length) (hmax : b.length ≤ 140737488355328) :
    Calls Tryd.prog 77 #[.pointer (some ⟨V, 0, none⟩), .int .i64 mfn, .int .i64 (off : Int), .slice p b.length c] w fun e w' => (∃ r, e = .returned (.int .i64 r)) ∧ FW w' V G B C S l n T (M.write mfn off b).2 X mfn tk L R pt ∧ Chg (fset V G B C) w w' := by
  obtain ⟨f, hv⟩ := h.view
  refine (vWrite V G B S l n T f mfn off _ b w M X hv h.mach h.ok (by omega) (Co.BA.is hb c fun a ha h0 e => hf a ha h0 (.inr (.inr (.inl e)))) (by omega)).mono ?_
  rintro e w' ⟨rfl, hm, hg⟩
  obtain ⟨x, y⟩ := h.left hm hg (Mach.write_ok h.ok _ _ _)
  exact ⟨⟨_, rfl⟩, x, y⟩
/-- Feed of a ring -/
def FeedPost (w : World) (V G B C : Nat) (S : Nat → Prop) (l : List PokeV) (n T : Nat) (M : Mach) (X mfn : Int) (tk : Nat) (L R : Value) (pt : Nat) (b : List UInt8) (e : Ending) (w' : World) : Prop :=
  ∃ r, (M.rews (due l n)).read mfn 4 2 = r ∧ Chg (fset V G B C) w w' ∧
    ((r.2 ≠ 0 ∧ e = .returned (.tuple #[.int .i64 0, .int .i64 r.2]) ∧ FW w' V G B C S l (n + 1) T (M.rews (due l n)) X mfn tk L R pt) ∨
     (r.2 = 0 ∧ ∃ ix k : Nat, wordOf r = ix ∧ k = fedN pt ix b.length ∧ e = .returned (.tuple #[.int .i64 k, .int .i64 0]) ∧ FW w' V G B C S l (n + 1) T (feedM (M.rews (due l n)) mfn pt k b) X mfn tk L R ((pt + k) % 65536)))
set_option maxRecDepth 100000 in
theorem cFeedR (h : FW w V G B C S l n T M X mfn tk L R pt) (hf : ∀ p ∈ l, p.fits) (hn : (n : Int) < 9223372036854775807) (hll : l.length ≤ 64) (hpt : pt < 65536) (p : Option Addr) (c : Nat) (b : List UInt8) (hb : BA w p b) (hbc : b.length ≤ c) (hpc : p = none → c = 0) (hfar : Far V G B C p b.length) (hbl : b.length ≤ 140737488355328) :
    Calls Tryd.prog 50 #[.pointer (some ⟨C, 5, none⟩), .pointer (some ⟨V, 0, none⟩), .int .i64 mfn, .slice p b.length c] w (FeedPost w V G B C S l n T M X mfn tk L R pt b) := by
  obtain ⟨f, hv⟩ := h.view
  have HW := hid (vWord V G B S l n T f mfn 4 w M X hv h.mach h.ok hf hn hll (by decide))
  obtain ⟨r, hr⟩ : ∃ r, (M.rews (due l n)).read mfn 4 2 = r := ⟨_, rfl⟩
  rw [hr] at HW
  have HR := hid hr
  have hre := read_err (M.rews (due l n)) mfn 4 2
  rw [hr] at hre
  obtain ⟨ix, hix, hixl⟩ := wordOf_lt r
  rw [hix] at HW
  have HIX := hid hix
  have HH := hid h
  have HB := hid hb
  clear hr hix h hv hb
  rcases hre with h0 | h1
  · have HR0 := hid h0
    rw [h0] at HW
    clear h0
    obtain ⟨hd, hhd⟩ : ∃ hd, (pt + 65536 - ix) % 65536 = hd := ⟨_, rfl⟩
    have hhdl : hd < 65536 := by omega
    obtain ⟨k, hk⟩ : ∃ k, fedN pt ix b.length = k := ⟨_, rfl⟩
    have hkd : min b.length (64 - hd) = k := by rw [← hk, ← hhd]; rfl
    have hkb : k ≤ b.length := by omega
    have hk64 : k ≤ 64 := by omega
    obtain ⟨st, hst⟩ : ∃ st, min k (64 - pt % 64) = st := ⟨_, rfl⟩
    have hstk : st ≤ k := by omega
    have e1 : IntKind.u16.wrap ((pt : Int) - ix) = hd := by simp [IntKind.wrap_u16]; omega
    have e2 : min (b.length : Int) (max (64 - (hd : Int)) 0) = k := by omega
    have hdi : (hd : Int) ≤ 65535 := by omega
    have s1 := cut_to p b.length c k (by omega) hpc
    have s2 := cut_to p k c st (by omega) hpc
    obtain ⟨q, c3, s3, hq, hqp⟩ := cut_from p k c st hstk (by omega)
    have HQ := hid hq
    have HFq := hid (show Far V G B C q ((b.take k).drop st).length from fun a ha h0 => by obtain ⟨a', h1, h2⟩ := hqp a ha; rw [← h2]; exact hfar a' h1 (by rw [List.length_drop, List.length_take] at h0; omega))
    have HFs := hid (show Far V G B C p (b.take st).length from fun a ha h0 => hfar a ha (by rw [List.length_take] at h0; omega))
    have HK := hid hk.symm
    obtain ⟨pl, hpl⟩ : ∃ pl, pt % 64 = pl := ⟨_, rfl⟩
    have HPL := hid hpl
    have hpl64 : pl < 64 := by omega
    have hpli : (pl : Int) ≤ 63 := by omega
    have HSTd := hid hst
    have htl : (b.take st).length = st := by rw [List.length_take]; omega
    have hdl : ((b.take k).drop st).length = k - st := by rw [List.length_drop, List.length_take]; omega
    have HTL := hid htl
    have HDL := hid hdl
    have hkbi : (k : Int) ≤ 64 := by omega
    have hsti : (st : Int) ≤ 64 := by omega
    clear hq hqp hkd hhd hst htl hdl hpl
    go_enter Tryd.func50, Tryd.ntmps50
    go_wp2_with (first
      | (go_at_call 72; refine HW.out.mono ?_; rintro e w1 ⟨rfl, hr1⟩; obtain ⟨hf1, hc1⟩ := HH.out.read hr1; have HF1 := hid hf1; have HC1 := hid hc1; have c5 : w1.cell? ⟨C, 5, none⟩ = some (.int .u16 (pt : Int)) := hf1.con.cell (k := 5) (by omega); have HRC := hid (show Calls Tryd.prog 73 #[.pointer (some ⟨C, 5, none⟩), .int .i64 (k : Int), .int .i64 64] w1 fun e w' => e = .returned (.tuple #[.int .i64 (pl : Int), .int .i64 (st : Int)]) ∧ w1 = w' from (by rw [← HSTd.out, ← HPL.out]; exact cReach C 5 pt k 64 w1 c5 hpt (by omega) (.inl rfl))); have HV1 := hid (show Calls Tryd.prog 77 #[.pointer (some ⟨V, 0, none⟩), .int .i64 mfn, .int .i64 (160 + (pl : Int)), .slice p st c] w1 fun e w' => (∃ r, e = .returned (.int .i64 r)) ∧ FW w' V G B C S l (n + 1) T ((M.rews (due l n)).write mfn ((160 + pl : Nat) : Int) (b.take st)).2 X mfn tk L R pt ∧ Chg (fset V G B C) w1 w' from (by have := vWr hf1 (160 + pl) p c (b.take st) (by omega) (Co.BA.sub0 (Co.BA.chg HB.out HC1.out hfar) st) HFs.out (by rw [HTL.out]; omega); rw [HTL.out] at this; simpa using this)); clear hr1 hf1 hc1)
      | (go_at_call 73; (with_reducible refine HRC.out.mono ?_); rintro e w9 ⟨rfl, hw9⟩; subst w9)
      | (go_at_call 77; first
        | ((with_reducible refine HV1.out.mono ?_); rintro e w2 ⟨⟨r2, rfl⟩, hf2, hc2⟩; have HC2 := hid (HC1.out.trans hc2 fun k hk => .inl hk); have HV2 := hid (show Calls Tryd.prog 77 #[.pointer (some ⟨V, 0, none⟩), .int .i64 mfn, .int .i64 160, .slice q (k - st) c3] w2 fun e w' => (∃ r, e = .returned (.int .i64 r)) ∧ FW w' V G B C S l (n + 1) T (((M.rews (due l n)).write mfn ((160 + pl : Nat) : Int) (b.take st)).2.write mfn ((160 : Nat) : Int) ((b.take k).drop st)).2 X mfn tk L R pt ∧ Chg (fset V G B C) w2 w' from (by have := vWr hf2 160 q c3 ((b.take k).drop st) (by omega) (HQ.out w2 (b.take k) (by rw [List.length_take]; omega) (Co.BA.sub0 (Co.BA.chg HB.out HC2.out hfar) k)) HFq.out (by rw [HDL.out]; omega); rw [HDL.out] at this; exact this)); clear hf2 hc2)
        | ((with_reducible refine HV2.out.mono ?_); rintro e w3 ⟨⟨r3, rfl⟩, hf3, hc3⟩; have HC3 := hid (HC2.out.trans hc3 fun k hk => .inl hk); have c53 : w3.cell? ⟨C, 5, none⟩ = some (.int .u16 (pt : Int)) := hf3.con.cell (k := 5) (by omega); have HMV := hid (show Calls Tryd.prog 76 #[.pointer (some ⟨C, 5, none⟩), .pointer (some ⟨V, 0, none⟩), .int .i64 mfn, .int .i64 6, .int .i64 (k : Int)] w3 fun e w' => e = .returned (.tuple #[]) ∧ FW w' V G B C S l (n + 1) T _ X mfn tk L R ((pt + k) % 65536) ∧ Chg (fset V G B C) w3 w' from cMoved hf3 5 pt k ((pt + k) % 65536) tk ((pt + k) % 65536) 6 c53 hpt (by omega) rfl rfl (fun j hj hne => by match j, hj with | 0, _ => rfl | 1, _ => rfl | 2, _ => rfl | 3, _ => rfl | 4, _ => rfl | 5, _ => exact absurd rfl hne) (by omega)); clear hf3 hc3)
        | fail)
      | (go_at_call 76; (with_reducible refine HMV.out.mono ?_); rintro e w4 ⟨rfl, hf4, hc4⟩; have HF4 := hid hf4; have HC4 := hid (HC3.out.trans hc4 fun k hk => .inl hk); clear hf4 hc4)
      | fail)
    go_ret2
    refine ⟨r, HR.out, HC4.out, .inr ⟨HR0.out, ix, k, HIX.out, HK.out, rfl, ?_⟩⟩
    have hf := HF4.out
    unfold feedM
    rw [HSTd.out, HPL.out]
    exact hf
  · have HR0 := hid h1
    rw [h1] at HW
    clear h1
    go_enter Tryd.func50, Tryd.ntmps50
    go_wp2_with (first
      | (go_at_call 72; refine HW.out.mono ?_; rintro e w1 ⟨rfl, hr1⟩; obtain ⟨hf1, hc1⟩ := HH.out.read hr1; have HF1 := hid hf1; have HC1 := hid hc1; clear hr1 hf1 hc1)
      | fail)
    go_ret2
    exact ⟨r, HR.out, HC1.out, .inl ⟨by rw [HR0.out]; decide, by rw [HR0.out]; rfl, HF1.out⟩⟩
theorem cSees (h : FW w V G B C S l n T M X mfn tk L R pt) : Calls Tryd.prog 48 #[.pointer (some ⟨C, 0, none⟩), .pointer (some ⟨V, 0, none⟩)] w fun e w' => e = .returned (.bool true) ∧ w' = w := by
  obtain ⟨f, hv⟩ := h.view
  have c1 : w.cell? ⟨C, 1, none⟩ = some (.bool true) := h.con.cell (k := 1) (by omega)
  have HM := hid (vMachine V G B S l n T f w hv)
  have HE := hid (cEx C true w c1)
  clear h hv
  go_enter Tryd.func48, Tryd.ntmps48
  go_wp2_with (first
    | (go_at_call 42; (with_reducible refine HE.out.mono ?_); rintro e w' ⟨rfl, hw⟩; subst w')
    | (go_at_call 71; (with_reducible refine HM.out.mono ?_); rintro e w' ⟨rfl, hw⟩; subst w')
    | fail)
  go_ret
  exact ⟨rfl, rfl⟩
theorem FeedPost.c0 {b : List UInt8} {e : Ending} (h : FeedPost w V G B C S l n T M X mfn tk L R pt b e w') : w'.cell? ⟨C, 0, none⟩ = some (.int .i64 mfn) := by
  obtain ⟨r, _, _, h⟩ := h
  rcases h with ⟨_, _, h⟩ | ⟨_, _, _, _, _, _, h⟩
  · exact h.con.cell (k := 0) (by omega)
  · exact h.con.cell (k := 0) (by omega)
theorem FeedPost.two {b : List UInt8} {e : Ending} (h : FeedPost w V G B C S l n T M X mfn tk L R pt b e w') : ∃ x y : Int, e = .returned (.tuple #[.int .i64 x, .int .i64 y]) := by
  obtain ⟨r, _, _, h⟩ := h
  rcases h with ⟨_, e, _⟩ | ⟨_, _, _, _, _, e, _⟩
  · exact ⟨_, _, e⟩
  · exact ⟨_, _, e⟩
theorem FeedPost.first {w0 : World} {b : List UInt8} {e : Ending} (h : FeedPost w V G B C S l n T M X mfn tk L R pt b e w') (hg : w0.grownBy w none) : FeedPost w0 V G B C S l n T M X mfn tk L R pt b e w' := by
  obtain ⟨r, h1, h2, h⟩ := h
  exact ⟨r, h1, (Chg.of0 (S := fset V G B C) hg).trans h2 fun k hk => .inl hk, h⟩
set_option maxRecDepth 100000 in
theorem cFeed (h : FW w V G B C S l n T M X mfn tk L R pt) (hf : ∀ p ∈ l, p.fits) (hn : (n : Int) < 9223372036854775807) (hll : l.length ≤ 64) (hpt : pt < 65536) (p : Option Addr) (c : Nat) (b : List UInt8) (hb : BA w p b) (hbc : b.length ≤ c) (hpc : p = none → c = 0) (hfar : Far V G B C p b.length) (hbl : b.length ≤ 140737488355328) :
    Calls Tryd.prog 24 #[.pointer (some ⟨C, 0, none⟩), .pointer (some ⟨V, 0, none⟩), .slice p b.length c] w (FeedPost w V G B C S l n T M X mfn tk L R pt b) := by
  have c0 : w.cell? ⟨C, 0, none⟩ = some (.int .i64 mfn) := h.con.cell (k := 0) (by omega)
  have HS := hid (cSees h)
  have HF := hid (cFeedR (h.grown (Gen.grownBy_drew w none)) hf hn hll hpt p c b (hb.grown (Gen.grownBy_drew w none)) hbc hpc hfar hbl)
  have HL := hid h.lt
  clear h hf hb
  go_enter Tryd.func24, Tryd.ntmps24
  go_upto_region 3 with (first
    | (go_at_call 48; (with_reducible refine HS.out.mono ?_); rintro e w' ⟨rfl, hw⟩; subst w')
    | fail)
  go_region_held3 (fun W' => W'.cell? ⟨C, 0, none⟩ = some (.int .i64 mfn)) (first | assumption | go_keep)
    (first
    | (go_at_call 50; (with_reducible refine HF.out.mono ?_); intro e w2 hp; obtain ⟨x, y, rfl⟩ := hp.two; have HP := hid hp; have d0 := hp.c0; clear hp)
    | fail)
  all_goals
    go_wp2
    go_ret2
    exact HP.out.first (Gen.grownBy_drew w none)
end Go.Proofs.YtnplkifohocekaaDoor.Co
