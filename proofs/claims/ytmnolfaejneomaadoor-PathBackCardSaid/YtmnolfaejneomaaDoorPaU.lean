/-
  Package path: Text.
-/
import Derived.Test.YtmnolfaejneomaaDoorPaT
import Derived.Lib.OthersKept
set_option linter.unusedSimpArgs false
set_option linter.unusedVariables false
namespace Go.Proofs.YtmnolfaejneomaaDoor
open Go.RowKit
set_option maxHeartbeats 2000000
def okAt (l : List PD) (k : Nat) : Bool := domB (l.getD k (0, false, false)).1 && !hasV (l.take k) (l.getD k (0, false, false)).1
def partV (d : PD) : List UInt8 := [UInt8.ofNat (letV d), UInt8.ofNat (48 + d.1.toNat)]
def tacc (l : List PD) : Nat → List UInt8
  | 0 => []
  | k + 1 => tacc l k ++ (if 0 < k then [44] else []) ++ partV (l.getD k (0, false, false))
def txV (l : List PD) : List UInt8 × Nat := if l = [] ∨ 8 < l.length then ([], 1) else if ∀ k, k < l.length → okAt l k = true then (tacc l l.length, 0) else ([], 1)
theorem tacc_len (l : List PD) : ∀ k, (tacc l k).length ≤ 3 * k
  | 0 => Nat.le_refl _
  | k + 1 => by
    have := tacc_len l k
    rw [tacc]
    simp only [List.length_append, partV, List.length_cons, List.length_nil]
    split <;> simp <;> omega
theorem txV_no {l : List PD} {k : Nat} (h8 : ¬ (l = [] ∨ 8 < l.length)) (hk : k < l.length) (h : okAt l k = false) : txV l = ([], 1) := by
  unfold txV
  rw [if_neg h8, if_neg (fun hh => by rw [hh k hk] at h; cases h)]
theorem txV_yes {l : List PD} (h8 : ¬ (l = [] ∨ 8 < l.length)) (h : ∀ k, k < l.length → okAt l k = true) : txV l = (tacc l l.length, 0) := by
  unfold txV
  rw [if_neg h8, if_pos h]
def TxtPost (l : List PD) (w : World) (e : Ending) (w' : World) : Prop :=
  ∃ s : ByteArray, s.data.toList = (txV l).1 ∧ e = .returned (.tuple #[.string s, .int .i64 (txV l).2]) ∧ Below w.heap.size w w'
theorem TxtPost.no {l : List PD} {w w' : World} (h : txV l = ([], 1)) (hb : Below w.heap.size w w') : TxtPost l w (.returned (.tuple #[.string ⟨#[]⟩, .int .i64 1])) w' :=
  ⟨⟨#[]⟩, by rw [h], by rw [h]; rfl, hb⟩
theorem isB_below {T e : TypeId} {B b : Nat} {bs : List Value} {w w' : World} (h : Lib.IsBuilderF T e B b bs w) (hb : Below w.heap.size w w') : Lib.IsBuilderF T e B b bs w' := by
  have one : ∀ p, Lib.BuilderAtF T e B b p bs w → Lib.BuilderAtF T e B b p bs w' := fun p hp => by
    have hlt := hp.lt
    obtain ⟨hB, v, hh, hown, hne⟩ := hp
    refine ⟨hB, v, (hb.block b hlt).trans hh, hown.kept (row := none) ⟨hb.os, hb.tape, hb.output, hb.size, fun k hk _ => hb.block k hk⟩ ?_, hne⟩
    cases v.ownBlock with
    | none => exact .inl rfl
    | some _ => exact .inr (by simp)
  exact h.elim (fun h => .inl (one _ h)) (fun h => .inr (one _ h))
theorem isB_new (w : World) : Lib.IsBuilderF 63 5 w.heap.size w.heap.size (Lib.byteCells []) (w.alloc (Obj.cells #[.pointer none, .slice none 0 0] 63)) :=
  .inl ⟨Nat.le_refl _, .slice none 0 0, (MapKept.heap_alloc w _).1, World.ownsRowF_nil _ _ _ _, by simp [Value.ownBlock]⟩
theorem byteRune (n : Nat) (h : n < 128) : Lib.runeCells (n : Int) = Lib.byteCells [UInt8.ofNat n] := by
  rw [Lib.runeCells, Lib.encodeRuneZ_one (by omega) (by omega)]
  simp [Lib.byteCells]
  omega
theorem paWR (B b : Nat) (l : List UInt8) (n : Nat) (w : World) (h : Lib.IsBuilderF 63 5 B b (Lib.byteCells l) w) (hl : l.length ≤ 1000) (hn : n < 128) (hB : B ≤ w.heap.size) :
    Calls Tryd.prog 33 #[.pointer (some ⟨b, 0, none⟩), .int .i32 n] w fun e w' => (∃ m, e = .returned (.tuple #[.int .i64 m, .nilIface])) ∧ Lib.IsBuilderF 63 5 B b (Lib.byteCells (l ++ [UInt8.ofNat n])) w' ∧ Below B w w' ∧ Lib.OthersKept 5 (some b) w w' :=
  (Tryd.Builder_WriteRune_k B b (Lib.byteCells l) n (by omega) (by omega) w h (by rw [Lib.byteCells_length]; omega) hB).mono fun e w' ⟨he, hb, hk, ho⟩ => ⟨⟨_, he⟩, .inr (by rw [Lib.byteCells_append, ← byteRune n hn]; exact hb), hk, ho⟩
theorem paWS (B b : Nat) (l : List UInt8) (s : ByteArray) (w : World) (h : Lib.IsBuilderF 63 5 B b (Lib.byteCells l) w) (hl : l.length ≤ 1000) (hs : s.size ≤ 1000) (hB : B ≤ w.heap.size) :
    Calls Tryd.prog 35 #[.pointer (some ⟨b, 0, none⟩), .string s] w fun e w' => (∃ m, e = .returned (.tuple #[.int .i64 m, .nilIface])) ∧ Lib.IsBuilderF 63 5 B b (Lib.byteCells (l ++ s.data.toList)) w' ∧ Below B w w' ∧ Lib.OthersKept 5 (some b) w w' :=
  (Tryd.Builder_WriteString_k B b (Lib.byteCells l) s w h (by rw [Lib.byteCells_length]; omega) hB).mono fun e w' ⟨he, hb, hk, ho⟩ => ⟨⟨_, he⟩, .inr (by rw [Lib.byteCells_append, ← Lib.strCells_eq]; exact hb), hk, ho⟩
theorem digits8 (n : Nat) (h : n < 8) : Lib.decDigits n = [UInt8.ofNat (48 + n)] := Lib.decDigits_one (by omega)
theorem paItoa (x : Int) (w : World) (h : domB x = true) : Calls Tryd.prog 36 #[.int .i64 x] w fun e w' => e = .returned (.string ⟨#[UInt8.ofNat (48 + x.toNat)]⟩) ∧ w = w' := by
  simp only [domB, Bool.and_eq_true, decide_eq_true_eq] at h
  obtain ⟨n, rfl⟩ : ∃ n : Nat, x = n := ⟨x.toNat, by omega⟩
  refine (Tryd.strconv_Itoa_small n (by omega) w).mono fun e w' ⟨he, hw⟩ => ⟨?_, hw.symm⟩
  rw [he, digits8 n (by omega)]
  rfl
theorem pcells {w : World} {P : Nat} {d : PD} (h : w.heap[P]? = some (Obj.cells #[.int .i64 d.1, .bool d.2.1, .bool d.2.2] 56)) : w.cell? ⟨P, 0, none⟩ = some (.int .i64 d.1) ∧ w.cell? ⟨P, 1, none⟩ = some (.bool d.2.1) ∧ w.cell? ⟨P, 2, none⟩ = some (.bool d.2.2) := by
  refine ⟨?_, ?_, ?_⟩ <;> simp [World.cell?, h]
theorem letV_lt (d : PD) : letV d < 128 := by unfold letV; split <;> split <;> decide
theorem heap_below {w w' : World} {k : Nat} {o : Obj} (h : w.heap[k]? = some o) (hb : Below w.heap.size w w') : w'.heap[k]? = some o := (hb.block k (Array.getElem?_eq_some_iff.1 h).1).trans h
abbrev permO (d : PD) : Obj := Obj.cells #[.int .i64 d.1, .bool d.2.1, .bool d.2.2] 56
theorem perm_others {w w' : World} {P b : Nat} {d : PD} (h : w.heap[P]? = some (permO d)) (hP : P ≠ b) (ho : Lib.OthersKept 5 (some b) w w') : w'.heap[P]? = some (permO d) :=
  ho P _ h (fun e => hP (Option.some.inj e)) (fun c fz e => by injection e with _ e2 _; exact absurd e2 (by decide))
/-- what holds on the way of one entry -/
structure TS (w0 : World) (P : Nat) (d : PD) (bs : List UInt8) (wx : World) : Prop where
  bd : Lib.IsBuilderF 63 5 w0.heap.size w0.heap.size (Lib.byteCells bs) wx
  pm : wx.heap[P]? = some (permO d)
  be : Below w0.heap.size w0 wx
  ne : P ≠ w0.heap.size
theorem TS.below {w0 wx wy : World} {P : Nat} {d : PD} {bs : List UInt8} (h : TS w0 P d bs wx) (hb : Below wx.heap.size wx wy) : TS w0 P d bs wy :=
  ⟨isB_below h.bd hb, heap_below h.pm hb, h.be.trans (hb.mono h.be.size), h.ne⟩
theorem TS.rune {w0 wx : World} {P : Nat} {d : PD} {bs : List UInt8} (h : TS w0 P d bs wx) (n : Nat) (hn : n < 128) (hl : bs.length ≤ 1000) :
    Calls Tryd.prog 33 #[.pointer (some ⟨w0.heap.size, 0, none⟩), .int .i32 n] wx fun e w' => ∃ m, e = .returned (.tuple #[.int .i64 m, .nilIface]) ∧ TS w0 P d (bs ++ [UInt8.ofNat n]) w' :=
  (paWR _ _ bs n wx h.bd hl hn h.be.size).mono fun e w' ⟨⟨m, he⟩, hb, hk, ho⟩ => ⟨m, he, hb, perm_others h.pm h.ne ho, h.be.trans hk, h.ne⟩
theorem TS.str {w0 wx : World} {P : Nat} {d : PD} {bs : List UInt8} (h : TS w0 P d bs wx) (s : ByteArray) (hs : s.size ≤ 1000) (hl : bs.length ≤ 1000) :
    Calls Tryd.prog 35 #[.pointer (some ⟨w0.heap.size, 0, none⟩), .string s] wx fun e w' => ∃ m, e = .returned (.tuple #[.int .i64 m, .nilIface]) ∧ TS w0 P d (bs ++ s.data.toList) w' :=
  (paWS _ _ bs s wx h.bd hl hs h.be.size).mono fun e w' ⟨⟨m, he⟩, hb, hk, ho⟩ => ⟨m, he, hb, perm_others h.pm h.ne ho, h.be.trans hk, h.ne⟩
theorem paText (l : List PD) (p : Option Addr) (c : Nat) (w : World) (hl : l.length ≤ 140737488355328) (hc : l.length ≤ c) (hg : PG w p l) :
    Calls Tryd.prog 17 #[.slice p l.length c] w (TxtPost l w) := by
  by_cases h0 : l = []
  · subst h0
    go_enter Tryd.func17, Tryd.ntmps17
    go_wp2
    go_ret2
    exact TxtPost.no (by simp [txV]) (Below.refl _ _)
  by_cases h8 : 8 < l.length
  · have HV := hid (show txV l = ([], 1) by unfold txV; rw [if_pos (.inr h8)])
    have e1 : ((l.length : Int) == 0) = false := by simp; omega
    clear h0
    go_enter Tryd.func17, Tryd.ntmps17
    go_wp2
    go_ret2
    exact TxtPost.no HV.out (Below.refl _ _)
  have H08 := hid (show ¬ (l = [] ∨ 8 < l.length) from fun h => h.elim h0 h8)
  have e1 : ((l.length : Int) == 0) = false := by simpa using h0
  have HG := hid hg
  clear h0 hg
  go_enter Tryd.func17, Tryd.ntmps17
  go_wp2
  go_loopw [17] (fun t wr => ∃ k : Nat, t = .int .i64 k ∧ k ≤ l.length ∧ (∀ j, j < k → okAt l j = true) ∧ Lib.IsBuilderF 63 5 w.heap.size w.heap.size (Lib.byteCells (tacc l k)) wr ∧ Below w.heap.size w wr ∧ w.heap.size < wr.heap.size) (fun t _ => l.length - (intOf t).toNat)
  case atStart => exact ⟨0, rfl, Nat.zero_le _, fun j hj => by omega, isB_new w, (Below.refl _ w).alloc (Nat.le_refl _) _, by simp⟩
  case round =>
    obtain ⟨k, rfl, hk, hj, hB, hb, hsz⟩ := hrel
    have HJ := hid hj
    have HB := hid hb
    have HBd := hid hB
    have HSz := hid hsz
    clear hj hb hB hsz
    by_cases hkn : k < l.length
    · obtain ⟨d, hd⟩ : ∃ d, l[k]? = some d := ⟨_, List.getElem?_eq_getElem hkn⟩
      have HDk := hid (show l.getD k (0, false, false) = d by rw [List.getD_eq_getElem?_getD, hd]; rfl)
      obtain ⟨b, o, rfl, hlt', x0, x1, x2⟩ := (HG.out.below HB.out) k d hd
      have hTL := tacc_len l k
      have HP1 := hid (show (wr.alloc (permO d)).heap[wr.heap.size]? = some (permO d) from (MapKept.heap_alloc wr _).1)
      have HB1 := hid ((Below.refl wr.heap.size wr).alloc (Nat.le_refl _) (permO d))
      have HBd1 := hid (isB_below HBd.out HB1.out)
      have HH := hid (paHas l (some ⟨b, o, none⟩) k c d.1 (wr.alloc (permO d)).drew hk hl (((HG.out.below HB.out).below HB1.out).below (below_drew' (Below.refl _ _))))
      have HDm := hid fun w' => paDom d.1 w'
      clear hd
      cases hdm : domB d.1 with
      | false =>
        rw [hdm] at HDm
        have HO := hid (show okAt l k = false by unfold okAt; rw [HDk.out, hdm]; rfl)
        clear hdm
        go_wp2
        go_quiet (first | (go_at_call 31; exact Calls.quiet_of_same (v := .bool false) ((HDm.out _).mono (by rintro e w9 ⟨rfl, rfl⟩; exact ⟨rfl, rfl⟩))))
        go_wp2
        go_ret2
        exact TxtPost.no (txV_no H08.out hkn HO.out) (below_drewN' (HB.out.trans (HB1.out.mono HB.out.size)) _)
      | true =>
        rw [hdm] at HDm
        have hdm' := hid hdm
        clear hdm
        have T1 := hid (show TS w wr.heap.size d (tacc l k) (wr.alloc (permO d)).drew from ⟨isB_below HBd1.out (below_drew' (Below.refl _ _)), HP1.out, below_drew' (HB.out.trans (HB1.out.mono HB.out.size)), by have := HSz.out; omega⟩)
        cases hhv : hasV (l.take k) d.1 with
        | true =>
          rw [hhv] at HH
          have HO := hid (show okAt l k = false by unfold okAt; rw [HDk.out, hhv]; simp)
          clear hhv
          go_wp2
          go_region_with (first
            | (go_at_call 31; refine (HDm.out _).mono ?_; rintro e w2 ⟨rfl, rfl⟩)
            | (go_at_call 32; refine HH.out.mono ?_; rintro e w2 ⟨rfl, hb2⟩; have T2 := hid (T1.out.below hb2); have C2 := hid (pcells T2.out.pm); clear hb2))
          all_goals
            go_wp2
            go_ret2
            exact TxtPost.no (txV_no H08.out hkn HO.out) T2.out.be
        | false =>
          rw [hhv] at HH
          have HO := hid (show okAt l k = true by unfold okAt; rw [HDk.out, hdm'.out, hhv]; rfl)
          clear hhv
          obtain ⟨sd, hsd⟩ : ∃ sd : ByteArray, sd = ⟨#[UInt8.ofNat (48 + d.1.toNat)]⟩ := ⟨_, rfl⟩
          have HIt := hid fun w' => paItoa d.1 w' hdm'.out
          rw [← hsd] at HIt
          have HSd := hid hsd
          have hsz1 : sd.size ≤ 1000 := by rw [hsd]; show (1 : Nat) ≤ 1000; omega
          clear hsd
          obtain ⟨q, hq⟩ : ∃ q, letV d = q := ⟨_, rfl⟩
          have hq128 := letV_lt d
          have HLe := hid fun w' => paLet d w'
          rw [hq] at hq128 HLe
          have HQ := hid hq
          clear hq
          by_cases hk0 : k = 0
          · have hpos : ¬ 0 < k := by omega
            have hpos' : decide (0 < (k : Int)) = false := by simp; omega
            have HPos := hid hpos
            clear hk0
            go_wp2
            go_region_with (first
              | (go_at_call 31; refine (HDm.out _).mono ?_; rintro e w2 ⟨rfl, rfl⟩)
              | (go_at_call 32; refine HH.out.mono ?_; rintro e w2 ⟨rfl, hb2⟩; have T2 := hid (T1.out.below hb2); have C2 := hid (pcells T2.out.pm); have HLt := hid (HLe.out w2); clear hb2))
            all_goals
              obtain ⟨c0, c1, c2⟩ := C2.out
              go_wp2_with (first
                | (go_at_call 34; refine HLt.out.mono ?_; rintro e w4 ⟨rfl, hb4⟩; have T4 := hid (T2.out.below hb4); have HWl := hid (T4.out.rune q hq128 (by omega)); clear hb4)
                | (go_at_call 33; refine HWl.out.mono ?_; rintro e w5 ⟨m5, rfl, t5⟩; have T5 := hid t5; have c5 := (pcells t5.pm).1; have HWs := hid (t5.str sd hsz1 (by simp; omega)); clear t5)
                | (go_at_call 36; refine (HIt.out _).mono ?_; rintro e w9 ⟨rfl, rfl⟩)
                | (go_at_call 35; refine HWs.out.mono ?_; rintro e w6 ⟨m6, rfl, t6⟩; have T6 := hid t6; clear t6))
              go_roundw
              case rel =>
                refine ⟨k + 1, by go_num, by omega, fun j hj => ?_, ?_, T6.out.be, ?_⟩
                · by_cases e : j = k
                  · rw [e]; exact HO.out
                  · exact HJ.out j (by omega)
                · have := T6.out.bd
                  rw [HSd.out] at this
                  rw [tacc, HDk.out, partV, HQ.out]
                  simpa [HPos.out] using this
                · have := (Array.getElem?_eq_some_iff.1 T6.out.pm).1
                  have := HSz.out
                  omega
              case measure => simp [intOf]; omega
          · have hpos : 0 < k := by omega
            have hpos' : decide (0 < (k : Int)) = true := by simp; omega
            have HPos := hid hpos
            clear hk0
            go_wp2
            go_region_with (first
              | (go_at_call 31; refine (HDm.out _).mono ?_; rintro e w2 ⟨rfl, rfl⟩)
              | (go_at_call 32; refine HH.out.mono ?_; rintro e w2 ⟨rfl, hb2⟩; have T2 := hid (T1.out.below hb2); have C2 := hid (pcells T2.out.pm); have HWc := hid (show Calls Tryd.prog 33 #[.pointer (some ⟨w.heap.size, 0, none⟩), .int .i32 44] w2 fun e w' => ∃ m, e = .returned (.tuple #[.int .i64 m, .nilIface]) ∧ TS w wr.heap.size d (tacc l k ++ [44]) w' from T2.out.rune 44 (by decide) (by omega)); clear hb2))
            all_goals
              go_wp2_with (first
                | (go_at_call 33; (with_reducible refine HWc.out.mono ?_); rintro e w3 ⟨m3, rfl, t3⟩; have T3 := hid t3; obtain ⟨c0, c1, c2⟩ := pcells t3.pm; have HLt := hid (HLe.out w3); clear t3)
                | (go_at_call 34; refine HLt.out.mono ?_; rintro e w4 ⟨rfl, hb4⟩; have T4 := hid (T3.out.below hb4); have HWl := hid (T4.out.rune q hq128 (by simp; omega)); clear hb4)
                | (go_at_call 33; refine HWl.out.mono ?_; rintro e w5 ⟨m5, rfl, t5⟩; have T5 := hid t5; have c5 := (pcells t5.pm).1; have HWs := hid (t5.str sd hsz1 (by simp; omega)); clear t5)
                | (go_at_call 36; refine (HIt.out _).mono ?_; rintro e w9 ⟨rfl, rfl⟩)
                | (go_at_call 35; refine HWs.out.mono ?_; rintro e w6 ⟨m6, rfl, t6⟩; have T6 := hid t6; clear t6))
              go_roundw
              case rel =>
                refine ⟨k + 1, by go_num, by omega, fun j hj => ?_, ?_, T6.out.be, ?_⟩
                · by_cases e : j = k
                  · rw [e]; exact HO.out
                  · exact HJ.out j (by omega)
                · have := T6.out.bd
                  rw [HSd.out] at this
                  rw [tacc, HDk.out, partV, HQ.out]
                  simpa [HPos.out] using this
                · have := (Array.getElem?_eq_some_iff.1 T6.out.pm).1
                  have := HSz.out
                  omega
              case measure => simp [intOf]; omega
    · have HK := hid (show k = l.length by omega)
      have HS := hid (Tryd.Builder_String_any_k w.heap.size w.heap.size (tacc l k) wr HBd.out HB.out.size)
      go_wp2_with (go_at_call 37; refine HS.out.mono ?_; rintro e w2 ⟨rfl, hb2, hb3, hb4⟩; have HB2 := hid hb3; clear hb2 hb3 hb4)
      go_ret2
      have hv := txV_yes H08.out (fun j hj => HJ.out j (by rw [HK.out]; exact hj))
      exact ⟨⟨(tacc l k).toArray⟩, by rw [hv, ← HK.out], by rw [hv]; rfl, HB.out.trans HB2.out⟩
end Go.Proofs.YtmnolfaejneomaaDoor
