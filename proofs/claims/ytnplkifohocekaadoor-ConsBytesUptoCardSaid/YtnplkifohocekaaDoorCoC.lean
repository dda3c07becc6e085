/-
  Package cons: Show.
-/
import Derived.Test.YtnplkifohocekaaDoorCoB
import Derived.Lib.RuneCount
set_option linter.unusedSimpArgs false
set_option linter.unusedVariables false
namespace Go.Proofs.YtnplkifohocekaaDoor.Co
open Go.RowKit Go.Lib Go.Proofs.YtnplkifohocekaaDoor.Bk
set_option maxHeartbeats 2000000
theorem isB_below {T e : TypeId} {B b : Nat} {bs : List Value} {w w' : World} (h : Lib.IsBuilderF T e B b bs w) (hb : Below w.heap.size w w') : Lib.IsBuilderF T e B b bs w' := by
  have one : ∀ p, Lib.BuilderAtF T e B b p bs w → Lib.BuilderAtF T e B b p bs w' := fun p hp => by
    have hlt := hp.lt
    obtain ⟨hB, v, hh, hown, hne⟩ := hp
    refine ⟨hB, v, (hb.block b hlt).trans hh, hown.kept (row := none) ⟨hb.os, hb.tape, hb.output, hb.size, fun k hk _ => hb.block k hk⟩ ?_, hne⟩
    cases v.ownBlock with
    | none => exact .inl rfl
    | some _ => exact .inr (by simp)
  exact h.elim (fun h => .inl (one _ h)) (fun h => .inr (one _ h))
theorem heap_below {w w' : World} {k : Nat} {o : Obj} (h : w.heap[k]? = some o) (hb : Below w.heap.size w w') : w'.heap[k]? = some o := (hb.block k (Array.getElem?_eq_some_iff.1 h).1).trans h
/-- the builder and the text's iterator, side by side -/
structure TS (w0 : World) (s : ByteArray) (pos : Nat) (acc : List UInt8) (W : World) : Prop where
  isb : IsB w0.heap.size w0.heap.size acc W
  it : W.heap[w0.heap.size + 1]? = some (.stringIter s pos)
  be : Below w0.heap.size w0 W
variable {w0 W W' : World} {s : ByteArray} {pos : Nat} {acc : List UInt8}
theorem TS.lt (h : TS w0 s pos acc W) : w0.heap.size + 1 < W.heap.size := (Array.getElem?_eq_some_iff.1 h.it).1
theorem TS.below (h : TS w0 s pos acc W) (hb : Below W.heap.size W W') : TS w0 s pos acc W' := ⟨isB_below h.isb hb, heap_below h.it hb, h.be.trans (hb.mono h.be.size)⟩
theorem TS.next (h : TS w0 s pos acc W) (p : Nat) : TS w0 s p acc (W.iterAt (w0.heap.size + 1) s p) := ⟨h.isb.iterAt h.it _, Lib.iterAt_heap W _ s pos _ h.it, Lib.below_iterAt h.be (by omega) s _⟩
theorem TS.wrote {bs : List UInt8} (h : TS w0 s pos acc W) (hi : IsB w0.heap.size w0.heap.size bs W') (hb : Below w0.heap.size W W') (ho : Lib.OthersKept 5 (some w0.heap.size) W W') : TS w0 s pos bs W' :=
  ⟨hi, ho.iter h.it (by omega), h.be.trans hb⟩
theorem TS.wr {bs : List UInt8} (h : TS w0 s pos acc W) (k : Wrote w0.heap.size w0.heap.size bs W W') : TS w0 s pos bs W' := h.wrote k.isb k.be k.oth
theorem TS.start (w : World) (s : ByteArray) : TS w s 0 [] ((w.alloc (.cells #[.pointer none, .slice none 0 0] 80)).iter s 0) := by
  refine ⟨(Lib.IsBuilderF.of (Lib.fresh_isBuilder 80 5 w)).alloc _, ?_, ((Below.refl _ w).alloc (Nat.le_refl _) _).alloc (by simp) _⟩
  have := World.iter_heap (w.alloc (.cells #[.pointer none, .slice none 0 0] 80)) s 0
  simpa using this
theorem sub_list (s : ByteArray) (a b : Nat) : (s.extract a b).data.toList = (s.data.toList.drop a).take (b - a) := by
  rw [show s = ⟨s.data.toList.toArray⟩ by simp, Go.ByteArray.extract_mk]
theorem sub_size {s : ByteArray} {l : List UInt8} (h : s.data.toList = l) : s.size = l.length := by rw [← h, Array.length_toList]; rfl
set_option maxRecDepth 100000 in
theorem bShow (l : List UInt8) (p : Option Addr) (c : Nat) (w : World) (hl : l.length ≤ 8796093022208) (hb : BA w p l) (hT : Lib.Utf8Tabs 0 1 w) :
    Calls Tryd.prog 9 #[.slice p l.length c] w fun e w' => e = .returned (.string ⟨(showV l).toArray⟩) ∧ Below w.heap.size w w' := by
  have hcv := hb.string c
  obtain ⟨s, hs⟩ : ∃ s : ByteArray, s = ⟨l.toArray⟩ := ⟨_, rfl⟩
  have hsl : s.data.toList = l := by rw [hs]
  have hsz : s.size = l.length := sub_size hsl
  rw [← hs] at hcv
  have HS := hid hsl
  have HT := hid hT
  have HZ := hid hsz
  clear hs hsl hT hb hsz
  go_enter Tryd.func9, Tryd.ntmps9
  go_wp2
  go_loopw [] (fun wr => ∃ (pos : Nat) (acc : List UInt8), TS w s pos acc wr ∧ acc ++ showV (l.drop pos) = showV l ∧ acc.length ≤ 4 * pos ∧ pos ≤ l.length) (fun wr => s.size - wr.iterPos (w.heap.size + 1))
  case atStart =>
    exact ⟨0, [], TS.start w s, rfl, by simp, Nat.zero_le _⟩
  case round =>
    obtain ⟨pos, acc, hts, hacc, hal, hpl⟩ := hrel
    have HTS := hid hts
    have HA := hid hacc
    clear hts hacc
    by_cases hp : pos < s.size
    · have hp2 := HZ.out
      obtain ⟨L, hL⟩ : ∃ L, l.drop pos = L := ⟨_, rfl⟩
      have hLl : L.length = l.length - pos := by rw [← hL, List.length_drop]
      have hLn : L ≠ [] := fun e => by rw [e] at hLl; simp at hLl; omega
      obtain ⟨dv, hdv⟩ : ∃ dv, decV L = dv := ⟨_, rfl⟩
      obtain ⟨d1, d2⟩ := dv
      have hdl := decV_lt hLn
      rw [hdv] at hdl
      simp only at hdl
      obtain ⟨hd1, hd2, hd3⟩ := hdl
      have hdec : Utf8.decode s pos = (d1, d2) := by rw [decode_let s pos hp, HS.out, hL, hdv]
      have hnx : ∀ ty, (Instr.next (.pointer (some ⟨w.heap.size + 1, 0, none⟩)) true ty).run Tryd.prog wr = _ := fun ty => Lib.run_next_any_at wr (w.heap.size + 1) s pos ty HTS.out.it hp
      rw [hdec] at hnx
      have T1 := hid (HTS.out.next (pos + d2))
      obtain ⟨W1, hW1⟩ : ∃ W1, wr.iterAt (w.heap.size + 1) s (pos + d2) = W1 := ⟨_, rfl⟩
      simp only at hnx
      rw [hW1] at hnx T1
      obtain ⟨sub, hsub⟩ : ∃ sub, s.extract pos s.size = sub := ⟨_, rfl⟩
      have hsubl : sub.data.toList = L := by rw [← hsub, sub_list, HS.out, hL, List.take_of_length_le (by omega)]
      have hs1 : ∀ W, (Instr.slice 9 (.string s) (some (.int .i64 pos)) none none).run Tryd.prog W = .ok (.string sub) W := fun W => by
        rw [run_slice_string_from_if W 9 s .i64 pos Tryd.underlying9, if_pos (by omega), ← hsub]; rfl
      have hgo : Lib.decodeGo sub = (d1, d2) := by rw [decodeGo_let sub (by rw [sub_size hsubl]; omega), hsubl, hdv]
      have HD := hid (show Calls Tryd.prog 26 #[.string sub] W1 fun e w' => e = .returned (.tuple #[.int .i32 (d1 : Int), .int .i64 (d2 : Int)]) ∧ TS w s (pos + d2) acc w' by
        refine (Tryd.utf8_DecodeRuneInString sub W1 (Utf8Tabs_below HT.out T1.out.be)).mono ?_
        rintro e w' ⟨rfl, hb⟩
        rw [hgo]
        exact ⟨rfl, T1.out.below hb⟩)
      obtain ⟨sub2, hsub2⟩ : ∃ sub2, s.extract pos (pos + d2) = sub2 := ⟨_, rfl⟩
      have hsub2l : sub2.data.toList = L.take d2 := by rw [← hsub2, sub_list, HS.out, hL, Nat.add_sub_cancel_left]
      have hs2 : ∀ W, (Instr.slice 9 (.string s) (some (.int .i64 pos)) (some (.int .i64 ((pos : Int) + d2))) none).run Tryd.prog W = .ok (.string sub2) W := fun W => by
        rw [run_slice_string W 9 s .i64 .i64 pos ((pos : Int) + d2) Tryd.underlying9 (by omega) (by omega) (by omega), ← hsub2]
        rfl
      have hst : stepV L = d2 := by rw [← decV_step, hdv]
      have hpc := pieceV_len L hLn
      rw [hst] at hpc
      have FIN := hid (show ∀ W', TS w s (pos + d2) (acc ++ pieceV L) W' → (∃ (pos : Nat) (acc : List UInt8), TS w s pos acc W' ∧ acc ++ showV (l.drop pos) = showV l ∧ acc.length ≤ 4 * pos ∧ pos ≤ l.length) ∧ s.size - W'.iterPos (w.heap.size + 1) < s.size - wr.iterPos (w.heap.size + 1) from fun W' h => by
        refine ⟨⟨pos + d2, _, h, ?_, by rw [List.length_append]; omega, by omega⟩, ?_⟩
        · rw [← HA.out, hL, showV_cons hLn, hst, ← hL, List.drop_drop, List.append_assoc]
        · simp only [World.iterPos, h.it, HTS.out.it]
          omega)
      have hsub2s : sub2.size = d2 := by rw [sub_size hsub2l, List.length_take]; omega
      have HLT := hid (Nat.le_of_lt (Nat.lt_of_le_of_lt (Nat.le_add_right _ 1) T1.out.lt))
      have HV := hid fun W => bVis d1 W (by omega)
      have hpd : pos + d2 ≤ l.length := by omega
      clear hdec hW1 hsub hsubl hgo hsub2 hL hst hLl
      have HH := hid (show ∀ W2, TS w s (pos + d2) acc W2 → Calls Tryd.prog 28 #[.pointer (some ⟨w.heap.size, 0, none⟩), .string sub2] W2 fun e w' => e = .returned (.tuple #[]) ∧ TS w s (pos + d2) (acc ++ (L.take d2).flatMap hexV) w' from fun W2 t2 => by
        refine (bHide _ _ _ sub2 W2 t2.isb (by omega) (by omega) (Nat.le_of_lt (Nat.lt_of_le_of_lt (Nat.le_add_right _ 1) t2.lt))).mono ?_
        rintro e w' ⟨rfl, h⟩
        rw [hsub2l] at h
        exact ⟨rfl, t2.wr h⟩)
      have hpi : (pos : Int) ≤ 8796093022208 := by omega
      have hd2i : (d2 : Int) ≤ 8796093022208 := by omega
      clear hsub2l
      by_cases hbr : d1 = 65533 ∧ d2 = 1
      · have hh : hideV L = true := by unfold hideV; rw [hdv]; simp [hbr]
        obtain ⟨hp1, _⟩ := piece_hide hLn hh
        rw [hdv] at hp1
        have HP := hid hp1
        have e1 : ((d1 : Int) == 65533) = true := by simp; omega
        have e2 : ((d2 : Int) == 1) = true := by simp; omega
        have hd1i : (d1 : Int) = 65533 := by omega
        clear hdv hp1 hh hbr
        go_wp2_with (first
          | (go_at_call 26; (with_reducible refine HD.out.mono ?_); rintro e W2 ⟨rfl, t2⟩; have T2 := hid t2; clear t2)
          | (go_at_call 28; (with_reducible refine (HH.out _ T2.out).mono ?_); rintro e W3 ⟨rfl, t3⟩; have T3 := hid t3; clear t3))
        exact FIN.out _ (HP.out ▸ T3.out)
      · have eb : (((d1 : Int) == 65533) && ((d2 : Int) == 1)) = false := by
          rw [Bool.and_eq_false_iff]
          by_cases h1 : d1 = 65533
          · exact .inr (by simp; omega)
          · exact .inl (by simp; omega)
        cases hg : goodV d1 with
        | false =>
          have hh : hideV L = true := by unfold hideV; rw [hdv, hg]; simp
          obtain ⟨hp1, _⟩ := piece_hide hLn hh
          rw [hdv] at hp1
          have HP := hid hp1
          rw [hg] at HV
          clear hdv hp1 hh hg
          by_cases h1 : d1 = 65533
          · have e1 : ((d1 : Int) == 65533) = true := by simp; omega
            have e2 : ((d2 : Int) == 1) = false := by simp; omega
            clear hbr h1 eb
            go_wp2_with (first
              | (go_at_call 26; (with_reducible refine HD.out.mono ?_); rintro e W2 ⟨rfl, t2⟩; have T2 := hid t2; clear t2)
              | (go_at_call 27; (with_reducible refine (HV.out _).mono ?_); rintro e W9 ⟨rfl, rfl⟩)
              | (go_at_call 28; (with_reducible refine (HH.out _ T2.out).mono ?_); rintro e W3 ⟨rfl, t3⟩; have T3 := hid t3; clear t3))
            exact FIN.out _ (HP.out ▸ T3.out)
          · have e1 : ((d1 : Int) == 65533) = false := by simp; omega
            clear hbr h1 eb
            go_wp2_with (first
              | (go_at_call 26; (with_reducible refine HD.out.mono ?_); rintro e W2 ⟨rfl, t2⟩; have T2 := hid t2; clear t2)
              | (go_at_call 27; (with_reducible refine (HV.out _).mono ?_); rintro e W9 ⟨rfl, rfl⟩)
              | (go_at_call 28; (with_reducible refine (HH.out _ T2.out).mono ?_); rintro e W3 ⟨rfl, t3⟩; have T3 := hid t3; clear t3))
            exact FIN.out _ (HP.out ▸ T3.out)
        | true =>
          have hh : hideV L = false := by
            unfold hideV
            rw [hdv, hg]
            by_cases h1 : d1 = 65533
            · simp; omega
            · simp [h1]
          rw [hg] at HV
          by_cases h92 : d1 = 92
          · have hp1 := piece_back hh (by rw [hdv]; exact h92)
            have HP := hid hp1
            have e1 : ((d1 : Int) == 65533) = false := by simp; omega
            have e3 : ((d1 : Int) == 92) = true := by simp; omega
            clear hdv hp1 hh hg hbr h92 eb
            have HW := hid (show ∀ W2, TS w s (pos + d2) acc W2 → Calls Tryd.prog 29 #[.pointer (some ⟨w.heap.size, 0, none⟩), .string ⟨#[92, 92]⟩] W2 fun e w' => (∃ m, e = .returned (.tuple #[.int .i64 m, .nilIface])) ∧ TS w s (pos + d2) (acc ++ [92, 92]) w' from fun W2 t2 => by
              refine (bWS _ _ _ ⟨#[92, 92]⟩ W2 t2.isb (by show _ + 2 ≤ _; omega) (Nat.le_of_lt (Nat.lt_of_le_of_lt (Nat.le_add_right _ 1) t2.lt))).mono ?_
              rintro e w' ⟨rfl, h⟩
              exact ⟨⟨_, rfl⟩, t2.wr h⟩)
            go_wp2_with (first
              | (go_at_call 26; (with_reducible refine HD.out.mono ?_); rintro e W2 ⟨rfl, t2⟩; have T2 := hid t2; clear t2)
              | (go_at_call 27; (with_reducible refine (HV.out _).mono ?_); rintro e W9 ⟨rfl, rfl⟩)
              | (go_at_call 29; (with_reducible refine (HW.out _ T2.out).mono ?_); rintro e W3 ⟨⟨m3, rfl⟩, t3⟩; have T3 := hid t3; clear t3))
            exact FIN.out _ (HP.out ▸ T3.out)
          · have hp1 := piece_self hLn hh (by rw [hdv]; exact h92)
            rw [hdv] at hp1
            have HP := hid hp1
            have e1 : (((d1 : Int) == 65533) && ((d2 : Int) == 1)) = false := eb
            have e3 : ((d1 : Int) == 92) = false := by simp; omega
            have HW := hid (show ∀ W2, TS w s (pos + d2) acc W2 → Calls Tryd.prog 30 #[.pointer (some ⟨w.heap.size, 0, none⟩), .int .i32 (d1 : Int)] W2 fun e w' => (∃ m, e = .returned (.tuple #[.int .i64 m, .nilIface])) ∧ TS w s (pos + d2) (acc ++ Lib.encodeRune (d1 : Int)) w' from fun W2 t2 => by
              refine (bWR _ _ _ d1 W2 t2.isb (by omega) (by omega) (Nat.le_of_lt (Nat.lt_of_le_of_lt (Nat.le_add_right _ 1) t2.lt))).mono ?_
              rintro e w' ⟨⟨m, rfl⟩, h1, h2, h3⟩
              exact ⟨⟨_, rfl⟩, t2.wrote h1 h2 h3⟩)
            by_cases h1 : d1 = 65533
            · have f1 : ((d1 : Int) == 65533) = true := by simp; omega
              have f2 : ((d2 : Int) == 1) = false := by simp; omega
              clear hdv hp1 hh hg hbr h92 eb e1 h1
              go_wp2_with (first
                | (go_at_call 26; (with_reducible refine HD.out.mono ?_); rintro e W2 ⟨rfl, t2⟩; have T2 := hid t2; clear t2)
                | (go_at_call 27; (with_reducible refine (HV.out _).mono ?_); rintro e W9 ⟨rfl, rfl⟩)
                | (go_at_call 30; (with_reducible refine (HW.out _ T2.out).mono ?_); rintro e W3 ⟨⟨m3, rfl⟩, t3⟩; have T3 := hid t3; clear t3))
              exact FIN.out _ (HP.out ▸ T3.out)
            · have f1 : ((d1 : Int) == 65533) = false := by simp; omega
              clear hdv hp1 hh hg hbr h92 eb e1 h1
              go_wp2_with (first
                | (go_at_call 26; (with_reducible refine HD.out.mono ?_); rintro e W2 ⟨rfl, t2⟩; have T2 := hid t2; clear t2)
                | (go_at_call 27; (with_reducible refine (HV.out _).mono ?_); rintro e W9 ⟨rfl, rfl⟩)
                | (go_at_call 30; (with_reducible refine (HW.out _ T2.out).mono ?_); rintro e W3 ⟨⟨m3, rfl⟩, t3⟩; have T3 := hid t3; clear t3))
              exact FIN.out _ (HP.out ▸ T3.out)
    · have hnx : ∀ ty, (Instr.next (.pointer (some ⟨w.heap.size + 1, 0, none⟩)) true ty).run Tryd.prog wr = _ := fun ty => Lib.run_next_end_at wr (w.heap.size + 1) s pos ty HTS.out.it hp
      have HE := hid (show acc = showV l by
        have h1 := HA.out
        have h2 := HZ.out
        rw [List.drop_eq_nil_of_le (by omega), showV_nil, List.append_nil] at h1
        exact h1)
      have HX := hid (Tryd.Builder_String_any_k w.heap.size w.heap.size acc wr HTS.out.isb (Nat.le_of_lt (Nat.lt_of_le_of_lt (Nat.le_add_right _ 1) HTS.out.lt)))
      go_wp2_with (go_at_call 31; (with_reducible refine HX.out.mono ?_); rintro e W1 ⟨rfl, h1, b1, h2⟩; have HB1 := hid b1; clear h1 b1 h2)
      go_wp2
      go_ret
      rw [← HE.out]
      exact ⟨rfl, HTS.out.be.trans HB1.out⟩
end Go.Proofs.YtnplkifohocekaaDoor.Co
