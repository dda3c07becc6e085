/-
  Package cons, the reference: Show.
-/
import Derived.Test.YtnplkifohocekaaDoorCoD
import Derived.Deep.CutBlock
import Derived.Deep.DeepCutAuto
set_option linter.unusedSimpArgs false
set_option linter.unusedVariables false
namespace Go.Proofs.YtnplkifohocekaaDoor.Co
open Go.RowKit Go.Lib Go.Proofs.YtnplkifohocekaaDoor.Bk
set_option maxHeartbeats 2000000
theorem letterV_lt {l : List UInt8} (h : l ≠ []) : (letterV l).2 < 1114112 ∧ (letterV l).1 ≤ l.length ∧ ((letterV l).1 = 0 → (letterV l).2 = 0) := by
  have h1 := (decV_lt h).1
  refine ⟨?_, letterV_len h, ?_⟩
  · unfold decV at h1
    split at h1
    · rename_i hn
      rcases letterV_n h with ⟨_, e⟩ | ⟨e, _⟩ | e
      · rw [e]; decide
      · omega
      · omega
    · exact h1
  · intro hn
    rcases letterV_n h with ⟨_, e⟩ | ⟨e, _⟩ | e
    · rw [e]
    · omega
    · omega
set_option maxRecDepth 100000 in
theorem rShow (l : List UInt8) (p : Option Addr) (c : Nat) (w : World) (hl : l.length ≤ 8796093022208) (hlc : l.length ≤ c) (hb : BA w p l) :
    Calls Tryd.prog 10 #[.slice p l.length c] w fun e w' => e = .returned (.string ⟨(showV l).toArray⟩) ∧ ∃ m, w' = w.drewN m := by
  have HB := hid hb
  have hli : (l.length : Int) ≤ 8796093022208 := by omega
  clear hb
  go_enter Tryd.func10, Tryd.ntmps10
  go_wp2
  go_loopw [3, 4] (fun ts ti wr => ∃ (i : Nat) (S : ByteArray) (m : Nat), ts = .string S ∧ ti = .int .i64 i ∧ S.data.toList ++ showV (l.drop i) = showV l ∧ i ≤ l.length ∧ S.size ≤ 4 * i ∧ wr = w.drewN m) (fun _ ti _ => l.length - (Lib.intOf ti).toNat)
  case atStart =>
    exact ⟨0, ⟨#[]⟩, 0, rfl, rfl, rfl, Nat.zero_le _, Nat.le_refl _, rfl⟩
  case round =>
    obtain ⟨i, S, m, rfl, rfl, hS, hi, hSz, rfl⟩ := hrel
    have hSs : S.size ≤ 35184372088832 := by omega
    have HS := hid hS
    clear hS
    by_cases hil : i < l.length
    · obtain ⟨b, o, rfl⟩ := HB.out.ptr (by omega)
      obtain ⟨L, hL⟩ : ∃ L, l.drop i = L := ⟨_, rfl⟩
      have hLl : L.length = l.length - i := by rw [← hL, List.length_drop]
      have hLn : L ≠ [] := fun e => by rw [e] at hLl; simp at hLl; omega
      obtain ⟨h1, h2, h3⟩ := letterV_lt hLn
      have HLB := hid (show BA w (some ⟨b, o + i, none⟩) L by
        have := HB.out.sub i (l.length - i) (by omega)
        rw [List.take_of_length_le (by rw [List.length_drop]; exact Nat.le_refl _), hL] at this
        exact this)
      have HLT := hid (rLetter L (some ⟨b, o + i, none⟩) (c - i) (w.drewN m) hLn (by omega) (HLB.out.grown (grownBy_drewN w m none)))
      rw [hLl] at HLT
      have hst : stepV L = max (letterV L).1 1 := rfl
      have hsl := stepV_len hLn
      have HN := hid (showV_cons hLn)
      have HP := hid (show pieceV L = if (letterV L).2 = 92 then [92, 92] else if decide (0 < (letterV L).1) && goodV (letterV L).2 then L.take (letterV L).1 else (L.take (max (letterV L).1 1)).flatMap hexV from rfl)
      unfold LetPost at HLT
      generalize hln : (letterV L).1 = n at *
      generalize hlv : (letterV L).2 = v at *
      have hpl := pieceV_len L hLn
      have FIN := hid (show ∀ (S' : ByteArray) (q : Nat), S'.data.toList = S.data.toList ++ pieceV L → q = stepV L → S'.data.toList ++ showV (l.drop (i + q)) = showV l ∧ i + q ≤ l.length ∧ S'.size ≤ 4 * (i + q) from fun S' q e1 e2 => by
        refine ⟨?_, by omega, ?_⟩
        · rw [e1, e2, ← HS.out, hL, HN.out, ← hL, List.drop_drop, List.append_assoc]
        · rw [sub_size e1, List.length_append, ← sub_size rfl]
          omega)
      have hni : (n : Int) ≤ 8796093022208 := by omega
      have hvi : (v : Int) ≤ 1114111 := by omega
      have hpi : (i : Int) ≤ 8796093022208 := by omega
      have HLl := hid hLl
      have HL := hid hL
      have HST := hid hst
      have HSL := hid hsl
      clear hLl hL hst hsl hln hlv hLn h1 hpl
      by_cases h92 : v = 92
      · have hn1 : max n 1 = n := by omega
        have e1 : ((v : Int) == 92) = true := by simp; omega
        rw [if_pos h92] at HP
        have HN1 := hid hn1
        clear hn1 h92 h3
        go_wp2_with (go_at_call 32; (with_reducible refine HLT.out.mono ?_); rintro e W2 ⟨rfl, rfl⟩)
        obtain ⟨f1, f2, f3⟩ := FIN.out (S ++ ⟨#[92, 92]⟩) n (by rw [HP.out]; simp) (by rw [HST.out, HN1.out])
        have hn0 : 0 < n := by have := HN1.out; omega
        exact ⟨⟨i + n, S ++ ⟨#[92, 92]⟩, m, rfl, by congr 1, f1, f2, f3, rfl⟩, by simp [Lib.intOf]; omega⟩
      have e92 : ((v : Int) == 92) = false := by simp; omega
      rw [if_neg h92] at HP
      by_cases hn0 : n = 0
      · have e2 : decide ((0 : Int) < (n : Int)) = false := by simp; omega
        have hni0 : ¬ (0 : Int) < (n : Int) := by omega
        have HG := hid (show ¬ ((decide (0 < n) && goodV v) = true) by simp [hn0])
        clear hn0 h92 h3
        obtain ⟨q, hq⟩ : ∃ q, max n 1 = q := ⟨_, rfl⟩
        have hqi : max (n : Int) 1 = (q : Int) := by omega
        have hq1 : 1 ≤ q := by omega
        rw [hq] at HST HP
        have HPh := hid (show pieceV L = (L.take q).flatMap hexV by rw [HP.out, if_neg HG.out])
        have hqL : q ≤ L.length := by have := HSL.out; rw [HST.out] at this; exact this
        have hqi2 : (q : Int) ≤ 8796093022208 := by have := HLl.out; omega
        have HQ := hid (show i + L.length = l.length by have := HLl.out; omega)
        clear hq HP HG
        go_wp2_with (go_at_call 32; (with_reducible refine HLT.out.mono ?_); rintro e W2 ⟨rfl, rfl⟩)
        go_loopw [3, 7] (fun ts tk wr => ∃ (k : Nat) (S2 : ByteArray) (m2 : Nat), ts = .string S2 ∧ tk = .int .i64 ((i : Int) + k) ∧ k ≤ q ∧ S2.data.toList = S.data.toList ++ (L.take k).flatMap hexV ∧ wr = w.drewN m2) (fun _ tk _ => (i + q) - (Lib.intOf tk).toNat)
        case atStart => exact ⟨0, S, m, rfl, by congr 1, Nat.zero_le _, by simp, rfl⟩
        case round =>
          obtain ⟨k, S2, m2, rfl, rfl, hkq, hS2, rfl⟩ := hrel
          have hS2s : S2.size ≤ 70368744177664 := by
            rw [sub_size hS2, List.length_append, ← sub_size rfl, flat4, List.length_take]
            have := HQ.out
            omega
          have HS2 := hid hS2
          clear hS2
          have hki : (k : Int) ≤ 8796093022208 := by omega
          by_cases hk : k < q
          · have hkl : i + k < l.length := by have := HQ.out; omega
            have cx : w.cell? ⟨b, o + (i + k), none⟩ = some (.int .u8 (L.getD k 0).toNat) := by
              have := HB.out.at (k := i + k) hkl
              rw [this, ← HL.out]
              simp [List.getD, List.getElem?_drop]
            obtain ⟨x, hx⟩ : ∃ x, L.getD k 0 = x := ⟨_, rfl⟩
            rw [hx] at cx
            have HX := hid hx
            have HXC := rHex x (w.drewN m2)
            obtain ⟨T, hT⟩ : ∃ T : ByteArray, ⟨(hexV x).toArray⟩ = T := ⟨_, rfl⟩
            rw [hT] at HXC
            have hTl : T.data.toList = hexV x := by rw [← hT]
            have hTs : T.size ≤ 4 := by rw [sub_size hTl, hexV_len]; omega
            have HXH := hid HXC
            have HTL := hid hTl
            clear hx hT hTl HXC
            go_wp2_with (go_at_call 33; (with_reducible refine HXH.out.mono ?_); rintro e W3 ⟨rfl, m3, rfl⟩)
            refine ⟨⟨k + 1, S2 ++ T, m2 + m3, rfl, by congr 1, by omega, ?_, rfl⟩, by simp [Lib.intOf]; omega⟩
            rw [take_flat (by omega), HX.out, ← List.append_assoc, ← HS2.out, ← HTL.out]
            simp
          · obtain rfl : k = q := by omega
            go_wp2
            obtain ⟨f1, f2, f3⟩ := FIN.out S2 k (by rw [HPh.out, HS2.out]) HST.out.symm
            exact ⟨⟨i + k, S2, m2, rfl, by congr 1, f1, f2, f3, rfl⟩, by simp [Lib.intOf]; omega⟩
      have HN0 := hid hn0
      have hn1 : (0 : Int) < (n : Int) := by omega
      by_cases hv1 : v < 32
      · have hv1i : ¬ (32 : Int) ≤ v := by omega
        have hv2i : ¬ (160 : Int) ≤ v := by omega
        have HG := hid (show ¬ ((decide (0 < n) && goodV v) = true) by unfold goodV; simp; omega)
        clear hn0 h92 h3 hv1
        obtain ⟨q, hq⟩ : ∃ q, max n 1 = q := ⟨_, rfl⟩
        have hqi : max (n : Int) 1 = (q : Int) := by omega
        have hq1 : 1 ≤ q := by omega
        rw [hq] at HST HP
        have HPh := hid (show pieceV L = (L.take q).flatMap hexV by rw [HP.out, if_neg HG.out])
        have hqL : q ≤ L.length := by have := HSL.out; rw [HST.out] at this; exact this
        have hqi2 : (q : Int) ≤ 8796093022208 := by have := HLl.out; omega
        have HQ := hid (show i + L.length = l.length by have := HLl.out; omega)
        clear hq HP HG
        go_wp2_with (go_at_call 32; (with_reducible refine HLT.out.mono ?_); rintro e W2 ⟨rfl, rfl⟩)
        go_loopw [3, 7] (fun ts tk wr => ∃ (k : Nat) (S2 : ByteArray) (m2 : Nat), ts = .string S2 ∧ tk = .int .i64 ((i : Int) + k) ∧ k ≤ q ∧ S2.data.toList = S.data.toList ++ (L.take k).flatMap hexV ∧ wr = w.drewN m2) (fun _ tk _ => (i + q) - (Lib.intOf tk).toNat)
        case atStart => exact ⟨0, S, m, rfl, by congr 1, Nat.zero_le _, by simp, rfl⟩
        case round =>
          obtain ⟨k, S2, m2, rfl, rfl, hkq, hS2, rfl⟩ := hrel
          have hS2s : S2.size ≤ 70368744177664 := by
            rw [sub_size hS2, List.length_append, ← sub_size rfl, flat4, List.length_take]
            have := HQ.out
            omega
          have HS2 := hid hS2
          clear hS2
          have hki : (k : Int) ≤ 8796093022208 := by omega
          by_cases hk : k < q
          · have hkl : i + k < l.length := by have := HQ.out; omega
            have cx : w.cell? ⟨b, o + (i + k), none⟩ = some (.int .u8 (L.getD k 0).toNat) := by
              have := HB.out.at (k := i + k) hkl
              rw [this, ← HL.out]
              simp [List.getD, List.getElem?_drop]
            obtain ⟨x, hx⟩ : ∃ x, L.getD k 0 = x := ⟨_, rfl⟩
            rw [hx] at cx
            have HX := hid hx
            have HXC := rHex x (w.drewN m2)
            obtain ⟨T, hT⟩ : ∃ T : ByteArray, ⟨(hexV x).toArray⟩ = T := ⟨_, rfl⟩
            rw [hT] at HXC
            have hTl : T.data.toList = hexV x := by rw [← hT]
            have hTs : T.size ≤ 4 := by rw [sub_size hTl, hexV_len]; omega
            have HXH := hid HXC
            have HTL := hid hTl
            clear hx hT hTl HXC
            go_wp2_with (go_at_call 33; (with_reducible refine HXH.out.mono ?_); rintro e W3 ⟨rfl, m3, rfl⟩)
            refine ⟨⟨k + 1, S2 ++ T, m2 + m3, rfl, by congr 1, by omega, ?_, rfl⟩, by simp [Lib.intOf]; omega⟩
            rw [take_flat (by omega), HX.out, ← List.append_assoc, ← HS2.out, ← HTL.out]
            simp
          · obtain rfl : k = q := by omega
            go_wp2
            obtain ⟨f1, f2, f3⟩ := FIN.out S2 k (by rw [HPh.out, HS2.out]) HST.out.symm
            exact ⟨⟨i + k, S2, m2, rfl, by congr 1, f1, f2, f3, rfl⟩, by simp [Lib.intOf]; omega⟩
      by_cases hv2 : v ≤ 126
      · have hv1i : (32 : Int) ≤ v := by omega
        have hv2i : (v : Int) ≤ 126 := by omega
        have HG := hid (show (decide (0 < n) && goodV v) = true by unfold goodV; simp; omega)
        clear hn0 h92 h3
        rw [if_pos HG.out] at HP
        have hln : (L.take n).length = n := by rw [List.length_take]; omega
        have hcv := (((show BA w (some ⟨b, o + i, none⟩) (L.take n) by have := HLB.out.sub 0 n (by omega); simpa using this)).grown (grownBy_drewN w m none)).string (c - i)
        rw [hln] at hcv
        obtain ⟨T, hT⟩ : ∃ T : ByteArray, ⟨(L.take n).toArray⟩ = T := ⟨_, rfl⟩
        rw [hT] at hcv
        have hTl : T.data.toList = L.take n := by rw [← hT]
        have hTs : T.size = n := by rw [sub_size hTl, hln]
        have HTS := hid hTs
        have hTb : T.size ≤ 8796093022208 := by omega
        have HTL := hid hTl
        have HLC := hid (show i + n ≤ l.length by have := HLl.out; omega)
        have hcc : (i : Int) + n ≤ l.length := by have := HLC.out; omega
        clear hT hTl hTs hln
        go_wp2_with (go_at_call 32; (with_reducible refine HLT.out.mono ?_); rintro e W2 ⟨rfl, rfl⟩)
        obtain ⟨f1, f2, f3⟩ := FIN.out (S ++ T) n (by rw [HP.out, ← HTL.out]; simp) (by rw [HST.out]; have := HN0.out; omega)
        have hn0 := HN0.out
        exact ⟨⟨i + n, S ++ T, m, rfl, by congr 1, f1, f2, f3, rfl⟩, by simp [Lib.intOf]; omega⟩
      by_cases hv3 : v < 160
      · have hv1i : (32 : Int) ≤ v := by omega
        have hv2i : ¬ (v : Int) ≤ 126 := by omega
        have hv3i : ¬ (160 : Int) ≤ v := by omega
        have HG := hid (show ¬ ((decide (0 < n) && goodV v) = true) by unfold goodV; simp; omega)
        clear hn0 h92 h3 hv1 hv2 hv3
        obtain ⟨q, hq⟩ : ∃ q, max n 1 = q := ⟨_, rfl⟩
        have hqi : max (n : Int) 1 = (q : Int) := by omega
        have hq1 : 1 ≤ q := by omega
        rw [hq] at HST HP
        have HPh := hid (show pieceV L = (L.take q).flatMap hexV by rw [HP.out, if_neg HG.out])
        have hqL : q ≤ L.length := by have := HSL.out; rw [HST.out] at this; exact this
        have hqi2 : (q : Int) ≤ 8796093022208 := by have := HLl.out; omega
        have HQ := hid (show i + L.length = l.length by have := HLl.out; omega)
        clear hq HP HG
        go_wp2_with (go_at_call 32; (with_reducible refine HLT.out.mono ?_); rintro e W2 ⟨rfl, rfl⟩)
        go_loopw [3, 7] (fun ts tk wr => ∃ (k : Nat) (S2 : ByteArray) (m2 : Nat), ts = .string S2 ∧ tk = .int .i64 ((i : Int) + k) ∧ k ≤ q ∧ S2.data.toList = S.data.toList ++ (L.take k).flatMap hexV ∧ wr = w.drewN m2) (fun _ tk _ => (i + q) - (Lib.intOf tk).toNat)
        case atStart => exact ⟨0, S, m, rfl, by congr 1, Nat.zero_le _, by simp, rfl⟩
        case round =>
          obtain ⟨k, S2, m2, rfl, rfl, hkq, hS2, rfl⟩ := hrel
          have hS2s : S2.size ≤ 70368744177664 := by
            rw [sub_size hS2, List.length_append, ← sub_size rfl, flat4, List.length_take]
            have := HQ.out
            omega
          have HS2 := hid hS2
          clear hS2
          have hki : (k : Int) ≤ 8796093022208 := by omega
          by_cases hk : k < q
          · have hkl : i + k < l.length := by have := HQ.out; omega
            have cx : w.cell? ⟨b, o + (i + k), none⟩ = some (.int .u8 (L.getD k 0).toNat) := by
              have := HB.out.at (k := i + k) hkl
              rw [this, ← HL.out]
              simp [List.getD, List.getElem?_drop]
            obtain ⟨x, hx⟩ : ∃ x, L.getD k 0 = x := ⟨_, rfl⟩
            rw [hx] at cx
            have HX := hid hx
            have HXC := rHex x (w.drewN m2)
            obtain ⟨T, hT⟩ : ∃ T : ByteArray, ⟨(hexV x).toArray⟩ = T := ⟨_, rfl⟩
            rw [hT] at HXC
            have hTl : T.data.toList = hexV x := by rw [← hT]
            have hTs : T.size ≤ 4 := by rw [sub_size hTl, hexV_len]; omega
            have HXH := hid HXC
            have HTL := hid hTl
            clear hx hT hTl HXC
            go_wp2_with (go_at_call 33; (with_reducible refine HXH.out.mono ?_); rintro e W3 ⟨rfl, m3, rfl⟩)
            refine ⟨⟨k + 1, S2 ++ T, m2 + m3, rfl, by congr 1, by omega, ?_, rfl⟩, by simp [Lib.intOf]; omega⟩
            rw [take_flat (by omega), HX.out, ← List.append_assoc, ← HS2.out, ← HTL.out]
            simp
          · obtain rfl : k = q := by omega
            go_wp2
            obtain ⟨f1, f2, f3⟩ := FIN.out S2 k (by rw [HPh.out, HS2.out]) HST.out.symm
            exact ⟨⟨i + k, S2, m2, rfl, by congr 1, f1, f2, f3, rfl⟩, by simp [Lib.intOf]; omega⟩
      · have hv1i : (32 : Int) ≤ v := by omega
        have hv2i : ¬ (v : Int) ≤ 126 := by omega
        have hv3i : (160 : Int) ≤ v := by omega
        have HG := hid (show (decide (0 < n) && goodV v) = true by unfold goodV; simp; omega)
        clear hn0 h92 h3
        rw [if_pos HG.out] at HP
        have hln : (L.take n).length = n := by rw [List.length_take]; omega
        have hcv := (((show BA w (some ⟨b, o + i, none⟩) (L.take n) by have := HLB.out.sub 0 n (by omega); simpa using this)).grown (grownBy_drewN w m none)).string (c - i)
        rw [hln] at hcv
        obtain ⟨T, hT⟩ : ∃ T : ByteArray, ⟨(L.take n).toArray⟩ = T := ⟨_, rfl⟩
        rw [hT] at hcv
        have hTl : T.data.toList = L.take n := by rw [← hT]
        have hTs : T.size = n := by rw [sub_size hTl, hln]
        have HTS := hid hTs
        have hTb : T.size ≤ 8796093022208 := by omega
        have HTL := hid hTl
        have HLC := hid (show i + n ≤ l.length by have := HLl.out; omega)
        have hcc : (i : Int) + n ≤ l.length := by have := HLC.out; omega
        clear hT hTl hTs hln
        go_wp2_with (go_at_call 32; (with_reducible refine HLT.out.mono ?_); rintro e W2 ⟨rfl, rfl⟩)
        obtain ⟨f1, f2, f3⟩ := FIN.out (S ++ T) n (by rw [HP.out, ← HTL.out]; simp) (by rw [HST.out]; have := HN0.out; omega)
        have hn0 := HN0.out
        exact ⟨⟨i + n, S ++ T, m, rfl, by congr 1, f1, f2, f3, rfl⟩, by simp [Lib.intOf]; omega⟩
    · have HE := hid (show S.data.toList = showV l by
        have h1 := HS.out
        rw [List.drop_eq_nil_of_le (by omega), showV_nil, List.append_nil] at h1
        exact h1)
      go_wp2
      go_ret
      exact ⟨by rw [← HE.out]; rfl, m, rfl⟩
end Go.Proofs.YtnplkifohocekaaDoor.Co
