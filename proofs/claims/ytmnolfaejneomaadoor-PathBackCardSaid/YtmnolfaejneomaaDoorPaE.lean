/-
  The reference of layer 9: Parse.
-/
import Derived.Test.YtmnolfaejneomaaDoorPaB
import Derived.Test.YtmnolfaejneomaaDoorPaC
import Derived.Deep.Cut
import Derived.Maps.AppendAt
import Derived.BigCall
set_option linter.unusedSimpArgs false
set_option linter.unusedVariables false
namespace Go.Proofs.YtmnolfaejneomaaDoor
open Go.RowKit
set_option maxHeartbeats 4000000
set_option maxRecDepth 100000
theorem infoS : (Tryd.prog.info? 9).map (fun i => (i.zero, i.size, i.bytes)) = some (some (.string ByteArray.empty), 1, 16) := by kernel_rfl
theorem ownsRow_succ {w : World} {B : Nat} {e : TypeId} {sz : Nat} {v : Value} {n : Nat} {xs : List Value} (h : w.ownsRow B e sz v (n + 1) xs) : ∃ g c, v = .slice (some ⟨g, 0, none⟩) (n + 1) c := by
  rcases h.2 with ⟨_, h⟩ | ⟨g, c, _, h, _⟩
  · omega
  · exact ⟨g, c, h⟩
/-- What stands of the path behind some letters. -/
def rfCur (s : ByteArray) (f i : Nat) : List UInt8 := (s.data.toList.drop f).take (i - f)
theorem rfCur_len {s : ByteArray} {f i : Nat} (hf : f ≤ i) (hi : i ≤ s.size) : (rfCur s f i).length = i - f := by
  unfold rfCur
  rw [List.length_take, List.length_drop, ← Lib.size_eq]
  omega
theorem rfCur_nil {s : ByteArray} {f i : Nat} (hf : f ≤ i) (hi : i ≤ s.size) : rfCur s f i = [] ↔ i = f := by
  rw [← List.length_eq_zero_iff, rfCur_len hf hi]; omega
theorem rfCur_succ {s : ByteArray} {f i : Nat} (hf : f ≤ i) (hi : i < s.size) : rfCur s f (i + 1) = rfCur s f i ++ [s[i]] := by
  unfold rfCur
  rw [show i + 1 - f = (i - f) + 1 by omega, List.take_succ_eq_append_getElem (by rw [List.length_drop, ← Lib.size_eq]; omega), List.getElem_drop]
  congr 2
  simp only [show f + (i - f) = i by omega]
  rfl
theorem rfCur_self (s : ByteArray) (f : Nat) : rfCur s f f = [] := by simp [rfCur]
theorem rfCur_ext (s : ByteArray) (f i : Nat) : (s.extract f i).data.toList = rfCur s f i := Lib.extract_data s f i
def RfSt (s : ByteArray) (acc : List ByteArray) (f i : Nat) : Prop :=
  acc.length ≤ i ∧ ((f ≤ i ∧ i ≤ s.size ∧ rfGo (acc.map (·.data.toList)) (rfCur s f i) i (s.data.toList.drop i) = psV s.data.toList) ∨ (i = s.size + 1 ∧ f = s.size + 1 ∧ psV s.data.toList = (acc.map (·.data.toList), 0, 0)))
def RfRel (s : ByteArray) (w : World) (t5 t6 t7 : Value) (wr : World) : Prop :=
  ∃ (acc : List ByteArray) (p : Option Addr) (c f i : Nat), t5 = .slice p acc.length c ∧ t6 = .int .i64 f ∧ t7 = .int .i64 i ∧ wr.ownsRow w.heap.size 9 1 (.slice p acc.length c) acc.length (acc.map Value.string) ∧ (acc = [] → p = none ∧ c = 0) ∧ Below w.heap.size w wr ∧ RfSt s acc f i
/-- The row that is handed back. -/
theorem srow_of {w : World} {B : Nat} {p : Option Addr} {c : Nat} {acc : List ByteArray} (h : w.ownsRow B 9 1 (.slice p acc.length c) acc.length (acc.map Value.string)) (h0 : acc = [] → p = none ∧ c = 0) : SRow w (.slice p acc.length c) acc := by
  rcases h.2 with ⟨hv, hn0⟩ | ⟨g, cap, cur, hv, hb, hg, hc, _, _, ht⟩
  · left
    exact ⟨List.length_eq_zero_iff.1 hn0, by rw [hv]⟩
  · by_cases hne : acc = []
    · obtain ⟨rfl, rfl⟩ := h0 hne
      subst hne
      exact .inl ⟨rfl, rfl⟩
    · right
      simp only [Value.slice.injEq] at hv
      obtain ⟨rfl, _, rfl⟩ := hv
      refine ⟨hne, g, 0, c, rfl, hc, (Array.getElem?_eq_some_iff.1 hg).1, fun j x hj => ?_⟩
      have := h.cells (g := g) rfl j (.string x) (by simp [hj])
      have hadd : (⟨g, 0, none⟩ : Addr).add j = ⟨g, j, none⟩ := by unfold Addr.add; split <;> simp_all
      rw [hadd] at this
      rw [Nat.zero_add]
      exact this
theorem rfEnd0 {acc : List (List UInt8)} {cur : List UInt8} {i : Nat} (h : cur = []) (h8 : acc.length = 8) : rfGo acc cur i [] = ([], i, 2) := by rw [rfGo, if_pos h, if_pos h8]
theorem rfEnd1 {acc : List (List UInt8)} {cur : List UInt8} {i : Nat} (h : cur = []) (h8 : acc.length ≠ 8) : rfGo acc cur i [] = ([], i, 90) := by rw [rfGo, if_pos h, if_neg h8]
theorem rfEnd2 {acc : List (List UInt8)} {cur : List UInt8} {i : Nat} (h : cur ≠ []) : rfGo acc cur i [] = (acc ++ [cur], 0, 0) := by rw [rfGo, if_neg h]
theorem rfSep0 {acc : List (List UInt8)} {cur t : List UInt8} {i : Nat} (h : cur = []) (h8 : acc.length = 8) : rfGo acc cur i (47 :: t) = ([], i, 2) := by rw [rfGo, if_pos rfl, if_pos h, if_pos h8]
theorem rfSep1 {acc : List (List UInt8)} {cur t : List UInt8} {i : Nat} (h : cur = []) (h8 : acc.length ≠ 8) : rfGo acc cur i (47 :: t) = ([], i, 90) := by rw [rfGo, if_pos rfl, if_pos h, if_neg h8]
theorem rfSep2 {acc : List (List UInt8)} {cur t : List UInt8} {i : Nat} (h : cur ≠ []) : rfGo acc cur i (47 :: t) = rfGo (acc ++ [cur]) [] (i + 1) t := by rw [rfGo, if_pos rfl, if_neg h]
theorem rfLong {acc : List (List UInt8)} {cur t : List UInt8} {c : UInt8} {i : Nat} (h47 : c ≠ 47) (h : cur = []) (h8 : acc.length = 8) : rfGo acc cur i (c :: t) = ([], i, 2) := by rw [rfGo, if_neg h47, if_pos ⟨h, h8⟩]
theorem rfBad {acc : List (List UInt8)} {cur t : List UInt8} {c : UInt8} {i : Nat} (h47 : c ≠ 47) (h : ¬ (cur = [] ∧ acc.length = 8)) (hc : inNameB c.toNat = false) : rfGo acc cur i (c :: t) = ([], i, 90) := by rw [rfGo, if_neg h47, if_neg h, if_neg (by rw [hc]; decide)]
theorem rfFull {acc : List (List UInt8)} {cur t : List UInt8} {c : UInt8} {i : Nat} (h47 : c ≠ 47) (h : ¬ (cur = [] ∧ acc.length = 8)) (hc : inNameB c.toNat = true) (hl : cur.length = 32) : rfGo acc cur i (c :: t) = ([], i, 2) := by rw [rfGo, if_neg h47, if_neg h, if_pos hc, if_pos hl]
theorem rfNext {acc : List (List UInt8)} {cur t : List UInt8} {c : UInt8} {i : Nat} (h47 : c ≠ 47) (h : ¬ (cur = [] ∧ acc.length = 8)) (hc : inNameB c.toNat = true) (hl : cur.length ≠ 32) : rfGo acc cur i (c :: t) = rfGo acc (cur ++ [c]) (i + 1) t := by rw [rfGo, if_neg h47, if_neg h, if_pos hc, if_neg hl]
theorem rfParse (s : ByteArray) (w : World) (hs : s.size ≤ 9223372036854775807) : Calls Tryd.prog 20 #[.string s] w (PsPost s w) := by
  by_cases hlong : 256 < s.size
  · have HV := hid (show psV s.data.toList = ([], 0, 2) by unfold psV; rw [if_pos (by rw [← ba_size]; exact hlong)])
    go_enter Tryd.func20, Tryd.ntmps20
    go_wp2
    go_ret3
    exact PsPost.no 0 2 HV.out (Below.refl _ _)
  have hsz : s.size ≤ 256 := by omega
  by_cases hempty : s = ⟨#[]⟩
  · have HV := hid (show psV s.data.toList = ([], 0, 90) by rw [hempty]; rfl)
    have z1 : s.toList.isEmpty = true := by rw [hempty, ByteArray.toList_eq]; rfl
    have z2 : s.size = 0 := by rw [hempty]; rfl
    clear hempty
    go_enter Tryd.func20, Tryd.ntmps20
    go_upto_region 4 with (fail)
    all_goals go_wp2
    go_ret3
    exact PsPost.no 0 90 HV.out (Below.refl _ _)
  have n1 := ne_empty hempty
  have hpos : 0 < s.size := by
    rw [ba_size]
    exact List.length_pos_iff.2 (ne_nil hempty)
  have hd0 := drop_at s 0 hpos
  rw [List.drop_zero, Nat.zero_add] at hd0
  by_cases h47 : s[0] = 47
  case neg =>
    have HV := hid (show psV s.data.toList = ([], 0, 90) by
      unfold psV
      rw [if_neg (by rw [← ba_size]; exact hlong), hd0]
      simp only [if_neg h47])
    have hnn : s[0].toNat ≠ 47 := fun e => h47 (UInt8.toNat_inj.1 e)
    have q1 : ((s[0].toNat : Int) == 47) = false := by simp; omega
    have q2 : ((s[0].toNat : Int) != 47) = true := by simp; omega
    clear hd0 h47
    go_enter Tryd.func20, Tryd.ntmps20
    go_wp2
    go_ret3
    exact PsPost.no 0 90 HV.out (Below.refl _ _)
  case pos =>
  have q1 : ((s[0].toNat : Int) == 47) = true := by rw [h47]; rfl
  have q2 : ((s[0].toNat : Int) != 47) = false := by rw [h47]; rfl
  rw [h47] at hd0
  by_cases h1 : s.data.toList.drop 1 = []
  · have HV := hid (show psV s.data.toList = ([], 0, 0) by rw [hd0, h1]; simp [psV])
    have n47 : (s.toList == [47]) = true := by rw [ByteArray.toList_eq, hd0, h1]; rfl
    clear hd0 h1 h47
    go_enter Tryd.func20, Tryd.ntmps20
    go_wp2
    go_ret3
    exact PsPost.no 0 0 HV.out (Below.refl _ _)
  have n47 : (s.toList == [47]) = false := by
    rw [ByteArray.toList_eq, beq_eq_false_iff_ne]
    intro e
    exact h1 (by rw [e]; rfl)
  have HS := hid (show rfGo [] [] 1 (s.data.toList.drop 1) = psV s.data.toList by
    rw [rfGo_psV _ h1 (by rw [← hd0, ← ba_size]; exact hsz), ← hd0])
  obtain ⟨i0, hi, hz0, hz1, hz2⟩ := info_parts infoS
  have Hi := hid hi
  have Hz0 := hid hz0
  have Hz1 := hid hz1
  have Hz2 := hid hz2
  clear hi hz0 hz1 hz2 hd0 h1 h47
  go_enter Tryd.func20, Tryd.ntmps20
  go_wp2
  go_loopw [5, 6, 7] (fun t5 t6 t7 wr => RfRel s w t5 t6 t7 wr) (fun _ _ t7 _ => s.size + 1 - (intOf t7).toNat)
  case atStart => exact ⟨[], none, 0, 1, 1, rfl, rfl, rfl, World.ownsRow_nil _ _ _ _, fun _ => ⟨rfl, rfl⟩, Below.refl _ _, by simp, .inl ⟨Nat.le_refl _, hpos, by rw [rfCur_self]; exact HS.out⟩⟩
  case round =>
    obtain ⟨acc, p, c, f, i, rfl, rfl, rfl, hown, hnil, hb, hal, hst⟩ := hrel
    have HO := hid hown
    have HB := hid hb
    have HNil := hid hnil
    clear hown hb hnil q1 q2 n47 n1
    rcases hst with ⟨hf, hi, hr⟩ | ⟨hi, hf, hr⟩
    case inr =>
      have HR := hid hr
      have le1 : ¬ i ≤ s.size := by omega
      have e1 : ((f : Int) == (s.size : Int)) = false := by simp; omega
      have HF := hid hf
      have HI := hid hi
      clear hf hi hr
      go_wp2
      go_ret3
      exact ⟨_, acc, by rw [HR.out]; rfl, by rw [HR.out], srow_of HO.out HNil.out, HB.out⟩
    case inl =>
    have HR := hid hr
    clear hr
    have hil : i ≤ 9223372036854775806 := by omega
    by_cases hlt : i < s.size
    · have HD := hid (drop_at s i hlt)
      by_cases hc47 : s[i] = 47
      · have q1 : ((s[i].toNat : Int) == 47) = true := by rw [hc47]; rfl
        have q2 : ((s[i].toNat : Int) != 47) = false := by rw [hc47]; rfl
        have HD' := hid (show s.data.toList.drop i = 47 :: s.data.toList.drop (i + 1) by rw [HD.out, hc47])
        clear hc47 HD
        have HD := HD'
        by_cases hif : i = f
        · subst hif
          by_cases h8 : acc.length = 8
          · have e8 : ((acc.length : Int) == 8) = true := by simp; omega
            have H8 := hid h8
            clear h8
            go_wp2
            go_ret3
            have hv : psV s.data.toList = ([], i, 2) := by
              rw [← HR.out, HD.out, rfCur_self, rfSep0 rfl (by rw [List.length_map]; exact H8.out)]
            exact PsPost.no i 2 hv HB.out
          · have e8 : ((acc.length : Int) == 8) = false := by simp; omega
            have H8 := hid h8
            clear h8
            go_wp2
            go_ret3
            have hv : psV s.data.toList = ([], i, 90) := by
              rw [← HR.out, HD.out, rfCur_self, rfSep1 rfl (by rw [List.length_map]; exact H8.out)]
            exact PsPost.no i 90 hv HB.out
        · have e1 : ((i : Int) == (f : Int)) = false := by simp; omega
          have HNE := hid (show rfCur s f i ≠ [] by rw [Ne, rfCur_nil hf hi]; exact hif)
          clear hif
          go_wp2_with (at_builtin; refine wpList_append_own _ rfl _ _ 24 rfl w.heap.size 9 i0 (.string ByteArray.empty) 1 16 Tryd.underlying24 Hi.out Hz0.out Hz1.out Hz2.out rfl (by decide) _ _ _ rfl (HO.out.alloc _) ⟨wr.heap.size, 0, none⟩ 1 1 [.string (s.extract f i)] rfl rfl (cell_one_new _ _ _) (fun x hx => by simp at hx; subst hx; rfl) (by unfold maxLen; omega) (by omega) (by have := HB.out.size; simp; omega) ?_; intro v' w3 hown' hgrow hnil; clear hnil; obtain ⟨g3, c3, rfl⟩ := ownsRow_succ hown'; have HO3 := hid hown'; have HG3 := hid hgrow; clear hown' hgrow)
          go_roundw
          case rel =>
            have R : RfRel s w (.slice (some ⟨g3, 0, none⟩) (acc.length + 1) c3) (.int .i64 (i + 1)) (.int .i64 (i + 1)) w3 := by
              refine ⟨acc ++ [s.extract f i], some ⟨g3, 0, none⟩, c3, i + 1, i + 1, by simp, by go_num, by go_num, ?_, fun e => by simp at e, (HB.out.alloc HB.out.size _).grown HG3.out (by simp; have := HB.out.size; omega) (fun q hq => (HO.out.lt q hq).1), by simp; omega, ?_⟩
              · have := HO3.out
                simpa using this
              · exact .inl ⟨Nat.le_refl _, by omega, by rw [← HR.out, HD.out, rfSep2 HNE.out, List.map_append, List.map_cons, List.map_nil, rfCur_ext, rfCur_self]⟩
            first
              | exact R
              | ((repeat apply Exists.intro); exact ⟨R, rfl⟩)
          case measure => simp [intOf]; omega
      · have hnn : s[i].toNat ≠ 47 := fun e => hc47 (UInt8.toNat_inj.1 e)
        have q1 : ((s[i].toNat : Int) == 47) = false := by simp; omega
        have q2 : ((s[i].toNat : Int) != 47) = true := by simp; omega
        have HC47 := hid hc47
        clear hc47 hnn
        by_cases hlg : i = f ∧ acc.length = 8
        · obtain ⟨rfl, h8⟩ := hlg
          have e8 : ((acc.length : Int) == 8) = true := by simp; omega
          have H8 := hid h8
          clear h8
          go_wp2
          go_ret3
          have hv : psV s.data.toList = ([], i, 2) := by
            rw [← HR.out, HD.out, rfCur_self, rfLong HC47.out rfl (by rw [List.length_map]; exact H8.out)]
          exact PsPost.no i 2 hv HB.out
        have HLG := hid (show ¬ (rfCur s f i = [] ∧ (acc.map (·.data.toList)).length = 8) by rw [rfCur_nil hf hi, List.length_map]; exact hlg)
        have hg : (((i : Int) == (f : Int)) = false) ∨ (i = f ∧ ((acc.length : Int) == 8) = false) := by
          by_cases h : i = f
          · right; exact ⟨h, by have : acc.length ≠ 8 := fun e => hlg ⟨h, e⟩; simp; omega⟩
          · left; simp; omega
        clear hlg
        cases hin : inNameB (s[i]).toNat with
        | false =>
          have HIN := hid hin
          rcases hg with hg | ⟨rfl, hg⟩
          · go_wp2_with (go_at_call 39; refine (rfLet _ _).mono ?_; rintro e w' ⟨rfl, rfl⟩)
            go_ret3
            have hv : psV s.data.toList = ([], i, 90) := by
              rw [← HR.out, HD.out, rfBad HC47.out HLG.out HIN.out]
            exact PsPost.no i 90 hv HB.out
          · go_wp2_with (go_at_call 39; refine (rfLet _ _).mono ?_; rintro e w' ⟨rfl, rfl⟩)
            go_ret3
            have hv : psV s.data.toList = ([], i, 90) := by
              rw [← HR.out, HD.out, rfBad HC47.out HLG.out HIN.out]
            exact PsPost.no i 90 hv HB.out
        | true =>
          have HIN := hid hin
          by_cases h32 : i - f = 32
          · have e32 : ((i : Int) - (f : Int) == 32) = true := by simp; omega
            have e1 : ((i : Int) == (f : Int)) = false := by simp; omega
            have H32 := hid (show (rfCur s f i).length = 32 by rw [rfCur_len hf hi]; exact h32)
            clear h32 hg
            go_wp2_with (go_at_call 39; refine (rfLet _ _).mono ?_; rintro e w' ⟨rfl, rfl⟩)
            go_ret3
            have hv : psV s.data.toList = ([], i, 2) := by
              rw [← HR.out, HD.out, rfFull HC47.out HLG.out HIN.out H32.out]
            exact PsPost.no i 2 hv HB.out
          · have e32 : ((i : Int) - (f : Int) == 32) = false := by simp; omega
            have HX := hid (show RfSt s acc f (i + 1) from ⟨by omega, .inl ⟨by omega, hlt, by rw [rfCur_succ hf hlt, ← rfNext HC47.out HLG.out HIN.out (by rw [rfCur_len hf hi]; exact h32), ← HD.out, HR.out]⟩⟩)
            clear h32
            rcases hg with hg | ⟨rfl, hg⟩
            · go_wp2_with (go_at_call 39; refine (rfLet _ _).mono ?_; rintro e w' ⟨rfl, rfl⟩)
              go_roundw
              case rel => exact ⟨acc, p, c, f, i + 1, rfl, rfl, by go_num, HO.out, HNil.out, HB.out, HX.out⟩
              case measure => simp [intOf]; omega
            · go_wp2_with (go_at_call 39; refine (rfLet _ _).mono ?_; rintro e w' ⟨rfl, rfl⟩)
              go_roundw
              case rel => exact ⟨acc, p, c, i, i + 1, rfl, rfl, by go_num, HO.out, HNil.out, HB.out, HX.out⟩
              case measure => simp [intOf]; omega
    · have hie : i = s.size := by omega
      have HD := hid (show s.data.toList.drop i = [] by rw [hie]; exact List.drop_of_length_le (by simp))
      clear hie
      by_cases hif : i = f
      · subst hif
        by_cases h8 : acc.length = 8
        · have e8 : ((acc.length : Int) == 8) = true := by simp; omega
          have H8 := hid h8
          clear h8
          go_wp2
          go_ret3
          have hv : psV s.data.toList = ([], i, 2) := by
            rw [← HR.out, HD.out, rfCur_self, rfEnd0 rfl (by rw [List.length_map]; exact H8.out)]
          exact PsPost.no i 2 hv HB.out
        · have e8 : ((acc.length : Int) == 8) = false := by simp; omega
          have H8 := hid h8
          clear h8
          go_wp2
          go_ret3
          have hv : psV s.data.toList = ([], i, 90) := by
            rw [← HR.out, HD.out, rfCur_self, rfEnd1 rfl (by rw [List.length_map]; exact H8.out)]
          exact PsPost.no i 90 hv HB.out
      · have e1 : ((i : Int) == (f : Int)) = false := by simp; omega
        have HNE := hid (show rfCur s f i ≠ [] by rw [Ne, rfCur_nil hf hi]; exact hif)
        clear hif
        go_wp2_with (at_builtin; refine wpList_append_own _ rfl _ _ 24 rfl w.heap.size 9 i0 (.string ByteArray.empty) 1 16 Tryd.underlying24 Hi.out Hz0.out Hz1.out Hz2.out rfl (by decide) _ _ _ rfl (HO.out.alloc _) ⟨wr.heap.size, 0, none⟩ 1 1 [.string (s.extract f i)] rfl rfl (cell_one_new _ _ _) (fun x hx => by simp at hx; subst hx; rfl) (by unfold maxLen; omega) (by omega) (by have := HB.out.size; simp; omega) ?_; intro v' w3 hown' hgrow hnil; clear hnil; obtain ⟨g3, c3, rfl⟩ := ownsRow_succ hown'; have HO3 := hid hown'; have HG3 := hid hgrow; clear hown' hgrow)
        go_roundw
        case rel =>
          have R : RfRel s w (.slice (some ⟨g3, 0, none⟩) (acc.length + 1) c3) (.int .i64 (i + 1)) (.int .i64 (i + 1)) w3 := by
            refine ⟨acc ++ [s.extract f i], some ⟨g3, 0, none⟩, c3, i + 1, i + 1, by simp, by go_num, by go_num, ?_, fun e => by simp at e, (HB.out.alloc HB.out.size _).grown HG3.out (by simp; have := HB.out.size; omega) (fun q hq => (HO.out.lt q hq).1), by simp; omega, ?_⟩
            · have := HO3.out
              simpa using this
            · exact .inr ⟨by omega, by omega, by rw [← HR.out, HD.out, rfEnd2 HNE.out, List.map_append, List.map_cons, List.map_nil, rfCur_ext]⟩
          first
            | exact R
            | ((repeat apply Exists.intro); exact ⟨R, rfl⟩)
        case measure => simp [intOf]; omega
end Go.Proofs.YtmnolfaejneomaaDoor
