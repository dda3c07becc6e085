/-
  Package dom: its small calls; lay, placed.
-/
import Derived.Test.YtbbaplcfhofeeaaK23
import Derived.BigRegion
import Derived.Deep.RegionHeld3
import Derived.Handy
set_option linter.unusedSimpArgs false
set_option linter.unusedVariables false
namespace Go.Proofs.Ytbbaplcfhofeeaa.Dm
open Go.RowKit
set_option maxHeartbeats 2000000

theorem hMade (H : Nat) (a : Addr) (w : World) (h : w.cell? ⟨H, 0, none⟩ = some (.pointer (some a))) : Calls Try.prog 15 #[.pointer (some ⟨H, 0, none⟩)] w fun e w' => e = .returned (.bool true) ∧ w = w' := by
  go_enter Try.func15, Try.ntmps15
  go_wp2
  go_ret
  exact ⟨rfl, rfl⟩
theorem hMachine (H : Nat) (a : Addr) (w : World) (h : w.cell? ⟨H, 0, none⟩ = some (.pointer (some a))) : Calls Try.prog 5 #[.pointer (some ⟨H, 0, none⟩)] w fun e w' => e = .returned (.pointer (some a)) ∧ w = w' := by
  have HM := hid (hMade H a w h)
  go_enter Try.func5, Try.ntmps5
  go_wp2_with (go_at_call 15; refine HM.out.mono ?_; rintro e w' ⟨rfl, rfl⟩)
  go_ret
  exact ⟨rfl, rfl⟩
/-- at, of a number that has a domain -/
theorem hAt (H d : Nat) (a : Addr) (w : World) (st sz gr : Int) (pl : Option Nat) (hd : d < 8) (hst : st ≠ 0) (h : w.cell? ⟨H, 0, none⟩ = some (.pointer (some a))) (h0 : w.cell? ⟨H, 4 + d * 4, none⟩ = some (.int .i64 st)) (h1 : w.cell? ⟨H, 4 + d * 4 + 1, none⟩ = some (.int .i64 sz)) (h2 : w.cell? ⟨H, 4 + d * 4 + 2, none⟩ = some (.int .i64 gr)) (h3 : w.cell? ⟨H, 4 + d * 4 + 3, none⟩ = some (plB pl)) :
    Calls Try.prog 18 #[.pointer (some ⟨H, 0, none⟩), .int .i64 d] w fun e w' => e = .returned (.tuple #[.pointer (some ⟨H, 4 + d * 4, none⟩), .int .i64 0]) ∧ w = w' := by
  have HM := hid (hMade H a w h)
  have hd0 : (0 : Int) ≤ d := by omega
  have hd8 : (d : Int) < 8 := by omega
  have hs : (st == 0) = false := by simpa using hst
  clear h hst
  cases pl with
  | none =>
    change w.cell? _ = some (Value.pointer none) at h3
    go_enter Try.func18, Try.ntmps18
    go_wp2_with (go_at_call 15; refine HM.out.mono ?_; rintro e w' ⟨rfl, rfl⟩)
    go_ret2
    exact ⟨rfl, rfl⟩
  | some b =>
    change w.cell? _ = some (Value.pointer (some ⟨b, 0, none⟩)) at h3
    go_enter Try.func18, Try.ntmps18
    go_wp2_with (go_at_call 15; refine HM.out.mono ?_; rintro e w' ⟨rfl, rfl⟩)
    go_ret2
    exact ⟨rfl, rfl⟩
/-- a slice of numbers -/
def IntsAt (w : World) (v : Value) (l : List Nat) : Prop := ∃ g o c, v = .slice (some ⟨g, o, none⟩) l.length c ∧ ∀ j (h : j < l.length), w.cell? ⟨g, o + j, none⟩ = some (.int .i64 (l[j] : Nat))
theorem IntsAt.grown {w w' : World} {v : Value} {l : List Nat} (h : IntsAt w v l) (hg : w.grownBy w' none) : IntsAt w' v l := by
  obtain ⟨g, o, c, rfl, h⟩ := h
  exact ⟨g, o, c, rfl, fun j hj => hg.cell (h j hj) (by simp)⟩
set_option maxRecDepth 100000 in
theorem hPlaced (l : List Nat) (v : Value) (w : World) (hv : IntsAt w v l) (hl : l.length ≤ 48) (hm : ∀ x ∈ l, x < 256) (hnd : l.Nodup) :
    Calls Try.prog 29 #[v] w fun e w' => ∃ v, e = .returned (.tuple #[v, .int .i64 0]) ∧ NewP w (placeM l l.length) 48 v w' := by
  have HV := hid hv
  obtain ⟨g, o, c, rfl, hc⟩ := hv
  have HS := hid (placeM_set l hl hm hnd)
  have HM := hid hm
  obtain ⟨n, hn⟩ : ∃ n, l.length = n := ⟨_, rfl⟩
  have HN := hid hn
  rw [hn] at hl HV ⊢
  clear hc hm hnd hn
  go_enter Try.func29, Try.ntmps29
  go_wp2_with (go_at_call 41; refine (pNew_yes 48 _ (by omega)).mono ?_; rintro e w1 ⟨v1, rfl, b, f, p, rfl, hP, hg, hf⟩; have H1 := hid hP; have G1 := hid hg; have F1 := hid hf; clear hP hg hf)
  go_loopw [18] (fun x wr => ∃ j : Nat, x = .int .i64 j ∧ j ≤ n ∧ PMap wr b f p (placeM l j) j ∧ w.grownBy wr none) (fun x _ => n - (intOf x).toNat)
  case atStart => exact ⟨0, rfl, by omega, H1.out, G1.out⟩
  case round =>
    obtain ⟨j, rfl, hj, hp, hg⟩ := hrel
    have HP := hid hp; have HG := hid hg
    have hj0 : (0 : Int) ≤ j := by omega
    clear hp hg
    by_cases hjn : j < n
    · have hjn' : (j : Int) < n := by omega
      have hjl : j < l.length := by rw [HN.out]; exact hjn
      obtain ⟨g', o', c', e', hc⟩ := HV.out.grown HG.out
      cases e'
      have y := hc j hjl
      clear hc
      have hx := HM.out _ (List.getElem_mem hjl)
      have hSet := HS.out j hjl
      obtain ⟨m, hm⟩ : ∃ m, l[j] = m := ⟨_, rfl⟩
      rw [hm] at y hx hSet
      have HSet := hid hSet
      have HX := hid hx
      clear hSet hm hx
      go_wp2_with (go_at_call 42; refine (pSet_yes b f p (placeM l j) j j m (I64.of (by omega) (by omega)) (I64.of (by have := HX.out; omega) (by have := HX.out; omega)) (by unfold maxLen; omega) _ HP.out).mono ?_; rw [HSet.out]; rintro e w2 ⟨rfl, hl2⟩; have HP2 := hid hl2.map; have HG2 := hid ((Chg.ofGen hl2.chg).grown HG.out F1.out); clear hl2)
      go_roundw
      case rel => exact ⟨j + 1, by go_num, by omega, HP2.out, HG2.out⟩
      case measure => simp [intOf]; omega
    · obtain rfl : j = n := by omega
      have hge : ¬ ((j : Int) < j) := by omega
      go_wp2
      go_ret2
      exact ⟨_, rfl, b, f, p, rfl, HP.out.mono hl, HG.out, F1.out⟩
theorem bcells_snoc4 (m : Nat) (l : List UInt8) (hm : m < 256) : bcells (l ++ entB m) = bcells l ++ [.int .u8 3, .int .u8 (m : Int), .int .u8 0, .int .u8 0] := by
  simp only [bcells, List.map_append, entB, List.map_cons, List.map_nil]
  rw [UInt8.toNat_ofNat', Nat.mod_eq_of_lt (by omega : m < 2 ^ 8)]
  rfl
/-- an own row of bytes is bytes that a write may take -/
theorem isBytes_own {w : World} {base B n : Nat} {v : Value} {l : List UInt8} (h : w.ownsRow base 5 1 v n (bcells l)) (hl : l.length = n) (hb : ∀ g, v.ownBlock = some g → base ≤ g) (hB : B < base) : IsBytes w B v l := by
  obtain ⟨h1, ⟨rfl, h2⟩ | ⟨g, cap, cur, rfl, hbg, hg, hc, _, _, ht⟩⟩ := h
  · exact .inl ⟨⟨none, 0, rfl⟩, List.eq_nil_of_length_eq_zero (by omega)⟩
  · refine .inr ⟨⟨g, 0, none⟩, cap, by rw [hl], by show g ≠ B; omega, fun k x hx => ?_⟩
    have hk : k < l.length := (List.getElem?_eq_some_iff.1 hx).1
    rw [Addr.add_lit]
    rw [cell_of_row w g (0 + k) _ _ _ hg, ← Array.getElem?_toList, Nat.zero_add]
    have e : (cur.toList.take (n * 1))[k]? = (bcells l)[k]? := by rw [ht]
    rw [List.getElem?_take, if_pos (by omega)] at e
    rw [e, bcells_get, hx]
    rfl
set_option maxRecDepth 100000 in
theorem hLay (H B t : Nat) (A : Mach) (T : Int) (l : List Nat) (v : Value) (w : World) (hB : PM w B A) (hok : A.ok T) (c0 : w.cell? ⟨H, 0, none⟩ = some (.pointer (some ⟨B, 0, none⟩))) (hv : IntsAt w v l) (hl : l.length ≤ 48) (hm : ∀ x ∈ l, x < 256) :
    Calls Try.prog 30 #[.pointer (some ⟨H, 0, none⟩), .int .i64 t, v] w fun e w' => e = .returned (.int .i64 (A.write t 0 (entsB l)).1) ∧ PM w' B (A.write t 0 (entsB l)).2 ∧ w.grownBy w' (some B) := by
  obtain ⟨i0, hi, hz0, hz1, hz2⟩ := info_parts info_u8
  have Hi := hid hi; have Hz0 := hid hz0; have Hz1 := hid hz1; have Hz2 := hid hz2
  clear hi hz0 hz1 hz2
  have HV := hid hv
  obtain ⟨g, o, c, rfl, hc⟩ := hv
  have HM := hid hm
  have HB := hid hB; have HOk := hid hok; have HC := hid c0
  obtain ⟨n, hn⟩ : ∃ n, l.length = n := ⟨_, rfl⟩
  have HN := hid hn
  rw [hn] at hl HV ⊢
  clear hc hm hn hB hok c0
  go_enter Try.func30, Try.ntmps30
  go_wp2
  go_loopw [7, 14] (fun v i wr => ∃ k : Nat, i = .int .i64 k ∧ k ≤ n ∧ wr.ownsRow w.heap.size 5 1 v (4 * k) (bcells (entsB (l.take k))) ∧ w.grownBy wr none) (fun _ i _ => n - (intOf i).toNat)
  case atStart => exact ⟨0, rfl, by omega, by simpa [entsB, bcells] using World.ownsRow_nil w w.heap.size 5 1, World.grownBy.refl _ _⟩
  case round =>
    obtain ⟨k, rfl, hkn, ho, hg⟩ := hrel
    have HG := hid hg
    have hk0 : (0 : Int) ≤ k := by omega
    obtain ⟨pv, cv, hvv⟩ := ownsRow_slice ho
    subst hvv
    have HO := hid ho
    clear hg ho
    by_cases hlt : k < n
    · have hlt' : (k : Int) < n := by omega
      have hjl : k < l.length := by rw [HN.out]; exact hlt
      obtain ⟨g', o', c', e', hc⟩ := HV.out.grown HG.out
      cases e'
      have y := hc k hjl
      clear hc
      have hx := HM.out _ (List.getElem_mem hjl)
      have HT := hid (show entsB (l.take (k + 1)) = entsB (l.take k) ++ entB l[k] by rw [List.take_add_one, List.getElem?_eq_getElem hjl, entsB_app]; simp [entsB])
      obtain ⟨m, hm⟩ : ∃ m, l[k] = m := ⟨_, rfl⟩
      rw [hm] at y hx HT
      have HX := hid hx
      have HPk := hid (fun w => show Calls Try.prog 43 #[.agg #[.bool true, .bool true, .int .i64 m]] w fun e w' => e = .returned (.tuple #[.int .u32 ((m : Int) * 256 + 3), .int .i64 0]) ∧ w.grownBy w' none from (pack_yes true m w (by omega)).mono fun e w' h => ⟨h.1.trans (by simp [b2i]; omega), h.2⟩)
      have u0 : IntKind.u8.wrap ((m : Int) * 256 + 3) = 3 := by rw [IntKind.wrap_u8]; omega
      have u1 : ((m : Int) * 256 + 3) / 256 = m := by omega
      have u2 : IntKind.u8.wrap (m : Int) = m := by rw [IntKind.wrap_u8]; omega
      have u3 : ((m : Int) * 256 + 3) / 65536 = 0 := by omega
      have u4 : ((m : Int) * 256 + 3) / 16777216 = 0 := by omega
      have hm256 : (m : Int) ≤ 255 := by omega
      clear hm hx
      go_wp2_with (first
        | (go_at_call 43; refine (HPk.out _).mono ?_; rintro e w1 ⟨rfl, hg1⟩; have G1 := hid (HG.out.trans hg1); have O1 := hid (own_grown HO.out hg1); clear hg1)
        | (at_builtin; refine wpList_append_own _ rfl _ _ 103 rfl w.heap.size 5 i0 (.int .u8 0) 1 1 Try.underlying103 Hi.out Hz0.out Hz1.out Hz2.out rfl (by decide) _ _ _ rfl (O1.out.alloc _) ⟨w1.heap.size, 0, none⟩ 4 4 [.int .u8 3, .int .u8 (m : Int), .int .u8 0, .int .u8 0] rfl rfl (World.news_of_block (heap_alloc_new w1 _)) (by simp [Value.oneCell']) (by unfold maxLen; omega) (by omega) (by have := G1.out.size; simp; omega) ?_; intro v' w2 hown' hgrow hnil; clear hnil; have HO3 := hid hown'; have HG3 := hid ((G1.out.trans (World.grownBy_alloc w1 _ none)).andThen hgrow (fun j hj => .inl (O1.out.lt j hj).1)); clear hown' hgrow)
        | fail)
      go_roundw
      case rel => exact ⟨k + 1, by go_num, by omega, by rw [HT.out, bcells_snoc4 m _ HX.out, show 4 * (k + 1) = 4 * k + 4 by omega]; exact HO3.out, HG3.out⟩
      case measure => simp [intOf]; omega
    · obtain rfl : k = n := by omega
      have hge : ¬ ((k : Int) < k) := by omega
      have hTe : l.take k = l := List.take_of_length_le (by rw [HN.out]; exact Nat.le_refl _)
      rw [hTe] at HO
      have hne : ∀ gg, (Value.slice pv (4 * k) cv).ownBlock = some gg → w.heap.size ≤ gg := fun gg e => (HO.out.lt gg e).1
      have hlen : (entsB l).length = 4 * k := by rw [entsB_len, HN.out]
      have c1 := HG.out.cell HC.out (by simp)
      have HMw := hid (HB.out.grown HG.out (by simp))
      have HIs := hid (isBytes_own HO.out hlen hne (HB.out.lt))
      have HLen := hid hlen
      clear hTe hne hlen
      go_wp2_with (go_at_call 44; refine (Write_any B t 0 _ (entsB l) _ A T HMw.out HOk.out (by omega) HIs.out (by rw [HLen.out]; omega)).mono ?_; rintro e w2 ⟨rfl, hm2, hg2⟩; have HM2 := hid hm2; have HG2 := hid ((HG.out.but (some B)).trans hg2); clear hm2 hg2)
      go_ret
      exact ⟨rfl, HM2.out, HG2.out⟩
end Go.Proofs.Ytbbaplcfhofeeaa.Dm
