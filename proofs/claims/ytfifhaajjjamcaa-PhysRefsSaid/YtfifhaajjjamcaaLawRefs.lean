/-
  PhysRefs: for every row of kinds and every bytes the law returns true, and what was there stays. No condition.
-/
import Derived.Test.YtfifhaajjjamcaaRefsPure
import Derived.ProofKit
import Derived.OpenShut
import Derived.Below
import Derived.SizedLaws
namespace Go.Proofs.Ytfifhaajjjamcaa.lawRefs
open Go.ChangeShapes Go.WideShapes Go.ChangeAt Go.RowKit
set_option maxHeartbeats 1000000

theorem own : ownKnob Try.prog.godebug = none := by kernel_rfl
theorem laidOut : laidOutB Try.prog = true := by kernel_rfl

theorem New_one (w : World) : Calls Try.prog 10 #[.int .i64 1] w fun e w' => ∃ v, e = .returned (.tuple #[v, .int .i64 0]) ∧ NewMach w (upTo 1 1) v w' := New_yes 1 w (by omega) (by omega)
theorem Frame_ref (B : Nat) (w : World) (bs : Nat → UInt8) (tk : List Int) (n : Nat) (hn : tk.length = n) (h : Tk tk) (hM : PM w B (rM bs tk)) : Calls Try.prog 19 #[.pointer (some ⟨B, 0, none⟩), .int .i64 0] w fun e w' =>
    e = .returned (.tuple #[.agg #[.int .i64 3, .int .i64 ((nz tk).headD 0), .int .i64 (nz tk).length, .int .i64 n], .int .i64 0]) ∧ w.grownBy w' none := by
  subst hn
  exact Frame_yes B 0 w _ _ hM (rM_ok bs h) (show (0 : Int) < 1 by omega)
theorem Frame_none (B : Nat) (w : World) (bs : Nat → UInt8) (hM : PM w B (rM bs [])) : Calls Try.prog 19 #[.pointer (some ⟨B, 0, none⟩), .int .i64 0] w fun e w' =>
    e = .returned (.tuple #[.agg #[.int .i64 3, .int .i64 0, .int .i64 0, .int .i64 0], .int .i64 0]) ∧ w.grownBy w' none := Frame_ref B w bs [] 0 rfl Tk.nil hM
theorem some_ne {B : Nat} {x : Option Nat} (h : x = none ∨ x ≠ some B) : some B ≠ x := by
  rcases h with rfl | h
  · simp
  · exact fun e => h e.symm
theorem none_row (v : Value) : v.ownBlock = none ∨ v.ownBlock ≠ none := by cases v.ownBlock <;> simp
theorem row_cell {base : Nat} {W : World} {e : TypeId} {p : Option Addr} {n c : Nat} {l : List Int} (h : W.ownsRow base e 1 (.slice p n c) n (l.map (Value.int .i64))) {j : Nat} (hl : j < l.length) :
    ∃ g, p = some ⟨g, 0, none⟩ ∧ W.cell? ⟨g, j, none⟩ = some (.int .i64 l[j]) := by
  have hn : l.length = n := by have := h.1; simpa using this
  obtain ⟨n, rfl⟩ : ∃ m, n = m + 1 := ⟨n - 1, by omega⟩
  obtain ⟨g, cap, e⟩ := ownsRow_succ h
  cases e
  refine ⟨g, rfl, ?_⟩
  rw [h.cellAt j (by omega)]
  simp [hl]
def kcells (l : List Int) : List Value := l.map (Value.int .i64)
theorem kcells_len (l : List Int) : (kcells l).length = l.length := by simp [kcells]
theorem kcells_snoc (l : List Int) (k : Int) : kcells (l ++ [k]) = kcells l ++ [.int .i64 k] := by simp [kcells]

set_option maxRecDepth 100000 in
theorem walk (pk : Option Addr) (capk : Nat) (ks : List Int) (pa : Option Addr) (cap : Nat) (l : List UInt8) (w : World) (hb : InBytes w pa l) (hmax : l.length ≤ 9223372036854775807)
    (hreach : ks.length * 8 ≤ 140737488351232) (hk : ∀ k, k < ks.length → ∃ b o, pk = some ⟨b, o, none⟩ ∧ w.cell? ⟨b, o + k, none⟩ = some (.int .i64 (ks.getD k 0))) :
    Calls Try.prog 5 #[.slice pk ks.length capk, .slice pa l.length cap] w fun e w' => e = .returned (.bool true) ∧ w.grownBy w' none := by
  obtain ⟨bs, rw1, hwr⟩ := write_one l
  have HB := hid hb; have HK := hid hk; have HW := hid hwr
  obtain ⟨i0, hi, hz0, hz1, hz2⟩ := info_parts info_int
  have Hi := hid hi; have Hz0 := hid hz0; have Hz1 := hid hz1; have Hz2 := hid hz2
  clear hb hk hwr hi hz0 hz1 hz2
  go_enter Try.func5, Try.ntmps5
  go_wp2_with (first
    | (go_at_call 10; refine (New_one _).mono ?_; rintro e w1 ⟨v, rfl, B, rfl, hB, hM1, hg1⟩; have HM1 := hid hM1; have HG1 := hid hg1; clear hM1 hg1)
    | (go_at_call 15; refine (Alloc_any B 3 _ _ 0 HM1.out upTo1_ok).mono ?_; rw [alloc_one]; rintro e w2 ⟨rfl, hM2, hg2⟩; have HM2 := hid hM2; have HG2 := hid hg2; clear hM2 hg2 HM1)
    | (go_at_call 14; refine (Write_any B 0 0 _ l _ one 0 HM2.out one_ok (by omega) ((HB.out.is B hB).grown ((HG1.out.but _).trans HG2.out)) hmax).mono ?_; rw [HW.out]; rintro e w4 ⟨rfl, hM4, hg4⟩; have HM4 := hid hM4; have HG4 := hid (HG1.out.andThen (HG2.out.trans hg4) (fun j hj => by cases hj; exact .inl hB)); clear hM4 hg4)
    | (go_at_call 19; refine (Frame_none B _ bs HM4.out).mono ?_; rintro e w5 ⟨rfl, hg5⟩; have HM5 := hid (HM4.out.grown hg5 (by simp)); have HG5 := hid (HG4.out.trans hg5); clear hg5))
  obtain ⟨W0, hW0⟩ : ∃ W0, w5.alloc (.cells #[.int .i64 3, .int .i64 0, .int .i64 0, .int .i64 0] 44) = W0 := ⟨_, rfl⟩
  have HF := hid (show W0.heap[w5.heap.size]? = some (.cells #[.int .i64 3, .int .i64 0, .int .i64 0, .int .i64 0] 44 (0, 0)) from by rw [← hW0]; exact heap_alloc_new w5 _)
  have hs0 : W0.heap.size = w5.heap.size + 1 := by rw [← hW0]; simp
  have HG0 := hid (show w.grownBy W0 none from by rw [← hW0]; exact HG5.out.trans (World.grownBy_alloc w5 _ none))
  have HM0 := hid (show PM W0 B (rM bs []) from by rw [← hW0]; exact HM5.out.alloc _)
  have hBlt : B < w5.heap.size := HM5.out.lt
  rw [hW0]
  clear hW0 HM5 HG5 HM4 HG4 HM2 HG2 HG1
  go_loopw [9, 10] (fun v i wr => ∃ (k : Nat) (tk : List Int), i = .int .i64 k ∧ k ≤ ks.length ∧ tk.length ≤ k ∧ Tk tk ∧ PM wr B (rM bs tk) ∧ wr.ownsRow W0.heap.size 3 1 v tk.length (kcells tk) ∧ SameBut W0.heap.size B W0 wr) (fun _ i _ => ks.length - (intOf i).toNat)
  case atStart => exact ⟨0, [], rfl, by omega, by simp, Tk.nil, HM0.out, World.ownsRow_nil _ _ _ _, SameBut.refl _ _ _⟩
  case round =>
    obtain ⟨k, tk, rfl, hk, htl, htk, hM, hrow, hsb⟩ := hrel
    have HM := hid hM; have HR := hid hrow; have HS := hid hsb; have HT := hid htk
    obtain ⟨pv, cv, hv⟩ := ownsRow_slice hrow
    subst hv
    clear hM hrow hsb htk
    by_cases hlt : k < ks.length
    · have hlt' : (k : Int) < ks.length := by omega
      obtain ⟨kb, ko, rfl, hc⟩ := HK.out k hlt
      generalize ks.getD k 0 = x at hc
      have hkb := World.block_lt_of_cell? w _ hc
      have hcr := HS.out.cell (HG0.out.cell hc (by simp)) (by show kb < _; have : kb < w.heap.size := hkb; omega) (by show kb ≠ B; have : kb < w.heap.size := hkb; omega)
      have hkbB : kb ≠ B := by have : kb < w.heap.size := hkb; omega
      clear hc hkb
      rcases get_any bs HT.out x with ⟨hget, htk'⟩ | ⟨r, hr, hget⟩
      · have HT' := hid htk'
        have HGT := hid hget
        clear htk' hget
        go_wp2_with (first
          | (go_at_call 22; refine (Get_any B 0 3 x _ _ tk.length HM.out (rM_ok bs HT.out) (by omega)).mono ?_; rw [HGT.out]; rintro e wa ⟨rfl, hMa, hga⟩; have hca := hga.cell hcr (by simp; omega); have HMa := hid hMa; have HGa := hid hga; have HRa := hid (HR.out.kept hga (own_ne HR.out (by omega))); have HSa := hid (HS.out.grow hga (fun j hj => by cases hj; exact .inl rfl)); clear hMa hga hcr)
          | (at_builtin; refine wpList_append_own _ rfl _ _ 41 rfl W0.heap.size 3 i0 (.int .i64 0) 1 8 Try.underlying41 Hi.out Hz0.out Hz1.out Hz2.out rfl (by decide) _ _ _ rfl (HRa.out.alloc _) ⟨wa.heap.size, 0, none⟩ 1 1 [.int .i64 x] rfl rfl (cell_one_new _ _ _) (by simp [Value.oneCell']) (by unfold maxLen; omega) (by omega) (by have := HSa.out.size; simp; omega) ?_; intro v' wb hown' hgrow hnil; clear hnil; obtain ⟨g', cap', rfl⟩ := ownsRow_succ hown'; have HRb := hid hown'; have HMb := hid ((HMa.out.alloc _).grown hgrow (some_ne (own_ne HRa.out (by omega)))); have HSb := hid ((HSa.out.grow (World.grownBy_alloc wa _ none) (by simp)).grow hgrow (fun j hj => .inr (HRa.out.lt j hj).1)); clear hown' hgrow)
          | (go_at_call 19; refine (Frame_ref B _ bs (tk ++ [x]) (tk.length + 1) (by simp) HT'.out HMb.out).mono ?_; rintro e wc ⟨rfl, hgc⟩; have HMc := hid (HMb.out.grown hgc (by simp)); have HSc := hid (HSb.out.grow hgc (by simp)); have HRc := hid (HRb.out.kept hgc (by simp [Value.ownBlock])); clear hgc))
        go_roundw
        case rel => exact ⟨k + 1, tk ++ [x], by go_num, by omega, by simp; omega, HT'.out, HMc.out.alloc _, by rw [kcells_snoc, List.length_append]; exact HRc.out.alloc _, HSc.out.grow (World.grownBy_alloc wc _ none) (by simp)⟩
        case measure => simp [intOf]; omega
      · have HGT := hid hget
        have hrb : (r == 0) = false := by simp [hr]
        clear hget
        go_wp2_with (first
          | (go_at_call 22; refine (Get_any B 0 3 x _ _ tk.length HM.out (rM_ok bs HT.out) (by omega)).mono ?_; rw [HGT.out]; rintro e wa ⟨rfl, hMa, hga⟩; have HMa := hid hMa; have HRa := hid (HR.out.kept hga (own_ne HR.out (by omega))); have HSa := hid (HS.out.grow hga (fun j hj => by cases hj; exact .inl rfl)); clear hMa hga hcr)
          | (go_at_call 19; refine (Frame_ref B _ bs tk tk.length rfl HT.out HMa.out).mono ?_; rintro e wc ⟨rfl, hgc⟩; have HMc := hid (HMa.out.grown hgc (by simp)); have HSc := hid (HSa.out.grow hgc (by simp)); have HRc := hid (HRa.out.kept hgc (none_row _)); clear hgc))
        go_roundw
        case rel => exact ⟨k + 1, tk, by go_num, by omega, by omega, HT.out, HMc.out.alloc _, HRc.out.alloc _, HSc.out.grow (World.grownBy_alloc wc _ none) (by simp)⟩
        case measure => simp [intOf]; omega
    · have hge : (ks.length : Int) ≤ k := by omega
      obtain rfl : k = ks.length := by omega
      have hbl : tk.length < 9223372036854775807 := by omega
      by_cases hz : tk.length = 0
      · have hz' : (tk.length : Int) ≤ 0 := by omega
        go_wp2
        have HMb := HM; have HRb := HR; have HSb := HS
        clear hz hz' HM HR HS
        go_loopw [13] (fun i wr => ∃ (j : Nat), i = .int .i64 j ∧ j ≤ tk.length ∧ Tk (tk.drop j) ∧ PM wr B (rM bs (tk.drop j)) ∧ wr.ownsRow W0.heap.size 3 1 (.slice pv tk.length cv) tk.length (kcells tk) ∧ SameBut W0.heap.size B W0 wr) (fun i _ => tk.length - (intOf i).toNat)
        case atStart => exact ⟨0, rfl, by omega, by rw [List.drop_zero]; exact HT.out, by rw [List.drop_zero]; exact HMb.out, HRb.out, HSb.out⟩
        case round =>
          clear HMb HRb HSb
          obtain ⟨j, rfl, hj, htj, hM, hrow, hsb⟩ := hrel
          by_cases hlt : j < tk.length
          · have hlt' : (j : Int) < tk.length := by omega
            have hj0 : (0 : Int) ≤ j := by omega
            obtain ⟨g, rfl, hc⟩ := row_cell hrow hlt
            rw [List.drop_eq_getElem_cons hlt] at htj hM
            generalize tk[j] = x at hc htj hM
            obtain ⟨hput, htk'⟩ := put_head bs htj
            have HM := hid hM; have HR := hid hrow; have HS := hid hsb; have HT2 := hid htj; have HT' := hid htk'; have HP := hid hput
            have hlen : (x :: tk.drop (j + 1)).length < 9223372036854775807 := by simp; omega
            have HL := hid hlen
            clear hM hrow hsb htj htk' hput hlen
            go_wp2_with (go_at_call 25; refine (Put_any B 0 x _ _ (x :: tk.drop (j + 1)).length HM.out (rM_ok bs HT2.out) (by have := HL.out; omega)).mono ?_; rw [HP.out]; rintro e wa ⟨rfl, hMa, hga⟩; have HMa := hid hMa; have HRa := hid (HR.out.kept hga (own_ne HR.out (by omega))); have HSa := hid (HS.out.grow hga (fun j hj => by cases hj; exact .inl rfl)); clear hMa hga)
            go_roundw
            case rel => exact ⟨j + 1, by go_num, by omega, HT'.out, HMa.out, HRa.out, HSa.out⟩
            case measure => simp [intOf]; omega
          · have hge : (tk.length : Int) ≤ j := by omega
            obtain rfl : j = tk.length := by omega
            rw [List.drop_length] at htj hM
            have hF := (hsb.block w5.heap.size (by omega) (by omega) (by omega)).trans HF.out
            have c0 := cell_of_row _ w5.heap.size 0 _ _ _ hF
            have c1 := cell_of_row _ w5.heap.size 1 _ _ _ hF
            have c2 := cell_of_row _ w5.heap.size 2 _ _ _ hF
            have c3 := cell_of_row _ w5.heap.size 3 _ _ _ hF
            simp only [List.getElem?_toArray, List.getElem?_cons_zero, List.getElem?_cons_succ] at c0 c1 c2 c3
            have HM := hid hM; have HS := hid hsb
            have HP0 := hid (put_none bs 0 (by omega) (by omega)); have HP1 := hid (put_none bs 1 (by omega) (by omega)); have HGY := hid (give_yes bs); have HFY := hid (free_yes bs); have HFA := hid (free_again bs)
            clear hM hsb hF hrow htj
            go_wp2_with (first
              | (go_at_call 19; refine (Frame_none B _ bs HM.out).mono ?_; rintro e wa ⟨rfl, hga⟩; have d0 := hga.cell c0 (by simp); have d1 := hga.cell c1 (by simp); have d2 := hga.cell c2 (by simp); have d3 := hga.cell c3 (by simp); have hsz := World.block_lt_of_cell? _ _ d0; have HMa := hid ((HM.out.grown hga (by simp)).alloc (.cells #[.int .i64 3, .int .i64 0, .int .i64 0, .int .i64 0] 44)); have HSa := hid ((HS.out.grow hga (by simp)).grow (World.grownBy_alloc wa (.cells #[.int .i64 3, .int .i64 0, .int .i64 0, .int .i64 0] 44) none) (by simp)); clear hga c0 c1 c2 c3)
              | (go_at_call 25; first
                  | (refine (Put_any B 0 0 _ _ 0 HMa.out (rM_ok bs Tk.nil) (by omega)).mono ?_; rw [HP0.out]; rintro e wc ⟨rfl, hMc, hgc⟩; have HMc := hid hMc; have HSc := hid (HSa.out.grow hgc (fun j hj => by cases hj; exact .inl rfl)); clear hMc hgc HMa)
                  | (refine (Put_any B 0 1 _ _ 0 HMc.out (rM_ok bs Tk.nil) (by omega)).mono ?_; rw [HP1.out]; rintro e wd ⟨rfl, hMd, hgd⟩; have HMd := hid hMd; have HSd := hid (HSc.out.grow hgd (fun j hj => by cases hj; exact .inl rfl)); clear hMd hgd HMc))
              | (go_at_call 24; refine (Give_any B 0 4 _ _ 0 HMd.out (rM_ok bs Tk.nil)).mono ?_; rw [HGY.out]; rintro e we ⟨rfl, hMe, hge⟩; have HMe := hid hMe; have HSe := hid (HSd.out.grow hge (fun j hj => by cases hj; exact .inl rfl)); clear hMe hge)
              | (go_at_call 23; first
                  | (refine (Free_any B 0 _ _ 0 HMe.out (gave_ok bs)).mono ?_; rw [HFY.out]; rintro e wf ⟨rfl, hMf, hgf⟩; have HMf := hid hMf; have HSf := hid (HSe.out.grow hgf (fun j hj => by cases hj; exact .inl rfl)); clear hMf hgf HMe)
                  | (refine (Free_any B 0 _ _ 0 HMg.out (gone_ok bs)).mono ?_; rw [HFA.out]; rintro e wh ⟨rfl, hMh, hgh⟩; have HSh := hid (HSg.out.grow hgh (fun j hj => by cases hj; exact .inl rfl)); clear hMh hgh))
              | (go_at_call 20; refine (clean_yes B 0 _ _ 0 HMf.out (gone_ok bs) (show (0 : Int) < 1 by omega) (fun k _ => gone_clean bs k)).mono ?_; rintro e wg ⟨rfl, hgg⟩; have HMg := hid (HMf.out.grown hgg (by simp)); have HSg := hid (HSf.out.grow hgg (by simp)); clear hgg))
            go_ret
            exact ⟨rfl, HSh.out.grown HG0.out (by have := HG0.out.size; omega) hB⟩
      · have hz' : (0 : Int) < tk.length := by omega
        have HF9 := hid (busy_free bs (tk := tk) (by omega)); have HG9 := hid (busy_give bs (tk := tk) (by omega))
        go_wp2_with (first
          | (go_at_call 23; refine (Free_any B 0 _ _ tk.length HM.out (rM_ok bs HT.out)).mono ?_; rw [HF9.out]; rintro e wa ⟨rfl, hMa, hga⟩; have HMa := hid hMa; have HRa := hid (HR.out.kept hga (own_ne HR.out (by omega))); have HSa := hid (HS.out.grow hga (fun j hj => by cases hj; exact .inl rfl)); clear hMa hga)
          | (go_at_call 24; refine (Give_any B 0 4 _ _ tk.length HMa.out (rM_ok bs HT.out)).mono ?_; rw [HG9.out]; rintro e wb ⟨rfl, hMb, hgb⟩; have HMb := hid hMb; have HRb := hid (HRa.out.kept hgb (own_ne HRa.out (by omega))); have HSb := hid (HSa.out.grow hgb (fun j hj => by cases hj; exact .inl rfl)); clear hMb hgb))
        clear hz hz' HM HR HS HF9 HG9 HMa HRa HSa
        go_loopw [13] (fun i wr => ∃ (j : Nat), i = .int .i64 j ∧ j ≤ tk.length ∧ Tk (tk.drop j) ∧ PM wr B (rM bs (tk.drop j)) ∧ wr.ownsRow W0.heap.size 3 1 (.slice pv tk.length cv) tk.length (kcells tk) ∧ SameBut W0.heap.size B W0 wr) (fun i _ => tk.length - (intOf i).toNat)
        case atStart => exact ⟨0, rfl, by omega, by rw [List.drop_zero]; exact HT.out, by rw [List.drop_zero]; exact HMb.out, HRb.out, HSb.out⟩
        case round =>
          clear HMb HRb HSb
          obtain ⟨j, rfl, hj, htj, hM, hrow, hsb⟩ := hrel
          by_cases hlt : j < tk.length
          · have hlt' : (j : Int) < tk.length := by omega
            have hj0 : (0 : Int) ≤ j := by omega
            obtain ⟨g, rfl, hc⟩ := row_cell hrow hlt
            rw [List.drop_eq_getElem_cons hlt] at htj hM
            generalize tk[j] = x at hc htj hM
            obtain ⟨hput, htk'⟩ := put_head bs htj
            have HM := hid hM; have HR := hid hrow; have HS := hid hsb; have HT2 := hid htj; have HT' := hid htk'; have HP := hid hput
            have hlen : (x :: tk.drop (j + 1)).length < 9223372036854775807 := by simp; omega
            have HL := hid hlen
            clear hM hrow hsb htj htk' hput hlen
            go_wp2_with (go_at_call 25; refine (Put_any B 0 x _ _ (x :: tk.drop (j + 1)).length HM.out (rM_ok bs HT2.out) (by have := HL.out; omega)).mono ?_; rw [HP.out]; rintro e wa ⟨rfl, hMa, hga⟩; have HMa := hid hMa; have HRa := hid (HR.out.kept hga (own_ne HR.out (by omega))); have HSa := hid (HS.out.grow hga (fun j hj => by cases hj; exact .inl rfl)); clear hMa hga)
            go_roundw
            case rel => exact ⟨j + 1, by go_num, by omega, HT'.out, HMa.out, HRa.out, HSa.out⟩
            case measure => simp [intOf]; omega
          · have hge : (tk.length : Int) ≤ j := by omega
            obtain rfl : j = tk.length := by omega
            rw [List.drop_length] at htj hM
            have hF := (hsb.block w5.heap.size (by omega) (by omega) (by omega)).trans HF.out
            have c0 := cell_of_row _ w5.heap.size 0 _ _ _ hF
            have c1 := cell_of_row _ w5.heap.size 1 _ _ _ hF
            have c2 := cell_of_row _ w5.heap.size 2 _ _ _ hF
            have c3 := cell_of_row _ w5.heap.size 3 _ _ _ hF
            simp only [List.getElem?_toArray, List.getElem?_cons_zero, List.getElem?_cons_succ] at c0 c1 c2 c3
            have HM := hid hM; have HS := hid hsb
            have HP0 := hid (put_none bs 0 (by omega) (by omega)); have HP1 := hid (put_none bs 1 (by omega) (by omega)); have HGY := hid (give_yes bs); have HFY := hid (free_yes bs); have HFA := hid (free_again bs)
            clear hM hsb hF hrow htj
            go_wp2_with (first
              | (go_at_call 19; refine (Frame_none B _ bs HM.out).mono ?_; rintro e wa ⟨rfl, hga⟩; have d0 := hga.cell c0 (by simp); have d1 := hga.cell c1 (by simp); have d2 := hga.cell c2 (by simp); have d3 := hga.cell c3 (by simp); have hsz := World.block_lt_of_cell? _ _ d0; have HMa := hid ((HM.out.grown hga (by simp)).alloc (.cells #[.int .i64 3, .int .i64 0, .int .i64 0, .int .i64 0] 44)); have HSa := hid ((HS.out.grow hga (by simp)).grow (World.grownBy_alloc wa (.cells #[.int .i64 3, .int .i64 0, .int .i64 0, .int .i64 0] 44) none) (by simp)); clear hga c0 c1 c2 c3)
              | (go_at_call 25; first
                  | (refine (Put_any B 0 0 _ _ 0 HMa.out (rM_ok bs Tk.nil) (by omega)).mono ?_; rw [HP0.out]; rintro e wc ⟨rfl, hMc, hgc⟩; have HMc := hid hMc; have HSc := hid (HSa.out.grow hgc (fun j hj => by cases hj; exact .inl rfl)); clear hMc hgc HMa)
                  | (refine (Put_any B 0 1 _ _ 0 HMc.out (rM_ok bs Tk.nil) (by omega)).mono ?_; rw [HP1.out]; rintro e wd ⟨rfl, hMd, hgd⟩; have HMd := hid hMd; have HSd := hid (HSc.out.grow hgd (fun j hj => by cases hj; exact .inl rfl)); clear hMd hgd HMc))
              | (go_at_call 24; refine (Give_any B 0 4 _ _ 0 HMd.out (rM_ok bs Tk.nil)).mono ?_; rw [HGY.out]; rintro e we ⟨rfl, hMe, hge⟩; have HMe := hid hMe; have HSe := hid (HSd.out.grow hge (fun j hj => by cases hj; exact .inl rfl)); clear hMe hge)
              | (go_at_call 23; first
                  | (refine (Free_any B 0 _ _ 0 HMe.out (gave_ok bs)).mono ?_; rw [HFY.out]; rintro e wf ⟨rfl, hMf, hgf⟩; have HMf := hid hMf; have HSf := hid (HSe.out.grow hgf (fun j hj => by cases hj; exact .inl rfl)); clear hMf hgf HMe)
                  | (refine (Free_any B 0 _ _ 0 HMg.out (gone_ok bs)).mono ?_; rw [HFA.out]; rintro e wh ⟨rfl, hMh, hgh⟩; have HSh := hid (HSg.out.grow hgh (fun j hj => by cases hj; exact .inl rfl)); clear hMh hgh))
              | (go_at_call 20; refine (clean_yes B 0 _ _ 0 HMf.out (gone_ok bs) (show (0 : Int) < 1 by omega) (fun k _ => gone_clean bs k)).mono ?_; rintro e wg ⟨rfl, hgg⟩; have HMg := hid (HMf.out.grown hgg (by simp)); have HSg := hid (HSf.out.grow hgg (by simp)); clear hgg))
            go_ret
            exact ⟨rfl, HSh.out.grown HG0.out (by have := HG0.out.size; omega) hB⟩

set_option maxRecDepth 100000 in
theorem lifted (os : Os) (started : os.Started) (H : Type) (enc : TypeId × Value → H) :
    ReturnsInHanded {} Try.checked os 5 .any (Rows.physRefsSpec.pre6 enc Try.prog Try.f5 Rows.physRefsRow.domain false) (Rows.physRefsSpec.post enc Try.prog Try.f5 false true false false) := by
  refine returnsInHanded_of_change_sized (C := Try.checked) own started (by kernel_rfl) Try.func5
    (ChangeSpec.witness6 (enc := enc) (C := Try.checked) false ⟨#[], #[.slice none 0 0, .slice none 0 0], []⟩ 8 (by kernel_rfl) (by kernel_rfl) (by kernel_rfl) (by kernel_rfl)) ?_
  intro W base args ds gs before hval0 hW _ hsz0 _
  have hsz : (DataW.weightsEach Try.prog (Try.f5.params.toList ++ Rows.physRefsSpec.plain.varTypes Try.prog) (ds ++ gs)).all (· ≤ reachBytes) = true := hsz0
  clear hsz0
  have hval : ∀ (j : Nat) t v, Try.f5.params[j]? = some t → args[j]? = some v → Value.okWide Try.prog W .any base t v := hval0
  have hW' := hW
  obtain ⟨p, q, hA0, hV, rfl, hfz, hnd⟩ := hW
  have hA : DataW.TrodAll enc Try.prog W 0 (fun _ => true) true Try.f5.params.toList args.toList ds p := hA0
  rw [Try.params5] at hA hval hsz
  obtain ⟨v0, v1, d0, d1, p0, p1, rfl, rfl, rfl, h0, h1⟩ := trodAll_two hA
  obtain ⟨rfl, rfl⟩ := trodVars_none hV
  obtain ⟨pk, len0, cap0, rfl⟩ := okWide_slice Try.underlying41 (hval 0 41 v0 rfl rfl)
  obtain ⟨pa, len1, cap1, rfl⟩ := okWide_slice Try.underlying31 (hval 1 31 v1 rfl rfl)
  have k0 := h0
  have k1 := h1
  have lt0 : ∀ x ∈ p0, x.block < W.heap.size := by obtain ⟨m, hm⟩ := k0; exact DataW.trod_lt m _ _ _ hm
  have lt1 : ∀ x ∈ p1, x.block < W.heap.size := by obtain ⟨m, hm⟩ := k1; exact DataW.trod_lt m _ _ _ hm
  obtain ⟨ks, hlen0, hreach, hks⟩ : ∃ ks : List Int, ks.length = len0 ∧ len0 * 8 ≤ 140737488351232 ∧ ∀ k, k < ks.length → ∃ b o, pk = some ⟨b, o, none⟩ ∧ W.cell? ⟨b, o + k, none⟩ = some (.int .i64 (ks.getD k 0)) := by
    obtain ⟨fuel, hf⟩ := h0
    rcases open_ints Try.underlying41 Try.underlying3 (by kernel_rfl) hf with ⟨hcs, _⟩ | ⟨x, l, c, zs, hcs, _, hl, hm, hz, hx, hcell, hwz⟩
    · simp [Value.cells] at hcs
      obtain ⟨rfl, rfl, rfl⟩ := hcs
      exact ⟨[], rfl, by omega, fun k hk => by simp at hk⟩
    · simp [Value.cells] at hcs
      obtain ⟨rfl, rfl, rfl⟩ := hcs
      have hz' : zs.length = cap0 := by simpa using hz
      simp only [Prod.mk.injEq] at hx
      obtain ⟨rfl, rfl⟩ := hx
      have hreach : len0 * 8 ≤ 140737488351232 := by
        have := sized_slice hsz (j := 0) (t := 41) (e := 3) rfl rfl Try.underlying41
        rw [show Try.prog.bytesOf 3 = 8 by kernel_rfl] at this
        simp only [lits, List.length_map, List.length_take, List.length_drop, reachBytes] at this
        omega
      refine ⟨zs.take len0, by simp; omega, hreach, fun k hk => ?_⟩
      have hk' : k < len0 := by simp at hk; omega
      obtain ⟨b, o, s⟩ := x
      have hc := hcell k (by omega)
      obtain rfl : s = none := by
        have h0 := hcell 0 (by omega)
        simpa [Addr.add] using World.cell?_spot h0
      have e : (⟨b, o, none⟩ : Addr).add k = ⟨b, o + k, none⟩ := by unfold Addr.add; split <;> simp_all
      rw [e] at hc
      refine ⟨b, o, rfl, ?_⟩
      rw [hc]
      simp [List.getD, List.getElem?_take, hk']
  obtain ⟨l, hlen1, hin, hmax⟩ : ∃ l : List UInt8, l.length = len1 ∧ InBytes W pa l ∧ len1 ≤ 9223372036854775807 := by
    obtain ⟨fuel, hf⟩ := h1
    rcases open_ints Try.underlying31 Try.underlying5 (by kernel_rfl) hf with ⟨hcs, _⟩ | ⟨x, l, c, zs, hcs, _, hl, hm, hz, _, hcell, hwz⟩
    · simp [Value.cells] at hcs
      obtain ⟨rfl, rfl, rfl⟩ := hcs
      exact ⟨[], rfl, .inl rfl, by omega⟩
    · simp [Value.cells] at hcs
      obtain ⟨rfl, rfl, rfl⟩ := hcs
      have hm' : cap1 ≤ 9223372036854775807 := by have := hm; simp [maxLen] at this; omega
      have hz' : zs.length = cap1 := by simpa using hz
      exact ⟨asBytes zs len1, asBytes_len _ _ (by omega), asBytes_in (by omega) hcell hwz, by omega⟩
  subst hlen0 hlen1
  clear hA0 hval0
  refine (walk pk cap0 ks pa cap1 l W hin hmax hreach hks).mono fun e W' ⟨he, hg⟩ => ?_
  subst he
  have bel := below_grown hg
  simp only [List.append_nil] at hW'
  exact ⟨_, rfl, _, _, _, [], _, [], hW', trodAll_mk1 (shut_bool Try.underlying4 _), (trodAll_mk2 (Below.trod laidOut (by kernel_rfl) (of_decide_eq_true (by kernel_rfl)) k0 bel lt0) (Below.trod laidOut (by kernel_rfl) (of_decide_eq_true (by kernel_rfl)) k1 bel lt1)), rfl, bel.frame _, fun h => by cases h⟩

theorem proved : Rows.PhysRefsSaid :=
  OpenClaim.holds_of_wide 5 Try.f5 rfl rfl rfl rfl rfl rfl rfl ⟨rfl, rfl, rfl, rfl, rfl⟩ rfl rfl rfl rfl rfl (by kernel_rfl) Try.func5 (by kernel_rfl)
    (of_decide_eq_true (by kernel_rfl)) (by unfold Func.isWrapper; first | (rw [if_pos (by decide +kernel)]; kernel_rfl) | (rw [if_neg (by decide +kernel)]; exact ⟨rfl, rfl⟩))
    (fun os started H enc _ => lifted os started H enc)
#print axioms proved
end Go.Proofs.Ytfifhaajjjamcaa.lawRefs
