/-
  PhysBytes: for every offset, bytes, and every part that is read, the law returns true, and what was there stays. No condition.
-/
import Derived.Test.YtfifhaajjjamcaaPhysK
import Derived.ProofKit
import Derived.OpenShut
import Derived.Laws.IdiomStrings
import Derived.BigQuiet
import Derived.Deep.QuietTactic
import Derived.IntWalk
import Derived.Below
namespace Go.Proofs.Ytfifhaajjjamcaa.lawBytes
open Go.ChangeShapes Go.WideShapes Go.ChangeAt Go.RowKit
set_option maxHeartbeats 1000000

theorem own : ownKnob Try.prog.godebug = none := by kernel_rfl
theorem laidOut : laidOutB Try.prog = true := by kernel_rfl

def mine : Fr := ⟨0, 0, 0, 0, fun _ => 0⟩
def two1 : Mach := ⟨2, fun i => if i < 1 then mine else if i < 2 then blankFr else zeroFr⟩
def two : Mach := ⟨2, fun i => if i < 2 then mine else zeroFr⟩
theorem upTo2_ok : (upTo 2 2).ok 0 := ⟨by decide, by decide, fun i hi => by
  have h : i < 2 := by simp only [upTo] at hi; omega
  show ((if i < 2 then blankFr else zeroFr).ok ∧ _ ≤ _)
  rw [if_pos h]; exact ⟨blankFr_ok, by simp only [upTo]; rw [if_pos h]; decide⟩⟩
theorem alloc1 : (upTo 2 2).alloc 0 = (0, 0, two1) := by
  have e : (upTo 2 2).ownedL (-1) = [0, 1] := by decide
  unfold Mach.alloc
  rw [if_neg (by decide), e]
  simp only [Prod.mk.injEq, Mach.upd, upTo, two1, Mach.mk.injEq, true_and]
  refine ⟨by simp, funext fun i => ?_⟩
  rcases Nat.lt_trichotomy i 1 with h | rfl | h
  · obtain rfl : i = 0 := by omega
    rfl
  · rfl
  · simp only [show ¬ i = 0 by omega, show ¬ i < 2 by omega, show ¬ i < 1 by omega, if_false]
theorem alloc2 : two1.alloc 0 = (1, 0, two) := by
  have e : two1.ownedL (-1) = [1] := by decide
  unfold Mach.alloc
  rw [if_neg (by decide), e]
  simp only [Prod.mk.injEq, Mach.upd, two, two1, Mach.mk.injEq, true_and]
  refine ⟨by simp, funext fun i => ?_⟩
  rcases Nat.lt_trichotomy i 1 with h | rfl | h
  · obtain rfl : i = 0 := by omega
    rfl
  · rfl
  · simp only [show ¬ i = 1 by omega, show ¬ i < 2 by omega, show ¬ i < 1 by omega, if_false]
theorem two1_ok : two1.ok 0 := by have h := Mach.alloc_ok upTo2_ok 0; rw [alloc1] at h; exact h
theorem two_ok : two.ok 0 := by have h := Mach.alloc_ok two1_ok 0; rw [alloc2] at h; exact h

/-- the bytes of the frame behind the write -/
def wroteIn (q : Nat) (l : List UInt8) : Mach := two.upd 0 (mine.laid q l)
theorem write_in (q : Nat) (l : List UInt8) (h : (l.length : Int) ≤ 256 - q) : two.write 0 q l = (0, wroteIn q l) := by
  unfold Mach.write
  rw [if_neg (by decide), inP_yes (by omega) (by omega) h]
  rfl
theorem write_out (off : Int) (l : List UInt8) (h : off < 0 ∨ 256 - off < l.length) : two.write 0 off l = (1, two) := by
  unfold Mach.write
  rw [if_neg (by decide), inP_no (by omega)]
  rfl
theorem wrote_ok (q : Nat) (l : List UInt8) (h : (l.length : Int) ≤ 256 - q) : (wroteIn q l).ok 0 := by
  have h := Mach.write_ok two_ok 0 q l
  rw [write_in q l ‹_›] at h; exact h
theorem byte_in (q : Nat) (l : List UInt8) (k : Nat) : ((wroteIn q l).fr 0).bs k = if q ≤ k ∧ k < q + l.length then l.getD (k - q) 0 else 0 := rfl
theorem byte_two (k : Nat) : (two.fr 0).bs k = 0 := rfl

theorem conv_empty (w : World) (pa : Option Addr) (cap : Nat) : (convert 31 9 (.slice pa 0 cap)).run Try.prog w = .ok (.string ⟨#[]⟩) w := by
  cases pa with
  | none => rw [run_convert_bytes_string w 31 9 5 none 0 cap Try.underlying31 Try.underlying5 Try.underlying9]; simp [Conv.bytesToString]; rfl
  | some a => exact run_convert_bytes_back w 31 9 5 a cap [] Try.underlying31 Try.underlying5 Try.underlying9 (fun j hj => by simp at hj)
theorem conv_row (w : World) (g o n cap : Nat) (l : List UInt8) (hl : l.length = n) (hc : ∀ k, k < n → w.cell? ⟨g, o + k, none⟩ = some (.int .u8 (l.getD k 0).toNat)) :
    (convert 31 9 (.slice (some ⟨g, o, none⟩) n cap)).run Try.prog w = .ok (.string ⟨l.toArray⟩) w := by
  subst hl
  refine run_convert_bytes_back w 31 9 5 ⟨g, o, none⟩ cap l Try.underlying31 Try.underlying5 Try.underlying9 (fun j hj => ?_)
  have e : (⟨g, o, none⟩ : Addr).add j = ⟨g, o + j, none⟩ := by unfold Addr.add; split <;> simp_all
  rw [e, hc j hj]
  simp [List.getD, List.getElem?_eq_getElem hj]

theorem part_string (g f m : Nat) (h : f + m ≤ 256) (F : Fr) (W : World) (hc : ∀ k, k < 256 → W.cell? ⟨g, k, none⟩ = some (.int .u8 (F.bs k).toNat)) :
    (convert 31 9 (.slice (if 256 = f then some ⟨g, 0, none⟩ else some ⟨g, f, none⟩) m (256 - f))).run Try.prog W = .ok (.string ⟨(F.part f m).toArray⟩) W := by
  by_cases hf : f < 256
  · rw [if_neg (by omega)]
    refine conv_row W g f m _ _ (part_len _ _ _) fun k hk => ?_
    rw [part_get _ _ _ _ hk]; exact hc _ (by omega)
  · obtain rfl : f = 256 := by omega
    obtain rfl : m = 0 := by omega
    exact conv_empty W _ _
/-- what was read, as a string -/
theorem new_string {w w' : World} {l : List UInt8} {v : Value} (h : NewBytes w l v w') : ∃ p c, v = .slice p l.length c ∧ ∀ W : World, w'.grownBy W none → (convert 31 9 (.slice p l.length c)).run Try.prog W = .ok (.string ⟨l.toArray⟩) W := by
  rcases h with ⟨rfl, rfl, _⟩ | ⟨b, rfl, _, hr, _⟩
  · exact ⟨none, 0, rfl, fun W _ => conv_empty W _ _⟩
  · exact ⟨_, _, rfl, fun W hg => conv_row W b 0 _ _ _ rfl fun k hk => by rw [Nat.zero_add]; exact hg.cell (bcells_at hr k hk) (by simp)⟩
theorem new_grown {w w' : World} {l : List UInt8} {v : Value} (h : NewBytes w l v w') : w.grownBy w' none := by
  rcases h with ⟨_, _, h⟩ | ⟨_, _, _, _, h⟩ <;> exact h
theorem New_two (w : World) : Calls Try.prog 10 #[.int .i64 2] w fun e w' => ∃ v, e = .returned (.tuple #[v, .int .i64 0]) ∧ NewMach w (upTo 2 2) v w' := New_yes 2 w (by omega) (by omega)
set_option maxRecDepth 100000 in
/-- the walk, where the bytes fit -/
theorem walk_in (q : Nat) (pa : Option Addr) (cap : Nat) (l : List UInt8) (frm n : Int) (w : World) (hf : frm ≤ 9223372036854775807) (hn : n ≤ 9223372036854775807) (hb : InBytes w pa l) (hmax : l.length ≤ 9223372036854775807)
    (hq : (l.length : Int) ≤ 256 - q) (hq0 : (q : Int) ≤ 256) :
    Calls Try.prog 8 #[.int .i64 q, .slice pa l.length cap, .int .i64 frm, .int .i64 n] w fun e w' => e = .returned (.bool true) ∧ w.grownBy w' none := by
  have HB := hid hb
  have hq1 : (0 : Int) ≤ q := by omega
  clear hb
  go_enter Try.func8, Try.ntmps8
  go_wp2_with (first
    | (go_at_call 10; refine (New_two _).mono ?_; rintro e w1 ⟨v, rfl, B, rfl, hB, hM1, hg1⟩; have HM1 := hid hM1; have HG1 := hid hg1; clear hM1 hg1)
    | (go_at_call 15; first
        | ((with_reducible refine (Alloc_any B 0 _ _ 0 HM1.out upTo2_ok).mono ?_); rw [alloc1]; rintro e w2 ⟨rfl, hM2, hg2⟩; have HM2 := hid hM2; have HG2 := hid hg2; clear hM2 hg2 HM1)
        | ((with_reducible refine (Alloc_any B 0 _ _ 0 HM2.out two1_ok).mono ?_); rw [alloc2]; rintro e w3 ⟨rfl, hM3, hg3⟩; have HM3 := hid hM3; have HG3 := hid (HG1.out.andThen (HG2.out.trans hg3) (fun j hj => by cases hj; exact .inl hB)); have HGB := hid (HG2.out.trans hg3); clear hM3 hg3))
    | (go_at_call 14; refine (Write_any B 0 q _ l _ two 0 HM3.out two_ok (by omega) ((HB.out.is B hB).grown ((HG1.out.but _).trans HGB.out)) hmax).mono ?_; rw [write_in q l hq]; rintro e w4 ⟨rfl, hM4, hg4⟩; have HM4 := hid hM4; have HG4 := hid (HG3.out.andThen hg4 (fun j hj => by cases hj; exact .inl hB)); clear hM4 hg4)
    | (go_at_call 20; refine (clean_yes B 1 _ _ 0 HM4.out (wrote_ok q l hq) (show (1 : Int) < 2 by omega) (fun k hk => rfl)).mono ?_; rintro e w5 ⟨rfl, hg5⟩; have HM5 := hid (HM4.out.grown hg5 (by simp)); have HG5 := hid (HG4.out.trans hg5); clear hg5)
    | (go_at_call 26; refine (Read_yes B 0 0 256 _ _ 0 HM5.out (wrote_ok q l hq) (show (0 : Int) < 2 by omega) (by omega)).mono ?_; rintro e w6 ⟨v, rfl, hnew⟩; obtain ⟨g, hv, hgb, hc, hg6⟩ := newBytes_pos hnew (by rw [part_len]; omega); rw [part_len] at hv hc; subst hv; have HC := hid (show ∀ k, k < 256 → w6.cell? ⟨g, k, none⟩ = some (.int .u8 (((wroteIn q l).fr 0).bs k).toNat) from fun k hk => by rw [hc k hk, part_get _ _ _ _ hk, Nat.zero_add]); have HM6 := hid (HM5.out.grown hg6 (by simp)); have HG6 := hid (HG5.out.trans hg6); clear hnew hc hg6))
  go_loopw [15] (fun i wr => ∃ k : Nat, i = .int .i64 k ∧ k ≤ 256 ∧ w6.grownBy wr none) (fun i _ => 256 - (intOf i).toNat)
  case atStart => exact ⟨0, rfl, by omega, World.grownBy.refl _ _⟩
  case round =>
    obtain ⟨k, rfl, hk, hg⟩ := hrel
    by_cases hlt : k < 256
    · have hlt' : (k : Int) < 256 := by omega
      have hk0 : (0 : Int) ≤ k := by omega
      have hcell := hg.cell (HC.out k hlt) (by simp)
      rw [byte_in] at hcell
      by_cases hqk : k < q
      · rw [if_neg (by omega)] at hcell
        have hqk' : (k : Int) < q := by omega
        go_wp2
        go_roundw
        case rel => first | exact ⟨k + 1, by go_num, by omega, hg⟩ | exact ⟨k + 1, by omega, by omega⟩
        case measure => simp [intOf]; omega
      · obtain ⟨r, rfl⟩ : ∃ r, k = q + r := ⟨k - q, by omega⟩
        have hge : (q : Int) ≤ ((q + r : Nat) : Int) := by omega
        have hr0 : (0 : Int) ≤ r := by omega
        have hsub : ((q + r : Nat) : Int) - (q : Int) = r := by omega
        by_cases hrl : r < l.length
        · rw [if_pos (by omega), show q + r - q = r by omega] at hcell
          have hrl' : (r : Int) < l.length := by omega
          obtain ⟨ab, ao, rfl, hac⟩ := HB.out.at hrl
          have hac' := (HG6.out.trans hg).cell hac (by simp)
          clear hac
          go_wp2
          go_roundw
          case rel => exact ⟨q + r + 1, by go_num, by omega, hg⟩
          case measure => simp [intOf]; omega
        · rw [if_neg (by omega)] at hcell
          have hrl' : (l.length : Int) ≤ r := by omega
          go_wp2
          go_roundw
          case rel => exact ⟨q + r + 1, by go_num, by omega, hg⟩
          case measure => simp [intOf]; omega
    · have hge : (256 : Int) ≤ k := by omega
      obtain rfl : k = 256 := by omega
      have HM7 := hid (HM6.out.grown hg (by simp))
      have HG7 := hid (HG6.out.trans hg)
      have HC7 := hid (show ∀ k, k < 256 → wr.cell? ⟨g, k, none⟩ = some (.int .u8 (((wroteIn q l).fr 0).bs k).toNat) from fun k hk => hg.cell (HC.out k hk) (by simp))
      clear hg
      by_cases hout : frm < 0 ∨ (¬ frm < 0 ∧ n < 0) ∨ (¬ frm < 0 ∧ ¬ n < 0 ∧ 256 < frm) ∨ (¬ frm < 0 ∧ ¬ n < 0 ∧ frm ≤ 256 ∧ 256 - frm < n)
      · have HI := hid (show inP frm n = false from inP_no (by omega))
        rcases hout with h1 | ⟨h1, h2⟩ | ⟨h1, h2, h3⟩ | ⟨h1, h2, h3, h4⟩
        all_goals
          go_wp2_with (go_at_call 26; refine (Read_no B 0 frm n _ _ 0 HM7.out (wrote_ok q l hq) hf (.inr HI.out)).mono ?_; rintro e w8 ⟨rfl, rfl⟩)
          go_ret
          exact ⟨rfl, HG7.out⟩
      · obtain ⟨f, rfl⟩ := Int.eq_ofNat_of_zero_le (show 0 ≤ frm by omega)
        obtain ⟨m, rfl⟩ := Int.eq_ofNat_of_zero_le (show 0 ≤ n by omega)
        have hfm : f + m ≤ 256 := by omega
        have hf0 : (0 : Int) ≤ f := by omega
        have hm0 : (0 : Int) ≤ m := by omega
        have hf2 : (f : Int) ≤ 256 := by omega
        have hm2 : (m : Int) ≤ 256 - f := by omega
        clear hout
        go_wp2_with (go_at_call 26; refine (Read_yes B 0 f m _ _ 0 HM7.out (wrote_ok q l hq) (show (0 : Int) < 2 by omega) hfm).mono ?_; rintro e w8 ⟨v, rfl, hnew⟩; obtain ⟨p1, c1, rfl, hk1⟩ := new_string hnew; have HN := hid (new_grown hnew); rw [part_len] at hk1; rw [part_len]; have HK1 := hid hk1; clear hnew hk1)
        have kc1 : ∀ nq : Nat, (convert 31 9 (.slice p1 m c1)).run Try.prog (w8.drewN nq) = .ok (.string ⟨(((wroteIn q l).fr 0).part f m).toArray⟩) (w8.drewN nq) := fun nq => HK1.out _ (grownBy_drewN _ _ _)
        have kc2 : ∀ nq : Nat, (convert 31 9 (.slice (if 256 = f then some ⟨g, 0, none⟩ else some ⟨g, f, none⟩) m (256 - f))).run Try.prog (w8.drewN nq) = .ok (.string ⟨(((wroteIn q l).fr 0).part f m).toArray⟩) (w8.drewN nq) := fun nq => part_string g f m hfm ((wroteIn q l).fr 0) _ fun k hk => (HN.out.trans (grownBy_drewN _ nq _)).cell (HC7.out k hk) (by simp)
        have hw : IntKind.i64.wrap ((f : Int) + m) = (f : Int) + m := IntWalk.i64_in _ (by omega)
        go_quiet (fail)
        all_goals go_wp2
        all_goals go_ret
        all_goals exact ⟨rfl, (HG7.out.trans HN.out).trans (grownBy_drewN _ _ _)⟩
set_option maxRecDepth 100000 in
/-- the walk, where they do not fit -/
theorem walk_out (q : Int) (pa : Option Addr) (cap : Nat) (l : List UInt8) (frm n : Int) (w : World) (hf : frm ≤ 9223372036854775807) (hn : n ≤ 9223372036854775807) (hb : InBytes w pa l) (hmax : l.length ≤ 9223372036854775807)
    (hoff : q ≤ 9223372036854775807) (hx : q < 0 ∨ (¬ q < 0 ∧ 256 < q) ∨ (¬ q < 0 ∧ q ≤ 256 ∧ 256 - q < l.length)) :
    Calls Try.prog 8 #[.int .i64 q, .slice pa l.length cap, .int .i64 frm, .int .i64 n] w fun e w' => e = .returned (.bool true) ∧ w.grownBy w' none := by
  have HB := hid hb
  have HX := hid (write_out q l (by omega))
  clear hb
  rcases hx with hx | ⟨hx, hx2⟩ | ⟨hx, hx2, hx3⟩
  all_goals
    go_enter Try.func8, Try.ntmps8
    go_wp2_with (first
      | (go_at_call 10; refine (New_two _).mono ?_; rintro e w1 ⟨v, rfl, B, rfl, hB, hM1, hg1⟩; have HM1 := hid hM1; have HG1 := hid hg1; clear hM1 hg1)
      | (go_at_call 15; first
          | ((with_reducible refine (Alloc_any B 0 _ _ 0 HM1.out upTo2_ok).mono ?_); rw [alloc1]; rintro e w2 ⟨rfl, hM2, hg2⟩; have HM2 := hid hM2; have HG2 := hid hg2; clear hM2 hg2 HM1)
          | ((with_reducible refine (Alloc_any B 0 _ _ 0 HM2.out two1_ok).mono ?_); rw [alloc2]; rintro e w3 ⟨rfl, hM3, hg3⟩; have HM3 := hid hM3; have HG3 := hid (HG1.out.andThen (HG2.out.trans hg3) (fun j hj => by cases hj; exact .inl hB)); have HGB := hid (HG2.out.trans hg3); clear hM3 hg3))
      | (go_at_call 14; refine (Write_any B 0 q _ l _ two 0 HM3.out two_ok (by omega) ((HB.out.is B hB).grown ((HG1.out.but _).trans HGB.out)) hmax).mono ?_; rw [HX.out]; rintro e w4 ⟨rfl, hM4, hg4⟩; have HM4 := hid hM4; have HG4 := hid (HG3.out.andThen hg4 (fun j hj => by cases hj; exact .inl hB)); clear hM4 hg4)
      | (go_at_call 20; refine (clean_yes B 1 _ _ 0 HM4.out (two_ok) (show (1 : Int) < 2 by omega) (fun k hk => rfl)).mono ?_; rintro e w5 ⟨rfl, hg5⟩; have HM5 := hid (HM4.out.grown hg5 (by simp)); have HG5 := hid (HG4.out.trans hg5); clear hg5)
      | (go_at_call 26; refine (Read_yes B 0 0 256 _ _ 0 HM5.out (two_ok) (show (0 : Int) < 2 by omega) (by omega)).mono ?_; rintro e w6 ⟨v, rfl, hnew⟩; obtain ⟨g, hv, hgb, hc, hg6⟩ := newBytes_pos hnew (by rw [part_len]; omega); rw [part_len] at hv hc; subst hv; have HC := hid (show ∀ k, k < 256 → w6.cell? ⟨g, k, none⟩ = some (.int .u8 (((two).fr 0).bs k).toNat) from fun k hk => by rw [hc k hk, part_get _ _ _ _ hk, Nat.zero_add]); have HM6 := hid (HM5.out.grown hg6 (by simp)); have HG6 := hid (HG5.out.trans hg6); clear hnew hc hg6))
    go_loopw [15] (fun i wr => ∃ k : Nat, i = .int .i64 k ∧ k ≤ 256 ∧ w6.grownBy wr none) (fun i _ => 256 - (intOf i).toNat)
    case atStart => exact ⟨0, rfl, by omega, World.grownBy.refl _ _⟩
    case round =>
      obtain ⟨k, rfl, hk, hg⟩ := hrel
      by_cases hlt : k < 256
      · have hlt' : (k : Int) < 256 := by omega
        have hk0 : (0 : Int) ≤ k := by omega
        have hcell := hg.cell (HC.out k hlt) (by simp)
        rw [byte_two] at hcell
        go_wp2
        go_roundw
        case rel => first | exact ⟨k + 1, by go_num, by omega, hg⟩ | exact ⟨k + 1, by omega, by omega⟩
        case measure => simp [intOf]; omega
      · have hge : (256 : Int) ≤ k := by omega
        obtain rfl : k = 256 := by omega
        have HM7 := hid (HM6.out.grown hg (by simp))
        have HG7 := hid (HG6.out.trans hg)
        have HC7 := hid (show ∀ k, k < 256 → wr.cell? ⟨g, k, none⟩ = some (.int .u8 (((two).fr 0).bs k).toNat) from fun k hk => hg.cell (HC.out k hk) (by simp))
        clear hg
        by_cases hout : frm < 0 ∨ (¬ frm < 0 ∧ n < 0) ∨ (¬ frm < 0 ∧ ¬ n < 0 ∧ 256 < frm) ∨ (¬ frm < 0 ∧ ¬ n < 0 ∧ frm ≤ 256 ∧ 256 - frm < n)
        · have HI := hid (show inP frm n = false from inP_no (by omega))
          rcases hout with h1 | ⟨h1, h2⟩ | ⟨h1, h2, h3⟩ | ⟨h1, h2, h3, h4⟩
          all_goals
            go_wp2_with (go_at_call 26; refine (Read_no B 0 frm n _ _ 0 HM7.out (two_ok) hf (.inr HI.out)).mono ?_; rintro e w8 ⟨rfl, rfl⟩)
            go_ret
            exact ⟨rfl, HG7.out⟩
        · obtain ⟨f, rfl⟩ := Int.eq_ofNat_of_zero_le (show 0 ≤ frm by omega)
          obtain ⟨m, rfl⟩ := Int.eq_ofNat_of_zero_le (show 0 ≤ n by omega)
          have hfm : f + m ≤ 256 := by omega
          have hf0 : (0 : Int) ≤ f := by omega
          have hm0 : (0 : Int) ≤ m := by omega
          have hf2 : (f : Int) ≤ 256 := by omega
          have hm2 : (m : Int) ≤ 256 - f := by omega
          clear hout
          go_wp2_with (go_at_call 26; refine (Read_yes B 0 f m _ _ 0 HM7.out (two_ok) (show (0 : Int) < 2 by omega) hfm).mono ?_; rintro e w8 ⟨v, rfl, hnew⟩; obtain ⟨p1, c1, rfl, hk1⟩ := new_string hnew; have HN := hid (new_grown hnew); rw [part_len] at hk1; rw [part_len]; have HK1 := hid hk1; clear hnew hk1)
          have kc1 : ∀ nq : Nat, (convert 31 9 (.slice p1 m c1)).run Try.prog (w8.drewN nq) = .ok (.string ⟨(((two).fr 0).part f m).toArray⟩) (w8.drewN nq) := fun nq => HK1.out _ (grownBy_drewN _ _ _)
          have kc2 : ∀ nq : Nat, (convert 31 9 (.slice (if 256 = f then some ⟨g, 0, none⟩ else some ⟨g, f, none⟩) m (256 - f))).run Try.prog (w8.drewN nq) = .ok (.string ⟨(((two).fr 0).part f m).toArray⟩) (w8.drewN nq) := fun nq => part_string g f m hfm ((two).fr 0) _ fun k hk => (HN.out.trans (grownBy_drewN _ nq _)).cell (HC7.out k hk) (by simp)
          have hw : IntKind.i64.wrap ((f : Int) + m) = (f : Int) + m := IntWalk.i64_in _ (by omega)
          go_quiet (fail)
          all_goals go_wp2
          all_goals go_ret
          all_goals exact ⟨rfl, (HG7.out.trans HN.out).trans (grownBy_drewN _ _ _)⟩

theorem walk (off : Int) (pa : Option Addr) (cap : Nat) (l : List UInt8) (frm n : Int) (w : World) (ho : (Lit.int .i64 off).wf = true) (hf : (Lit.int .i64 frm).wf = true) (hn : (Lit.int .i64 n).wf = true) (hb : InBytes w pa l) (hmax : l.length ≤ 9223372036854775807) :
    Calls Try.prog 8 #[.int .i64 off, .slice pa l.length cap, .int .i64 frm, .int .i64 n] w fun e w' => e = .returned (.bool true) ∧ w.grownBy w' none := by
  have h1 : off ≤ 9223372036854775807 := (bounds_i64 ho).2
  have h2 : frm ≤ 9223372036854775807 := (bounds_i64 hf).2
  have h3 : n ≤ 9223372036854775807 := (bounds_i64 hn).2
  by_cases hx : off < 0 ∨ (¬ off < 0 ∧ 256 < off) ∨ (¬ off < 0 ∧ off ≤ 256 ∧ 256 - off < l.length)
  · exact walk_out off pa cap l frm n w h2 h3 hb hmax h1 hx
  · obtain ⟨q, rfl⟩ := Int.eq_ofNat_of_zero_le (show 0 ≤ off by omega)
    exact walk_in q pa cap l frm n w h2 h3 hb hmax (by omega) (by omega)

set_option maxRecDepth 100000 in
theorem lifted (os : Os) (started : os.Started) (H : Type) (enc : TypeId × Value → H) :
    ReturnsInHanded {} Try.checked os 8 .any (Rows.physBytesSpec.pre6 enc Try.prog Try.f8 Rows.physBytesRow.domain false) (Rows.physBytesSpec.post enc Try.prog Try.f8 false true false false) := by
  refine returnsInHanded_of_change (C := Try.checked) own started (by kernel_rfl) Try.func8
    (ChangeSpec.witness6 (enc := enc) (C := Try.checked) false ⟨#[], #[.int .i64 0, .slice none 0 0, .int .i64 0, .int .i64 0], []⟩ 8 (by kernel_rfl) (by kernel_rfl) (by kernel_rfl) (by kernel_rfl)) ?_
  intro W base args ds gs before hval0 hW hcnd _
  have hval : ∀ (j : Nat) t v, Try.f8.params[j]? = some t → args[j]? = some v → Value.okWide Try.prog W .any base t v := hval0
  have hW' := hW
  obtain ⟨p, q, hA0, hV, rfl, hfz, hnd⟩ := hW
  have hA : DataW.TrodAll enc Try.prog W 0 (fun _ => true) true Try.f8.params.toList args.toList ds p := hA0
  rw [Try.params8] at hA hval
  obtain ⟨v0, vs0, d0, ds0, p0, q0, hargs, rfl, rfl, h0, r0⟩ := trodAll_cons hA
  obtain ⟨v1, vs1, d1, ds1, p1, q1, rfl, rfl, rfl, h1, r1⟩ := trodAll_cons r0
  obtain ⟨v2, vs2, d2, ds2, p2, q2, rfl, rfl, rfl, h2, r2⟩ := trodAll_cons r1
  obtain ⟨v3, vs3, d3, ds3, p3, q3, rfl, rfl, rfl, h3, r3⟩ := trodAll_cons r2
  obtain ⟨rfl, rfl, rfl⟩ := trodAll_nil r3
  obtain rfl : args = #[v0, v1, v2, v3] := by cases args; simp_all
  obtain ⟨rfl, rfl⟩ := trodVars_none hV
  obtain ⟨a0, rfl, rfl, rfl, w0⟩ := open_int Try.underlying3 (hval 0 3 v0 rfl rfl) h0
  obtain ⟨pa, len, cap, rfl⟩ := okWide_slice Try.underlying31 (hval 1 31 v1 rfl rfl)
  obtain ⟨a2, rfl, rfl, rfl, w2⟩ := open_int Try.underlying3 (hval 2 3 v2 rfl rfl) h2
  obtain ⟨a3, rfl, rfl, rfl, w3⟩ := open_int Try.underlying3 (hval 3 3 v3 rfl rfl) h3
  have k1 := h1
  have lt1 : ∀ x ∈ p1, x.block < W.heap.size := by obtain ⟨m, hm⟩ := k1; exact DataW.trod_lt m _ _ _ hm
  obtain ⟨l, hlen, hin, hmax⟩ : ∃ l : List UInt8, l.length = len ∧ InBytes W pa l ∧ len ≤ 9223372036854775807 := by
    obtain ⟨fuel, hf⟩ := h1
    rcases open_ints Try.underlying31 Try.underlying5 (by kernel_rfl) hf with ⟨hcs, _⟩ | ⟨x, l, c, zs, hcs, _, hl, hm, hz, _, hcell, hwz⟩
    · simp [Value.cells] at hcs
      obtain ⟨rfl, rfl, rfl⟩ := hcs
      exact ⟨[], rfl, .inl rfl, by omega⟩
    · simp [Value.cells] at hcs
      obtain ⟨rfl, rfl, rfl⟩ := hcs
      have hm' : cap ≤ 9223372036854775807 := by have := hm; simp [maxLen] at this; omega
      have hz' : zs.length = cap := by simpa using hz
      exact ⟨asBytes zs len, asBytes_len _ _ (by omega), asBytes_in (by omega) hcell hwz, by omega⟩
  subst hlen
  clear hA0 hval0
  refine (walk a0 pa cap l a2 a3 W w0 w2 w3 hin hmax).mono fun e W' ⟨he, hg⟩ => ?_
  subst he
  have bel := below_grown hg
  simp only [List.append_nil, List.nil_append] at hW'
  exact ⟨_, rfl, _, _, _, [], _, [], hW', trodAll_mk1 (shut_bool Try.underlying4 _), (trodAll_cons_mk (shut_int Try.underlying3 w0) (trodAll_cons_mk (Below.trod laidOut (by kernel_rfl) (of_decide_eq_true (by kernel_rfl)) k1 bel lt1) (trodAll_cons_mk (shut_int Try.underlying3 w2) (trodAll_cons_mk (shut_int Try.underlying3 w3) trodAll_mk0)))), rfl, bel.frame _, fun h => by cases h⟩

theorem proved : Rows.PhysBytesSaid :=
  OpenClaim.holds_of_wide 8 Try.f8 rfl rfl rfl rfl rfl rfl rfl ⟨rfl, rfl, rfl, rfl, rfl⟩ rfl rfl rfl rfl rfl (by kernel_rfl) Try.func8 (by kernel_rfl)
    (of_decide_eq_true (by kernel_rfl)) (by unfold Func.isWrapper; first | (rw [if_pos (by decide +kernel)]; kernel_rfl) | (rw [if_neg (by decide +kernel)]; exact ⟨rfl, rfl⟩))
    (fun os started H enc _ => lifted os started H enc)
#print axioms proved

end Go.Proofs.Ytfifhaajjjamcaa.lawBytes
