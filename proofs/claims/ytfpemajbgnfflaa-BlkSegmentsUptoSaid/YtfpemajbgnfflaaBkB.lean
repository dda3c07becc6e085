/-
  Package blk: bytesOf.
-/
import Derived.Test.YtfpemajbgnfflaaBkA
set_option linter.unusedSimpArgs false
set_option linter.unusedVariables false
namespace Go.Proofs.Ytfpemajbgnfflaa.Bk
open Go.RowKit Gen
set_option maxHeartbeats 1000000

/-- the first k bytes of a number -/
def leT (n : Int) : Nat → List UInt8
  | 0 => []
  | 1 => [byteV n]
  | 2 => [byteV n, byteV (n / 256)]
  | 3 => [byteV n, byteV (n / 256), byteV (n / 65536)]
  | _ => [byteV n, byteV (n / 256), byteV (n / 65536), byteV (n / 16777216)]
theorem leT_two (n : Int) : leT n 2 = leV 2 n := rfl
theorem leT_four (n : Int) : leT n 4 = leV 4 n := by
  simp only [leT, leV]
  rw [show n / 256 / 256 = n / 65536 by omega, show n / 65536 / 256 = n / 16777216 by omega]
theorem leT_len (n : Int) (k : Nat) (hk : k ≤ 4) : (leT n k).length = k := by
  match k, hk with
  | 0, _ => rfl
  | 1, _ => rfl
  | 2, _ => rfl
  | 3, _ => rfl
  | 4, _ => rfl
set_option maxRecDepth 100000 in
theorem bBytesOf (n : Int) (hn : I64 n) (m : Nat) (hm : m ≤ 4) (w : World) : Calls Try.prog 13 #[.int .i64 n, .int .i64 (8 * m : Int)] w fun e w' => ∃ v, e = .returned v ∧ w'.ownsRow w.heap.size 5 1 v m (bcells (leT n m)) ∧ w.grownBy w' none := by
  obtain ⟨i0, hi, hz0, hz1, hz2⟩ := info_parts info_u8
  have Hi := hid hi; have Hz0 := hid hz0; have Hz1 := hid hz1; have Hz2 := hid hz2
  clear hi hz0 hz1 hz2
  obtain ⟨hn0, hn1⟩ := hn
  go_enter Try.func13, Try.ntmps13
  go_wp2
  go_loopw [5, 6] (fun v i wr => ∃ k : Nat, i = .int .i64 (8 * k : Int) ∧ k ≤ m ∧ wr.ownsRow w.heap.size 5 1 v (leT n k).length (bcells (leT n k)) ∧ w.grownBy wr none) (fun _ i _ => 8 * m - (intOf i).toNat)
  case atStart => exact ⟨0, rfl, by omega, by have := own_nil w w.heap.size; simpa [leT] using this, grownBy_refl _ _⟩
  case round =>
    obtain ⟨k, rfl, hk, hrow, hg⟩ := hrel
    by_cases hlt : k < m
    · match k, hlt with
      | 0, hlt =>
        have hlt' : (8 * 0 : Int) < 8 * m := by omega
        have e1 : leT n (0 + 1) = leT n 0 ++ [byteV (n)] := rfl
        have e2 := byteV_nat (n)
        have HE1 := hid e1
        have HL : (leT n 0).length = 0 := rfl
        have HL1 := hid (show (leT n (0 + 1)).length = 0 + 1 from rfl)
        clear e1
        generalize leT n 0 = L at *
        generalize byteV (n) = x at *
        have HX := hid e2
        have e3 : Value.int IntKind.u8 ((x.toNat : Nat) : Int) = .int .u8 ((n) % 256) := by rw [HX.out]
        have HE3 := hid e3
        clear e2 e3
        obtain ⟨pv, cv, hv⟩ := ownsRow_slice hrow
        have HO := hid hrow
        have HG := hid hg
        clear hrow hg
        subst hv
        rw [HL] at HO
        rw [HL]
        go_wp2_with (at_builtin; refine wpList_append_own _ rfl _ _ 22 rfl w.heap.size 5 i0 (.int .u8 0) 1 1 Try.underlying22 Hi.out Hz0.out Hz1.out Hz2.out rfl (by decide) _ _ _ rfl (HO.out.alloc _) ⟨wr.heap.size, 0, none⟩ 1 1 [.int .u8 ((n) % 256)] rfl rfl (World.news_of_block (heap_alloc_new wr _)) (by simp [Value.oneCell']) (by unfold maxLen; omega) (by omega) (by have := HG.out.size; simp; omega) ?_; intro v' w2 hown' hgrow hnil; clear hnil; have HO3 := hid hown'; have HG3 := hid ((HG.out.trans (World.grownBy_alloc wr _ none)).andThen hgrow (fun j hj => .inl (HO.out.lt j hj).1)); clear hown' hgrow)
        go_roundw
        case rel => exact ⟨0 + 1, by go_num, by omega, by rw [HL1.out, HE1.out, bcells_app, bcells_cons, bcells_nil, HE3.out]; exact HO3.out, HG3.out⟩
        case measure => simp [intOf]; omega
      | 1, hlt =>
        have hlt' : (8 * 1 : Int) < 8 * m := by omega
        have e1 : leT n (1 + 1) = leT n 1 ++ [byteV (n / 256)] := rfl
        have e2 := byteV_nat (n / 256)
        have HE1 := hid e1
        have HL : (leT n 1).length = 1 := rfl
        have HL1 := hid (show (leT n (1 + 1)).length = 1 + 1 from rfl)
        clear e1
        generalize leT n 1 = L at *
        generalize byteV (n / 256) = x at *
        have HX := hid e2
        have e3 : Value.int IntKind.u8 ((x.toNat : Nat) : Int) = .int .u8 ((n / 256) % 256) := by rw [HX.out]
        have HE3 := hid e3
        clear e2 e3
        obtain ⟨pv, cv, hv⟩ := ownsRow_slice hrow
        have HO := hid hrow
        have HG := hid hg
        clear hrow hg
        subst hv
        rw [HL] at HO
        rw [HL]
        go_wp2_with (at_builtin; refine wpList_append_own _ rfl _ _ 22 rfl w.heap.size 5 i0 (.int .u8 0) 1 1 Try.underlying22 Hi.out Hz0.out Hz1.out Hz2.out rfl (by decide) _ _ _ rfl (HO.out.alloc _) ⟨wr.heap.size, 0, none⟩ 1 1 [.int .u8 ((n / 256) % 256)] rfl rfl (World.news_of_block (heap_alloc_new wr _)) (by simp [Value.oneCell']) (by unfold maxLen; omega) (by omega) (by have := HG.out.size; simp; omega) ?_; intro v' w2 hown' hgrow hnil; clear hnil; have HO3 := hid hown'; have HG3 := hid ((HG.out.trans (World.grownBy_alloc wr _ none)).andThen hgrow (fun j hj => .inl (HO.out.lt j hj).1)); clear hown' hgrow)
        go_roundw
        case rel => exact ⟨1 + 1, by go_num, by omega, by rw [HL1.out, HE1.out, bcells_app, bcells_cons, bcells_nil, HE3.out]; exact HO3.out, HG3.out⟩
        case measure => simp [intOf]; omega
      | 2, hlt =>
        have hlt' : (8 * 2 : Int) < 8 * m := by omega
        have e1 : leT n (2 + 1) = leT n 2 ++ [byteV (n / 65536)] := rfl
        have e2 := byteV_nat (n / 65536)
        have HE1 := hid e1
        have HL : (leT n 2).length = 2 := rfl
        have HL1 := hid (show (leT n (2 + 1)).length = 2 + 1 from rfl)
        clear e1
        generalize leT n 2 = L at *
        generalize byteV (n / 65536) = x at *
        have HX := hid e2
        have e3 : Value.int IntKind.u8 ((x.toNat : Nat) : Int) = .int .u8 ((n / 65536) % 256) := by rw [HX.out]
        have HE3 := hid e3
        clear e2 e3
        obtain ⟨pv, cv, hv⟩ := ownsRow_slice hrow
        have HO := hid hrow
        have HG := hid hg
        clear hrow hg
        subst hv
        rw [HL] at HO
        rw [HL]
        go_wp2_with (at_builtin; refine wpList_append_own _ rfl _ _ 22 rfl w.heap.size 5 i0 (.int .u8 0) 1 1 Try.underlying22 Hi.out Hz0.out Hz1.out Hz2.out rfl (by decide) _ _ _ rfl (HO.out.alloc _) ⟨wr.heap.size, 0, none⟩ 1 1 [.int .u8 ((n / 65536) % 256)] rfl rfl (World.news_of_block (heap_alloc_new wr _)) (by simp [Value.oneCell']) (by unfold maxLen; omega) (by omega) (by have := HG.out.size; simp; omega) ?_; intro v' w2 hown' hgrow hnil; clear hnil; have HO3 := hid hown'; have HG3 := hid ((HG.out.trans (World.grownBy_alloc wr _ none)).andThen hgrow (fun j hj => .inl (HO.out.lt j hj).1)); clear hown' hgrow)
        go_roundw
        case rel => exact ⟨2 + 1, by go_num, by omega, by rw [HL1.out, HE1.out, bcells_app, bcells_cons, bcells_nil, HE3.out]; exact HO3.out, HG3.out⟩
        case measure => simp [intOf]; omega
      | 3, hlt =>
        have hlt' : (8 * 3 : Int) < 8 * m := by omega
        have e1 : leT n (3 + 1) = leT n 3 ++ [byteV (n / 16777216)] := rfl
        have e2 := byteV_nat (n / 16777216)
        have HE1 := hid e1
        have HL : (leT n 3).length = 3 := rfl
        have HL1 := hid (show (leT n (3 + 1)).length = 3 + 1 from rfl)
        clear e1
        generalize leT n 3 = L at *
        generalize byteV (n / 16777216) = x at *
        have HX := hid e2
        have e3 : Value.int IntKind.u8 ((x.toNat : Nat) : Int) = .int .u8 ((n / 16777216) % 256) := by rw [HX.out]
        have HE3 := hid e3
        clear e2 e3
        obtain ⟨pv, cv, hv⟩ := ownsRow_slice hrow
        have HO := hid hrow
        have HG := hid hg
        clear hrow hg
        subst hv
        rw [HL] at HO
        rw [HL]
        go_wp2_with (at_builtin; refine wpList_append_own _ rfl _ _ 22 rfl w.heap.size 5 i0 (.int .u8 0) 1 1 Try.underlying22 Hi.out Hz0.out Hz1.out Hz2.out rfl (by decide) _ _ _ rfl (HO.out.alloc _) ⟨wr.heap.size, 0, none⟩ 1 1 [.int .u8 ((n / 16777216) % 256)] rfl rfl (World.news_of_block (heap_alloc_new wr _)) (by simp [Value.oneCell']) (by unfold maxLen; omega) (by omega) (by have := HG.out.size; simp; omega) ?_; intro v' w2 hown' hgrow hnil; clear hnil; have HO3 := hid hown'; have HG3 := hid ((HG.out.trans (World.grownBy_alloc wr _ none)).andThen hgrow (fun j hj => .inl (HO.out.lt j hj).1)); clear hown' hgrow)
        go_roundw
        case rel => exact ⟨3 + 1, by go_num, by omega, by rw [HL1.out, HE1.out, bcells_app, bcells_cons, bcells_nil, HE3.out]; exact HO3.out, HG3.out⟩
        case measure => simp [intOf]; omega
      | k + 4, hlt => omega
    · obtain rfl : k = m := by omega
      have hge : (8 * k : Int) ≤ 8 * k := by omega
      obtain ⟨pv, cv, hv⟩ := ownsRow_slice hrow
      have HO := hid hrow
      have HG := hid hg
      clear hrow hg
      subst hv
      go_wp2
      go_ret
      refine ⟨_, rfl, ?_, HG.out⟩
      have := HO.out
      rw [leT_len n k hm] at this
      rw [leT_len n k hm]
      exact this
end Go.Proofs.Ytfpemajbgnfflaa.Bk
