/-
  Package mmu: the references of a table's entries go.
-/
import Derived.Test.YtemeihamkdpmoaaK13
import Derived.Defers
import Derived.Recover
import Derived.Test.YtemeihamkdpmoaaK12
set_option linter.unusedSimpArgs false
set_option linter.unusedVariables false
namespace Go.Proofs.Ytemeihamkdpmoaa
open Go.RowKit
set_option maxHeartbeats 1000000

theorem at_word (b t i : Nat) (w : World) (M : Mach) (T : Int) (n : Nat) (hM : PM w b M) (hok : M.ok T) (hi : i < 64) (ht : (t : Int) < M.n) (hn : M.word t i = n) : Calls Try.prog 25 #[.pointer (some ⟨b, 0, none⟩), .int .i64 t, .int .i64 i] w fun e w' => e = .returned (.tuple #[.int .u32 n, .int .i64 0]) ∧ w.grownBy w' none := by
  subst hn
  exact ptAt_yes b t i w M T hM hok hi ht
theorem Mach.word_lt (M : Mach) (t j : Nat) : M.word t j < 4294967296 := word4_lt _ _
set_option maxRecDepth 100000 in
theorem xdropEntries (B X K fn t k : Nat) (hk : k ≤ 64) (w : World) (Ms : Nat → Mach) (T : Int) (h : XM w w B X (Ms 0)) (hok : ∀ j, j ≤ k → (Ms j).ok T) (ht : (t : Int) < (Ms 0).n) (hs : ∀ j, j ≤ k → MSame (Ms 0) (Ms j))
    (hd : ∀ j, j < k → ∀ W, XM W W B X (Ms j) → Calls Try.prog 121 #[.pointer (some ⟨X, 0, none⟩), .int .u32 ((Ms 0).word t j : Nat), .agg #[.int .i64 K, .func (.func fn) #[] #[]]] W fun e w' => e = .returned (.tuple #[]) ∧ XM W w' B X (Ms (j + 1))) :
    Calls Try.prog 118 #[.pointer (some ⟨X, 0, none⟩), .int .i64 t, .agg #[.int .i64 K, .func (.func fn) #[] #[]], .int .i64 k] w fun e w' => e = .returned (.tuple #[]) ∧ XM w w' B X (Ms k) := by
  have H := hid h; have HOk := hid hok; have HS := hid hs; have HD := hid hd; have HT := hid ht
  have hBl := h.m.lt
  have hBne : w.heap.size ≠ B := by omega
  have HN := hid hBne
  obtain ⟨W, hW⟩ : ∃ W, w.alloc (.cells #[.int .i64 K, .func (.func fn) #[] #[]] 161) = W := ⟨_, rfl⟩
  have H0 := hid (show XM w W B X (Ms 0) by rw [← hW]; exact h.more (World.grownBy_alloc w _ none))
  have q0 : W.cell? ⟨w.heap.size, 0, none⟩ = some (.int .i64 K) := by rw [← hW]; simp [go_sem]
  have q1 : W.cell? ⟨w.heap.size, 1, none⟩ = some (.func (.func fn) #[] #[]) := by rw [← hW]; simp [go_sem]
  have HQ0 := hid q0; have HQ1 := hid q1
  clear h hok hs hd ht hBl hBne q0 q1
  go_enter Try.func118, Try.ntmps118
  go_wp2
  go_loopw [12] (fun x wr => ∃ j : Nat, x = .int .i64 j ∧ j ≤ k ∧ XM w wr B X (Ms j) ∧ wr.cell? ⟨w.heap.size, 0, none⟩ = some (.int .i64 K) ∧ wr.cell? ⟨w.heap.size, 1, none⟩ = some (.func (.func fn) #[] #[])) (fun x _ => k - (intOf x).toNat)
  case atStart => exact ⟨0, rfl, by omega, H0.out, HQ0.out, HQ1.out⟩
  case round =>
    clear H0 HQ0 HQ1
    obtain ⟨j, rfl, hj, hx, q0, q1⟩ := hrel
    have hxx := hx.x
    have HX := hid hx
    have hj0 : (0 : Int) ≤ j := by omega
    clear hx
    by_cases hjk : j < k
    · have hjk' : (j : Int) < k := by omega
      have hsj := HS.out j hj
      have HA := hid (at_word B t j wr (Ms j) T ((Ms 0).word t j) HX.out.m (HOk.out j hj) (by omega) (by rw [hsj.n]; exact HT.out) (Mach.word_bs (hsj.bs t) j))
      clear hsj
      go_wp2_with (first
        | (go_at_call 25; refine HA.out.mono ?_; rintro e w2 ⟨rfl, g2⟩; have H2 := hid (HX.out.more g2); have r0 := g2.cell q0 (by simp); have r1 := g2.cell q1 (by simp); clear g2)
        | (go_at_call 121; refine (HD.out j hjk _ H2.out.here).mono ?_; rintro e w3 ⟨rfl, h3⟩; have H3 := hid (H2.out.step h3); have s0 := h3.g.cell r0 (by simpa using HN.out); have s1 := h3.g.cell r1 (by simpa using HN.out); clear h3))
      go_roundw
      case rel => exact ⟨j + 1, by go_num, by omega, H3.out, s0, s1⟩
      case measure => simp [intOf]; omega
    · obtain rfl : j = k := by omega
      have hge : (j : Int) ≤ j := by omega
      go_wp2
      first | go_end0 | ((try simp only [Exit.inBlock, Exit.then]); refine bodyPost_ret (results_none rfl _ _ _) rfl ?_)
      exact ⟨rfl, HX.out⟩
end Go.Proofs.Ytemeihamkdpmoaa

/-
  Package mmu: a table is validated; what is deferred there.
-/
set_option linter.unusedSimpArgs false
set_option linter.unusedVariables false
namespace Go.Proofs.Ytemeihamkdpmoaa
open Go.RowKit
set_option maxHeartbeats 1000000

set_option maxRecDepth 100000 in
theorem undo_no (e x t l k : Addr) (u : FrameMode) (w : World) (he : w.cell? e = some (.int .i64 0)) :
    CallsD Try.prog 127 #[.pointer (some e), .pointer (some x), .pointer (some t), .pointer (some l), .pointer (some k)] u w fun e' u' w' => u' = u ∧ (e' = .returned (.tuple #[]) ∧ w = w') := by
  go_enter_d Try.func127, Try.ntmps127
  go_wp2
  first | go_end0 | ((try simp only [Exit.inBlock, Exit.then]); refine bodyPost_ret (results_none rfl _ _ _) rfl ?_)
  exact ⟨rfl, rfl⟩
/-- the variables that the closure holds, in blocks b .. b + 4 of their own -/
structure VB (w : World) (b X : Nat) (c t : Int) (K fn : Nat) (j : Int) : Prop where
  x : w.cell? ⟨b, 0, none⟩ = some (.pointer (some ⟨X, 0, none⟩))
  t : w.cell? ⟨b + 1, 0, none⟩ = some (.int .i64 t)
  l0 : w.cell? ⟨b + 1 + 1, 0, none⟩ = some (.int .i64 K)
  l1 : w.cell? ⟨b + 1 + 1, 1, none⟩ = some (.func (.func fn) #[] #[])
  e : w.cell? ⟨b + 1 + 1 + 1, 0, none⟩ = some (.int .i64 c)
  j : w.cell? ⟨b + 1 + 1 + 1 + 1, 0, none⟩ = some (.int .i64 j)
  ze : w.frozen? ⟨b + 1 + 1 + 1, 0, none⟩ = false
  zj : w.frozen? ⟨b + 1 + 1 + 1 + 1, 0, none⟩ = false
theorem grown_frozen {w W : World} {row : Option Nat} (h : w.grownBy W row) {a : Addr} (hl : a.block < w.heap.size) (hr : some a.block ≠ row) : W.frozen? a = w.frozen? a := by
  unfold World.frozen?
  rw [h.block _ hl hr]
theorem VB.grown {w W : World} {b X K fn B : Nat} {c t j : Int} (h : VB w b X c t K fn j) (hg : w.grownBy W (some B)) (hb : B < b) : VB W b X c t K fn j := by
  have le := World.block_lt_of_cell? _ _ h.e
  have lj := World.block_lt_of_cell? _ _ h.j
  exact ⟨hg.cell h.x (by simp; omega), hg.cell h.t (by simp; omega), hg.cell h.l0 (by simp; omega), hg.cell h.l1 (by simp; omega), hg.cell h.e (by simp; omega), hg.cell h.j (by simp; omega), (grown_frozen hg le (by simp; omega)).trans h.ze, (grown_frozen hg lj (by simp; omega)).trans h.zj⟩
set_option maxRecDepth 100000 in
theorem undo_yes (B X b K fn : Nat) (hb : B < b) (c : Int) (hc : c ≠ 0) (t k : Nat) (u : FrameMode) (w : World) (M M1 : Mach) (T : Int) (h : XM w w B X M) (hv : VB w b X c t K fn k) (hok : M1.ok T) (hT : T < 9223372036854775807)
    (hd : ∀ W, XM W W B X M → Calls Try.prog 118 #[.pointer (some ⟨X, 0, none⟩), .int .i64 t, .agg #[.int .i64 K, .func (.func fn) #[] #[]], .int .i64 k] W fun e w' => e = .returned (.tuple #[]) ∧ XM W w' B X M1) :
    CallsD Try.prog 127 #[.pointer (some ⟨b + 1 + 1 + 1, 0, none⟩), .pointer (some ⟨b, 0, none⟩), .pointer (some ⟨b + 1, 0, none⟩), .pointer (some ⟨b + 1 + 1, 0, none⟩), .pointer (some ⟨b + 1 + 1 + 1 + 1, 0, none⟩)] u w fun e' u' w' => u' = u ∧ (e' = .returned (.tuple #[]) ∧ XM w w' B X (M1.put t K).2) := by
  have H := hid h; have HV := hid hv; have HD := hid hd; have HOk := hid hok
  have hcb : (c != 0) = true := by simp [hc]
  have e0 := hv.e; have e1 := hv.x; have e2 := hv.t; have e3 := hv.l0; have e4 := hv.l1; have e5 := hv.j
  clear h hv hd hok
  go_enter_d Try.func127, Try.ntmps127
  go_wp2_with (go_at_call 118; refine (HD.out _ H.out).mono ?_; rintro e w1 ⟨rfl, h1⟩; have H1 := hid h1; have HV1 := hid (HV.out.grown h1.g hb); have hx1 := h1.x; have f1 := HV1.out.x; have f2 := HV1.out.t; have f3 := HV1.out.l0; clear h1 e0 e1 e2 e3 e4 e5)
  go_region_held3 (fun w' => w'.cell? ⟨b, 0, none⟩ = some (.pointer (some ⟨X, 0, none⟩)) ∧ w'.cell? ⟨b + 1, 0, none⟩ = some (.int .i64 t) ∧ w'.cell? ⟨b + 1 + 1, 0, none⟩ = some (.int .i64 K) ∧ w'.cell? ⟨X, 0, none⟩ = some (.pointer (some ⟨B, 0, none⟩))) (first | exact ⟨by assumption, by assumption, by assumption, by assumption⟩ | go_keep)
    (first | (go_at_call 67; refine (Put_any B t K _ M1 T (H1.out.more (grownBy_drew _ none)).m HOk.out hT).mono ?_; rintro e w2 ⟨rfl, hm, g2⟩; have H2 := hid ((H1.out.more (grownBy_drew _ none)).put hm g2); have HV2 := hid ((HV1.out.grown (grownBy_drew _ (some B)) hb).grown g2 hb); have j1 := HV2.out.x; have j2 := HV2.out.t; have j3 := HV2.out.l0; have j4 := H2.out.x; clear hm g2))
  all_goals go_wp2
  all_goals (first | go_end0 | ((try simp only [Exit.inBlock, Exit.then]); refine bodyPost_ret (results_none rfl _ _ _) rfl ?_))
  all_goals exact ⟨rfl, H2.out⟩
end Go.Proofs.Ytemeihamkdpmoaa

/-
  Package mmu: a table is validated.
-/
set_option linter.unusedSimpArgs false
set_option linter.unusedVariables false
namespace Go.Proofs.Ytemeihamkdpmoaa
open Go.RowKit
set_option maxHeartbeats 2000000

theorem VB.setj {w : World} {b X K fn : Nat} {c t j : Int} (h : VB w b X c t K fn j) (i : Int) : VB (w.setCell ⟨b + 1 + 1 + 1 + 1, 0, none⟩ (.int .i64 i)) b X c t K fn i := by
  have hg := grownBy_setCell w (b + 1 + 1 + 1 + 1) 0 none (.int .i64 i)
  have lx := World.block_lt_of_cell? _ _ h.e
  have lj := World.block_lt_of_cell? _ _ h.j
  exact ⟨hg.cell h.x (by simp <;> omega), hg.cell h.t (by simp <;> omega), hg.cell h.l0 (by simp <;> omega), hg.cell h.l1 (by simp <;> omega), hg.cell h.e (by simp), World.cell?_setCell_same _ _ _ h.j, (grown_frozen hg lx (by simp)).trans h.ze, by simpa [go_sem] using h.zj⟩
theorem VB.sete {w : World} {b X K fn : Nat} {c t j : Int} (h : VB w b X c t K fn j) (i : Int) : VB (w.setCell ⟨b + 1 + 1 + 1, 0, none⟩ (.int .i64 i)) b X i t K fn j := by
  have hg := grownBy_setCell w (b + 1 + 1 + 1) 0 none (.int .i64 i)
  have lx := World.block_lt_of_cell? _ _ h.e
  have lj := World.block_lt_of_cell? _ _ h.j
  exact ⟨hg.cell h.x (by simp <;> omega), hg.cell h.t (by simp <;> omega), hg.cell h.l0 (by simp <;> omega), hg.cell h.l1 (by simp <;> omega), World.cell?_setCell_same _ _ _ h.e, hg.cell h.j (by simp), by simpa [go_sem] using h.ze, (grown_frozen hg lj (by simp)).trans h.zj⟩
theorem XM.set {w0 w : World} {B X : Nat} {M : Mach} (h : XM w0 w B X M) (b o : Nat) (v : Value) (hb : w0.heap.size ≤ b) (hB : B < w0.heap.size) (hX : X < w0.heap.size) : XM w0 (w.setCell ⟨b, o, none⟩ v) B X M :=
  have hg := grownBy_setCell w b o none v
  ⟨h.m.grown hg (by simp <;> omega), hg.cell h.x (by simp <;> omega), h.g.andThen hg (fun j e => by cases e; exact .inl hb), h.XB⟩
set_option maxRecDepth 100000 in
theorem xvalidate (B X K fn t : Nat) (o : Int) (w : World) (M0 : Mach) (Es : Nat → Int × Mach) (Md : Nat → Mach) (T : Int) (h : XM w w B X (Es 0).2) (h00 : (Es 0).1 = 0) (hok : ∀ j, j ≤ 64 → (Es j).2.ok T) (hokd : ∀ j, j ≤ 64 → (Md j).ok T) (hT : T < 9223372036854775807) (ht : (t : Int) < (Es 0).2.n) (hs : ∀ j, j ≤ 64 → MSame (Es 0).2 (Es j).2)
    (hst : ∀ j, j < 64 → (Es j).1 ≠ 0 → Es (j + 1) = Es j)
    (hte : ∀ j, j < 64 → (Es j).1 = 0 → ∀ W, XM W W B X (Es j).2 → Calls Try.prog 119 #[.pointer (some ⟨X, 0, none⟩), .int .i64 o, .int .u32 ((Es 0).2.word t j : Nat), .agg #[.int .i64 K, .func (.func fn) #[] #[]]] W fun e w' => e = .returned (.int .i64 (Es (j + 1)).1) ∧ XM W w' B X (Es (j + 1)).2)
    (hun : ∀ j, j < 64 → (Es j).1 = 0 → (Es (j + 1)).1 ≠ 0 → (∀ W, XM W W B X (Es (j + 1)).2 → Calls Try.prog 118 #[.pointer (some ⟨X, 0, none⟩), .int .i64 t, .agg #[.int .i64 K, .func (.func fn) #[] #[]], .int .i64 j] W fun e w' => e = .returned (.tuple #[]) ∧ XM W w' B X (Md j)) ∧ ((Md j).put t K).2 = M0) :
    Calls Try.prog 117 #[.pointer (some ⟨X, 0, none⟩), .int .i64 o, .int .i64 t, .agg #[.int .i64 K, .func (.func fn) #[] #[]]] w fun e w' => e = .returned (.int .i64 (Es 64).1) ∧ XM w w' B X (if (Es 64).1 = 0 then (Es 64).2 else M0) := by
  have H := hid h; have HOk := hid hok; have HOkd := hid hokd; have HS := hid hs; have HT := hid ht; have HTE := hid hte; have HUN := hid hun; have HST := hid hst
  have HBl := hid h.m.lt
  have HXl := hid (World.block_lt_of_cell? _ _ h.x)
  obtain ⟨a, ha⟩ : ∃ a, (Es 64).1 = a := ⟨_, rfl⟩
  obtain ⟨Mr, hMr⟩ : ∃ Mr, (if (Es 64).1 = 0 then (Es 64).2 else M0) = Mr := ⟨_, rfl⟩
  have HA0 := hid (show (Es 64).1 = 0 → a = 0 ∧ Mr = (Es 64).2 from fun e => ⟨by rw [← ha, e], by rw [← hMr, if_pos e]⟩)
  have HA1 := hid (show ∀ c, (Es 64).1 = c → c ≠ 0 → a = c ∧ Mr = M0 from fun c e hc => ⟨by rw [← ha, e], by rw [← hMr, if_neg (by rw [e]; exact hc)]⟩)
  rw [hMr, ha]
  clear ha hMr
  obtain ⟨W, hW⟩ : ∃ W, ((((w.alloc (.cells #[.pointer (some ⟨X, 0, none⟩)] 72)).alloc (.cells #[.int .i64 t] 3)).alloc (.cells #[.int .i64 K, .func (.func fn) #[] #[]] 161)).alloc (.cells #[.int .i64 0] 24)).alloc (.cells #[.int .i64 0] 3) = W := ⟨_, rfl⟩
  have HX0 := hid (show XM w W B X (Es 0).2 by rw [← hW]; exact ((((h.more (World.grownBy_alloc _ _ none)).more (World.grownBy_alloc _ _ none)).more (World.grownBy_alloc _ _ none)).more (World.grownBy_alloc _ _ none)).more (World.grownBy_alloc _ _ none))
  have HV0 := hid (show VB W w.heap.size X 0 t K fn 0 by rw [← hW]; constructor <;> simp [go_sem])
  have hmf : ∀ (fn : Fn) (first cap : Array Value) (w : World), (Instr.makeFunc fn first cap).run Try.prog w = .ok (.func fn first cap) w := fun _ _ _ _ => rfl
  clear h hok hokd hs ht hte hun hst
  have k0 := HV0.out.j; have k1 := HV0.out.zj
  have HX1 := hid (HX0.out.set (w.heap.size + 1 + 1 + 1 + 1) 0 (.int .i64 0) (by omega) HBl.out HXl.out)
  have HV1 := hid (HV0.out.setj 0)
  clear HX0 HV0
  go_enter_defers Try.func117, Try.ntmps117
  go_wp2
  clear k0 k1
  go_loopw [] (fun wr => ∃ j : Nat, j ≤ 64 ∧ (Es j).1 = 0 ∧ XM w wr B X (Es j).2 ∧ VB wr w.heap.size X 0 t K fn j) (fun wr => 64 - (match wr.cell? ⟨w.heap.size + 1 + 1 + 1 + 1, 0, none⟩ with | some v => (intOf v).toNat | none => 0))
  case atStart => exact ⟨0, by omega, h00, HX1.out, HV1.out⟩
  case round =>
    clear HX1 HV1
    obtain ⟨j, hj, he, hx, hv⟩ := hrel
    have f0 := hv.x; have f1 := hv.t; have f2 := hv.l0; have f3 := hv.l1; have f4 := hv.e; have f5 := hv.j; have f6 := hv.ze; have f7 := hv.zj; have f8 := hx.x
    have HX := hid hx; have HV := hid hv
    clear hx hv
    by_cases hj64 : j < 64
    · have hj64' : (j : Int) < 64 := by omega
      have hsj := HS.out j hj
      have HA := hid (fun (wd : World) (hm : PM wd B (Es j).2) => at_word B t j wd (Es j).2 T ((Es 0).2.word t j) hm (HOk.out j hj) (by omega) (by rw [hsj.n]; exact HT.out) (Mach.word_bs (hsj.bs t) j))
      clear hsj
      have HTj := hid (HTE.out j hj64 he)
      have HUj := hid (HUN.out j hj64 he)
      have HOj := hid (HOkd.out j hj)
      have HST1 := hid (fun (e1 : (Es (j + 1)).1 ≠ 0) => (show Es 64 = Es (j + 1) from by
        have : ∀ q, j + 1 + q ≤ 64 → Es (j + 1 + q) = Es (j + 1) := fun q => by
          induction q with
          | zero => intro; rfl
          | succ q ih => intro hq; exact (HST.out (j + 1 + q) (by omega) (by rw [ih (by omega)]; exact e1)).trans (ih (by omega))
        have := this (64 - (j + 1)) (by omega)
        rwa [show j + 1 + (64 - (j + 1)) = 64 by omega] at this))
      have hk4 : ((j + 1 : Nat) : Int) = (j : Int) + 1 := by omega
      generalize hE : Es (j + 1) = r at HTj HUj HST1
      obtain ⟨c, M'⟩ := r
      have HE := hid hE
      clear hE
      go_wp2
      go_region_held3 (fun w' => w'.cell? ⟨w.heap.size, 0, none⟩ = some (.pointer (some ⟨X, 0, none⟩)) ∧ w'.cell? ⟨w.heap.size + 1, 0, none⟩ = some (.int .i64 t) ∧ w'.cell? ⟨w.heap.size + 1 + 1 + 1 + 1, 0, none⟩ = some (.int .i64 j) ∧ w'.cell? ⟨X, 0, none⟩ = some (.pointer (some ⟨B, 0, none⟩))) (first | exact ⟨by assumption, by assumption, by assumption, by assumption⟩ | go_keep)
        (first | (go_at_call 25; refine (HA.out _ (HX.out.more (grownBy_drew _ none)).m).mono ?_; rintro e w2 ⟨rfl, g2⟩; have H2 := hid ((HX.out.more (grownBy_drew _ none)).more g2); have HV2 := hid ((HV.out.grown (grownBy_drew _ (some B)) HBl.out).grown (g2.but (some B)) HBl.out); have j1 := HV2.out.x; have j2 := HV2.out.t; have j3 := HV2.out.j; have j4 := H2.out.x; have j5 := HV2.out.l0; have j6 := HV2.out.l1; clear g2))
      clear f0 f1 f2 f3 f4 f5 f6 f7 f8
      by_cases hc : c = 0
      · subst hc
        go_wp2_with (go_at_call 119; refine (HTj.out _ H2.out.here).mono ?_; rintro e w3 ⟨rfl, h3⟩; have H3 := hid (H2.out.step h3); have HV3 := hid (HV2.out.grown h3.g HBl.out); have i1 := HV3.out.j; have i2 := HV3.out.zj; clear h3)
        go_roundw
        case rel => exact ⟨j + 1, by omega, by rw [HE.out], by rw [HE.out]; exact H3.out.set _ 0 _ (by omega) HBl.out HXl.out, by rw [hk4]; exact HV3.out.setj _⟩
        case measure =>
          have a1 := HV.out.j; have a2 := (HV3.out.setj ((j + 1 : Nat) : Int)).j
          rw [← hk4]
          simp only [a1, a2, intOf, Int.toNat_natCast]; exact Nat.sub_lt_sub_left hj64 (Nat.lt_succ_self j)
      · have hcb : (c != 0) = true := by simp [hc]
        go_wp2_with (go_at_call 119; refine (HTj.out _ H2.out.here).mono ?_; rintro e w3 ⟨rfl, h3⟩; have H3 := hid (H2.out.step h3); have HV3 := hid (HV2.out.grown h3.g HBl.out); have i1 := HV3.out.e; have i2 := HV3.out.ze; clear h3)
        obtain ⟨hu1, hu2⟩ := HUj.out hc
        obtain ⟨r1, r2⟩ := HA1.out c (by rw [HST1.out hc]) hc
        have H4 := hid (H3.out.set (w.heap.size + 1 + 1 + 1) 0 (.int .i64 c) (by omega) HBl.out HXl.out)
        have HV4 := hid (HV3.out.sete c)
        refine leaves_cons (f := 127) (args := #[.pointer (some ⟨w.heap.size + 1 + 1 + 1, 0, none⟩), .pointer (some ⟨w.heap.size, 0, none⟩), .pointer (some ⟨w.heap.size + 1, 0, none⟩), .pointer (some ⟨w.heap.size + 1 + 1, 0, none⟩), .pointer (some ⟨w.heap.size + 1 + 1 + 1 + 1, 0, none⟩)]) (by simp) (by simp [go_sem]) ?_
        refine (undo_yes B X w.heap.size K fn HBl.out c hc t j .returning _ M' (Md j) T H4.out.here HV4.out HOj.out hT hu1).mono ?_
        rintro e u' w5 ⟨rfl, rfl, h5⟩
        have hr := (HV4.out.grown h5.g HBl.out).e
        rw [hu2] at h5
        rw [r1, r2]
        refine ⟨.int .i64 c, by simp [results, Try.results117, go_sem, hr], rfl, H4.out.step h5⟩
    · obtain rfl : j = 64 := by omega
      have hge : ¬ ((64 : Nat) : Int) < 64 := by omega
      go_wp2
      obtain ⟨r1, r2⟩ := HA0.out he
      have H4 := hid (HX.out.set (w.heap.size + 1 + 1 + 1) 0 (.int .i64 0) (by omega) HBl.out HXl.out)
      have hr := (HV.out.sete 0).e
      refine leaves_cons (f := 127) (args := #[.pointer (some ⟨w.heap.size + 1 + 1 + 1, 0, none⟩), .pointer (some ⟨w.heap.size, 0, none⟩), .pointer (some ⟨w.heap.size + 1, 0, none⟩), .pointer (some ⟨w.heap.size + 1 + 1, 0, none⟩), .pointer (some ⟨w.heap.size + 1 + 1 + 1 + 1, 0, none⟩)]) (by simp) (by simp [go_sem]) ?_
      refine (undo_no _ _ _ _ _ .returning _ hr).mono ?_
      rintro e u' w5 ⟨rfl, rfl, rfl⟩
      rw [r1, r2]
      refine ⟨.int .i64 0, by simp [results, Try.results117, go_sem, hr], rfl, H4.out⟩
end Go.Proofs.Ytemeihamkdpmoaa

/-
  Package mmu: a reference as a table is taken, goes.
-/
set_option linter.unusedSimpArgs false
set_option linter.unusedVariables false
namespace Go.Proofs.Ytemeihamkdpmoaa
open Go.RowKit
set_option maxHeartbeats 1000000

/-- the level of a kind, as levelBy answers it -/
def LvBy (K fn : Nat) : Prop := ∀ wd : World, Calls Try.prog 116 #[.int .i64 K] wd fun x w' => x = .returned (.tuple #[.agg #[.int .i64 K, .func (.func fn) #[] #[]], .bool true]) ∧ wd.grownBy w' none
theorem lvBy2 : LvBy 2 112 := levelBy_2
theorem lvBy3 : LvBy 3 113 := levelBy_3
set_option maxRecDepth 100000 in
theorem xtakeK (B X K fn : Nat) (tk : Mach → Int → Nat → Int × Mach) (o i : Int) (w : World) (M : Mach) (T : Int) (h : XM w w B X M) (hok : M.ok T) (hT : T < 4611686018427387904) (hlv : LvBy K fn)
    (hv : (M.get i o K).1 = 0 → ¬ 1 < ((M.get i o K).2.fr i.toNat).cnt → ∀ W, XM W W B X (M.get i o K).2 → Calls Try.prog 117 #[.pointer (some ⟨X, 0, none⟩), .int .i64 o, .int .i64 i, .agg #[.int .i64 K, .func (.func fn) #[] #[]]] W fun e w' => e = .returned (.int .i64 (ents tk (M.get i o K).2 o i.toNat 64).1) ∧ XM W w' B X (if (ents tk (M.get i o K).2 o i.toNat 64).1 = 0 then (ents tk (M.get i o K).2 o i.toNat 64).2 else M)) :
    Calls Try.prog 94 #[.pointer (some ⟨X, 0, none⟩), .int .i64 o, .int .i64 i, .int .i64 K] w fun e w' => e = .returned (.int .i64 (tabG K tk M o i).1) ∧ XM w w' B X (tabG K tk M o i).2 := by
  have hx := h.x
  have H := hid h
  have HL := hid hlv
  have HG := hid (Get_any B i o K w M T h.m hok (by omega))
  have HO := hid (Mach.get_ok hok i o K)
  have HNo := hid (M.get_no i o K)
  unfold tabG
  obtain ⟨r, hr⟩ : ∃ r, M.get i o K = r := ⟨_, rfl⟩
  have HI := hid (show r.1 = 0 → r.2.is i = true from fun e => by rw [← hr] at e ⊢; rw [(M.get_same i o K).is]; exact Mach.get_is e)
  rw [hr] at HG HO HNo ⊢
  rw [hr] at hv
  obtain ⟨c, M'⟩ := r
  have HV := hid hv
  clear h hok hr hlv hv
  simp only at HV HI HO HNo ⊢
  by_cases h0 : c = 0
  · subst h0
    have hi := Mach.is_iff.1 (HI.out rfl)
    obtain ⟨j, rfl⟩ := Int.eq_ofNat_of_zero_le hi.1
    have HJ := hid hi.2
    clear hi HI
    simp only [ne_eq, not_true, if_false, Int.toNat_natCast] at HV ⊢
    by_cases h1 : 1 < (M'.fr j).cnt
    · rw [if_pos h1]
      go_enter Try.func94, Try.ntmps94
      go_wp2_with (first
        | (go_at_call 46; refine HG.out.mono ?_; rintro e w1 ⟨rfl, hm, g1⟩; have H1 := hid (H.out.put hm g1); clear hm g1)
        | (go_at_call 116; refine (HL.out _).mono ?_; rintro e w2 ⟨rfl, g2⟩; have H2 := hid (H1.out.more (g2.trans (World.grownBy_alloc w2 (.cells #[.int .i64 K, .func (.func fn) #[] #[]] 161) none))); have hx2 := H2.out.x; have l0 : (w2.alloc (.cells #[.int .i64 K, .func (.func fn) #[] #[]] 161)).cell? ⟨w2.heap.size, 0, none⟩ = some (.int .i64 K) := (by simp [go_sem]); have l1 : (w2.alloc (.cells #[.int .i64 K, .func (.func fn) #[] #[]] 161)).cell? ⟨w2.heap.size, 1, none⟩ = some (.func (.func fn) #[] #[]) := (by simp [go_sem]); clear g2)
        | (go_at_call 50; refine (Frame_out B j _ M' _ H2.out.m HO.out HJ.out).mono ?_; rintro e w3 ⟨rfl, g3⟩; have g3' := (g3.trans (World.grownBy_alloc w3 (.cells #[.int .i64 (M'.fr j).owner, .int .i64 (M'.fr j).ty, .int .i64 (M'.fr j).cnt, .int .i64 (M'.fr j).tot] 93) none)); have H3 := hid (H2.out.more g3'); have m0 := g3'.cell l0 (by simp); have m1 := g3'.cell l1 (by simp); clear g3 g3' l0 l1))
      go_ret
      exact ⟨rfl, H3.out⟩
    · rw [if_neg h1]
      have h1' : (M'.fr j).cnt ≤ 1 := by omega
      have HV' := hid (HV.out trivial h1)
      obtain ⟨a, ha⟩ : ∃ a, (ents tk M' o j 64).1 = a := ⟨_, rfl⟩
      obtain ⟨Mv, hMv⟩ : ∃ Mv, (if (ents tk M' o j 64).1 = 0 then (ents tk M' o j 64).2 else M) = Mv := ⟨_, rfl⟩
      have hres : (if (ents tk M' o j 64).1 = 0 then ((0 : Int), (ents tk M' o j 64).2) else ((ents tk M' o j 64).1, M)) = (a, Mv) := by
        rw [← ha, ← hMv]; split
        · rename_i e; rw [e]
        · rfl
      rw [hres]
      rw [hMv, ha] at HV'
      clear ha hMv hres HV
      go_enter Try.func94, Try.ntmps94
      go_wp2_with (first
        | (go_at_call 46; refine HG.out.mono ?_; rintro e w1 ⟨rfl, hm, g1⟩; have H1 := hid (H.out.put hm g1); clear hm g1)
        | (go_at_call 116; refine (HL.out _).mono ?_; rintro e w2 ⟨rfl, g2⟩; have H2 := hid (H1.out.more (g2.trans (World.grownBy_alloc w2 (.cells #[.int .i64 K, .func (.func fn) #[] #[]] 161) none))); have hx2 := H2.out.x; have l0 : (w2.alloc (.cells #[.int .i64 K, .func (.func fn) #[] #[]] 161)).cell? ⟨w2.heap.size, 0, none⟩ = some (.int .i64 K) := (by simp [go_sem]); have l1 : (w2.alloc (.cells #[.int .i64 K, .func (.func fn) #[] #[]] 161)).cell? ⟨w2.heap.size, 1, none⟩ = some (.func (.func fn) #[] #[]) := (by simp [go_sem]); clear g2)
        | (go_at_call 50; refine (Frame_out B j _ M' _ H2.out.m HO.out HJ.out).mono ?_; rintro e w3 ⟨rfl, g3⟩; have g3' := (g3.trans (World.grownBy_alloc w3 (.cells #[.int .i64 (M'.fr j).owner, .int .i64 (M'.fr j).ty, .int .i64 (M'.fr j).cnt, .int .i64 (M'.fr j).tot] 93) none)); have H3 := hid (H2.out.more g3'); have m0 := g3'.cell l0 (by simp); have m1 := g3'.cell l1 (by simp); clear g3 g3' l0 l1)
        | (go_at_call 117; refine (HV'.out _ H3.out.here).mono ?_; rintro e w4 ⟨rfl, h4⟩; have H4 := hid (H3.out.step h4); clear h4))
      go_ret
      exact ⟨rfl, H4.out⟩
  · have h0b : (c == 0) = false := by simp [h0]
    obtain rfl := HNo.out h0
    rw [if_pos h0]
    by_cases h13 : c = 13
    · subst h13
      go_enter Try.func94, Try.ntmps94
      go_wp2_with (go_at_call 46; refine HG.out.mono ?_; rintro e w1 ⟨rfl, hm, g1⟩; have H1 := hid (H.out.put hm g1); clear hm g1)
      go_ret
      exact ⟨rfl, H1.out⟩
    · have h13b : (c == 13) = false := by simp [h13]
      rw [refused_ne h0 h13]
      clear h0 h13
      go_enter Try.func94, Try.ntmps94
      go_wp2_with (go_at_call 46; refine HG.out.mono ?_; rintro e w1 ⟨rfl, hm, g1⟩; have H1 := hid (H.out.put hm g1); clear hm g1)
      go_ret
      exact ⟨rfl, H1.out⟩
set_option maxRecDepth 100000 in
theorem xdropK (B X K fn lv j : Nat) (dp : Mach → Nat × Nat → Mach) (w : World) (M : Mach) (T : Int) (h : XM w w B X M) (hok : M.ok T) (hT : T < 4611686018427387904) (hlv : LvBy K fn) (hp : (M.put j K).1 = 0)
    (hd : ¬ 0 < ((M.put j K).2.fr j).cnt → ∀ W, XM W W B X (M.put j K).2 → Calls Try.prog 118 #[.pointer (some ⟨X, 0, none⟩), .int .i64 j, .agg #[.int .i64 K, .func (.func fn) #[] #[]], .int .i64 64] W fun e w' => e = .returned (.tuple #[]) ∧ XM W w' B X ((M.refs lv j 64).foldl dp (M.put j K).2)) :
    Calls Try.prog 96 #[.pointer (some ⟨X, 0, none⟩), .int .i64 j, .int .i64 K] w fun e w' => e = .returned (.tuple #[]) ∧ XM w w' B X (untabG lv K dp M j) := by
  have hx := h.x
  have H := hid h
  have HL := hid hlv
  have HG := hid (Put_any B j K w M T h.m hok (by omega))
  have HO := hid (Mach.put_ok hok j K)
  have hi := Mach.is_iff.1 (Mach.put_is hp)
  have HJ := hid (show (j : Int) < (M.put j K).2.n by rw [(M.put_same j K).n]; exact hi.2)
  unfold untabG
  obtain ⟨r, hr⟩ : ∃ r, M.put j K = r := ⟨_, rfl⟩
  rw [hr] at HG HO HJ hp ⊢
  rw [hr] at hd
  obtain ⟨c, M'⟩ := r
  simp only at hp hd HO HJ ⊢
  subst hp
  have HD := hid hd
  have hnn : 0 ≤ (M'.fr j).cnt := ((HO.out.fr j HJ.out).1).c0
  clear h hok hr hlv hd hi
  by_cases h1 : 0 < (M'.fr j).cnt
  · rw [if_pos h1]
    have h1b : ((M'.fr j).cnt == 0) = false := by simp; omega
    go_enter Try.func96, Try.ntmps96
    go_wp2_with (first
      | (go_at_call 67; refine HG.out.mono ?_; rintro e w1 ⟨rfl, hm, g1⟩; have H1 := hid (H.out.put hm g1); clear hm g1)
      | (go_at_call 116; refine (HL.out _).mono ?_; rintro e w2 ⟨rfl, g2⟩; have H2 := hid (H1.out.more (g2.trans (World.grownBy_alloc w2 (.cells #[.int .i64 K, .func (.func fn) #[] #[]] 161) none))); have hx2 := H2.out.x; have l0 : (w2.alloc (.cells #[.int .i64 K, .func (.func fn) #[] #[]] 161)).cell? ⟨w2.heap.size, 0, none⟩ = some (.int .i64 K) := (by simp [go_sem]); have l1 : (w2.alloc (.cells #[.int .i64 K, .func (.func fn) #[] #[]] 161)).cell? ⟨w2.heap.size, 1, none⟩ = some (.func (.func fn) #[] #[]) := (by simp [go_sem]); clear g2)
      | (go_at_call 50; refine (Frame_out B j _ M' _ H2.out.m HO.out HJ.out).mono ?_; rintro e w3 ⟨rfl, g3⟩; have g3' := (g3.trans (World.grownBy_alloc w3 (.cells #[.int .i64 (M'.fr j).owner, .int .i64 (M'.fr j).ty, .int .i64 (M'.fr j).cnt, .int .i64 (M'.fr j).tot] 93) none)); have H3 := hid (H2.out.more g3'); have m0 := g3'.cell l0 (by simp); have m1 := g3'.cell l1 (by simp); clear g3 g3' l0 l1))
    first | go_end0 | ((try simp only [Exit.inBlock, Exit.then]); refine bodyPost_ret (results_none rfl _ _ _) rfl ?_)
    exact ⟨rfl, H3.out⟩
  · rw [if_neg h1]
    have h1b : ((M'.fr j).cnt == 0) = true := by simp; omega
    have HD' := hid (HD.out h1)
    clear HD
    go_enter Try.func96, Try.ntmps96
    go_wp2_with (first
      | (go_at_call 67; refine HG.out.mono ?_; rintro e w1 ⟨rfl, hm, g1⟩; have H1 := hid (H.out.put hm g1); clear hm g1)
      | (go_at_call 116; refine (HL.out _).mono ?_; rintro e w2 ⟨rfl, g2⟩; have H2 := hid (H1.out.more (g2.trans (World.grownBy_alloc w2 (.cells #[.int .i64 K, .func (.func fn) #[] #[]] 161) none))); have hx2 := H2.out.x; have l0 : (w2.alloc (.cells #[.int .i64 K, .func (.func fn) #[] #[]] 161)).cell? ⟨w2.heap.size, 0, none⟩ = some (.int .i64 K) := (by simp [go_sem]); have l1 : (w2.alloc (.cells #[.int .i64 K, .func (.func fn) #[] #[]] 161)).cell? ⟨w2.heap.size, 1, none⟩ = some (.func (.func fn) #[] #[]) := (by simp [go_sem]); clear g2)
      | (go_at_call 50; refine (Frame_out B j _ M' _ H2.out.m HO.out HJ.out).mono ?_; rintro e w3 ⟨rfl, g3⟩; have g3' := (g3.trans (World.grownBy_alloc w3 (.cells #[.int .i64 (M'.fr j).owner, .int .i64 (M'.fr j).ty, .int .i64 (M'.fr j).cnt, .int .i64 (M'.fr j).tot] 93) none)); have H3 := hid (H2.out.more g3'); have m0 := g3'.cell l0 (by simp); have m1 := g3'.cell l1 (by simp); clear g3 g3' l0 l1)
      | (go_at_call 118; refine (HD'.out _ H3.out.here).mono ?_; rintro e w4 ⟨rfl, h4⟩; have H4 := hid (H3.out.step h4); clear h4))
    first | go_end0 | ((try simp only [Exit.inBlock, Exit.then]); refine bodyPost_ret (results_none rfl _ _ _) rfl ?_)
    exact ⟨rfl, H4.out⟩
end Go.Proofs.Ytemeihamkdpmoaa

/-
  Package mmu: references as tables of both levels, whole.
-/
set_option linter.unusedSimpArgs false
set_option linter.unusedVariables false
namespace Go.Proofs.Ytemeihamkdpmoaa
open Go.RowKit
set_option maxHeartbeats 1000000

theorem take1_ok {M : Mach} {T : Int} (h : M.ok T) (o : Int) (n : Nat) : (take1 M o n).2.ok (T + 1) := by
  unfold take1
  split
  · exact h.mono (by omega)
  split
  · exact h.mono (by omega)
  · exact Mach.get_ok h _ _ _
theorem ents_ok' {tk : Mach → Int → Nat → Int × Mach} {c : Nat} (htk : ∀ {M : Mach} {T : Int}, M.ok T → ∀ o n, (tk M o n).2.ok (T + c)) {M : Mach} {T : Int} (h : M.ok T) (o : Int) (t k : Nat) : (ents tk M o t k).2.ok (T + (c * k : Nat)) := by
  induction k with
  | zero => simpa [ents] using h
  | succ k ih =>
    unfold ents
    split
    · have := htk ih o (M.word t k)
      rwa [Int.add_assoc, ← Int.natCast_add] at this
    · exact ih.mono (by have : c * k ≤ c * (k + 1) := Nat.mul_le_mul_left _ (by omega); omega)
set_option maxRecDepth 100000 in
theorem tabG_ok' {K : Nat} {tk : Mach → Int → Nat → Int × Mach} {c : Nat} (htk : ∀ {M : Mach} {T : Int}, M.ok T → ∀ o n, (tk M o n).2.ok (T + c)) {M : Mach} {T : Int} (h : M.ok T) (o t : Int) : (tabG K tk M o t).2.ok (T + (1 + c * 64 : Nat)) := by
  have hg := Mach.get_ok h t o K
  have he := ents_ok' htk hg o t.toNat 64
  unfold tabG
  split
  · exact h.mono (by omega)
  split
  · exact hg.mono (by omega)
  split
  · exact he.mono (by omega)
  · exact h.mono (by omega)
theorem take2_ok {M : Mach} {T : Int} (h : M.ok T) (o : Int) (n : Nat) : (take2 M o n).2.ok (T + (65 : Nat)) := by
  unfold take2
  split
  · exact h.mono (by omega)
  split
  · exact h.mono (by omega)
  · exact tabG_ok' (c := 1) (fun h o n => take1_ok h o n) h _ _
theorem dp1_ok {M : Mach} {T : Int} (h : M.ok T) (r : Nat × Nat) : (dp1 M r).ok T := Mach.put_ok h _ _
theorem foldl_ok {f : Mach → Nat × Nat → Mach} {T : Int} (hf : ∀ {M : Mach}, M.ok T → ∀ r, (f M r).ok T) : ∀ (l : List (Nat × Nat)) {M : Mach}, M.ok T → (l.foldl f M).ok T
  | [], _, h => h
  | r :: l, _, h => foldl_ok hf l (hf h r)
theorem untabG_ok' {lv K : Nat} {dp : Mach → Nat × Nat → Mach} {T : Int} (hf : ∀ {M : Mach}, M.ok T → ∀ r, (dp M r).ok T) {M : Mach} (h : M.ok T) (t : Nat) : (untabG lv K dp M t).ok T := by
  unfold untabG
  split
  · exact Mach.put_ok h _ _
  · exact foldl_ok hf _ (Mach.put_ok h _ _)
theorem dp2_ok {M : Mach} {T : Int} (h : M.ok T) (r : Nat × Nat) : (dp2 M r).ok T := untabG_ok' dp1_ok h _
theorem leaveG_ok' {lv : Nat} {dp : Mach → Nat × Nat → Mach} {T : Int} (hf : ∀ {M : Mach}, M.ok T → ∀ r, (dp M r).ok T) {M : Mach} (h : M.ok T) (n : Nat) : (leaveG lv dp M n).ok T := by
  unfold leaveG; split
  · exact h
  · exact hf h _
theorem foldl_leave (lv : Nat) (dp : Mach → Nat × Nat → Mach) (M N : Mach) (t j : Nat) : (N.refs lv t (j + 1)).foldl dp M = leaveG lv dp ((N.refs lv t j).foldl dp M) (N.word t j) := by
  rw [Mach.refs_succ, List.foldl_append]
  unfold leaveG
  cases rf lv (N.word t j) <;> rfl
theorem refs_split (M : Mach) (lv t j k : Nat) (h : j < k) : ∃ tl, M.refs lv t k = M.refs lv t j ++ ((rf lv (M.word t j)).toList ++ tl) := by
  induction k with
  | zero => omega
  | succ k ih =>
    by_cases e : j = k
    · subst e; exact ⟨[], by rw [Mach.refs_succ, List.append_nil]⟩
    · obtain ⟨tl, htl⟩ := ih (by omega)
      exact ⟨tl ++ (rf lv (M.word t k)).toList, by rw [Mach.refs_succ, htl]; simp [List.append_assoc]⟩
theorem Cnt.sub_add (C : Cnt) (i k : Nat) (hp : 0 < C i k) : Cnt.add (fun a b => C a b - if a = i ∧ b = k then 1 else 0) i k = C := by
  funext a b
  unfold Cnt.add
  by_cases g : a = i ∧ b = k
  · obtain ⟨rfl, rfl⟩ := g; simp; omega
  · simp [g]
theorem CHolds.put_ok0 {M : Mach} {C : Cnt} {i k : Nat} (h : CHolds M C) (hp : 0 < C i k) (hi : (i : Int) < M.n) (hk : k ≤ 3) : (M.put i k).1 = 0 :=
  (CHolds.put (C := fun a b => C a b - if a = i ∧ b = k then 1 else 0) (i := i) (k := k) (by rw [C.sub_add i k hp]; exact h) hi hk).1
theorem CHolds.put_cnt {M : Mach} {C : Cnt} {i k : Nat} (h : CHolds M C) (hp : 0 < C i k) (hi : (i : Int) < M.n) (hk : k ≤ 3) (k0 : k ≠ 0) : ((M.put i k).2.fr i).cnt = (M.fr i).cnt - 1 :=
  (CHolds.put (C := fun a b => C a b - if a = i ∧ b = k then 1 else 0) (i := i) (k := k) (by rw [C.sub_add i k hp]; exact h) hi hk).2.2 k0

section
variable {B X : Nat} {w : World} {M : Mach} {T : Int}
theorem xte1 (h : XM w w B X M) (hok : M.ok T) (hT : T < 4611686018427387904) (o : Int) (n : Nat) (hn : n < 4294967296) :
    Calls Try.prog 119 #[.pointer (some ⟨X, 0, none⟩), .int .i64 o, .int .u32 n, .agg #[.int .i64 (2 : Nat), .func (.func 112) #[] #[]]] w fun e w' => e = .returned (.int .i64 (take1 M o n).1) ∧ XM w w' B X (take1 M o n).2 :=
  xtakeEntry1 B X o n w M (refusedV (M.get (unpackV n).1.mfn o (kindOf (unpackV n).1.w : Nat)).1, (M.get (unpackV n).1.mfn o (kindOf (unpackV n).1.w : Nat)).2) h hn fun W hW => xtake0 B X o _ _ (kindOf_le _) W M T hW hok hT
theorem leave1_eq (M : Mach) (n : Nat) : leaveG 1 dp1 M n = if (unpackV n).1.p = false then M else (M.put (unpackV n).1.mfn (kindOf (unpackV n).1.w : Nat)).2 := by
  unfold leaveG
  cases hp : (unpackV n).1.p with
  | false => rw [rf_none hp, if_pos rfl]
  | true =>
    simp only [rf_some hp, Bool.true_eq_false, if_false, dp1]
    rw [Int.toNat_of_nonneg (unpackV_mfn n)]
    rfl
theorem xde1 (h : XM w w B X M) (hok : M.ok T) (hT : T < 4611686018427387904) (n : Nat) (hn : n < 4294967296) :
    Calls Try.prog 121 #[.pointer (some ⟨X, 0, none⟩), .int .u32 n, .agg #[.int .i64 (2 : Nat), .func (.func 112) #[] #[]]] w fun e w' => e = .returned (.tuple #[]) ∧ XM w w' B X (leaveG 1 dp1 M n) := by
  rw [leave1_eq]
  exact xdropEntry1 B X n w M _ h hn fun _ W hW => xdrop0 B X _ _ (kindOf_le _) W M T hW hok (by omega)
theorem xdes1 (h : XM w w B X M) (hok : M.ok T) (hT : T < 4611686018427387904) (t k : Nat) (hk : k ≤ 64) (ht : (t : Int) < M.n) :
    Calls Try.prog 118 #[.pointer (some ⟨X, 0, none⟩), .int .i64 t, .agg #[.int .i64 (2 : Nat), .func (.func 112) #[] #[]], .int .i64 k] w fun e w' => e = .returned (.tuple #[]) ∧ XM w w' B X ((M.refs 1 t k).foldl dp1 M) :=
  xdropEntries B X 2 112 t k hk w (fun j => (M.refs 1 t j).foldl dp1 M) T h (fun j _ => foldl_ok dp1_ok _ hok) ht (fun j _ => foldl_same lvl1.dp_same _ _) fun j hj W hW => by
    have := xde1 hW (foldl_ok dp1_ok _ hok) hT (M.word t j) (Mach.word_lt _ _ _)
    rw [← foldl_leave] at this
    exact this
theorem leave2_eq (M : Mach) (n : Nat) : leaveG 2 dp2 M n = if (unpackV n).1.p = false then M else untabG 1 2 dp1 M (unpackV n).1.mfn.toNat := by
  unfold leaveG
  cases hp : (unpackV n).1.p with
  | false => rw [rf_none hp, if_pos rfl]
  | true => simp only [rf_some hp, Bool.true_eq_false, if_false, dp2]
set_option maxRecDepth 100000 in
theorem xva1 {C : Cnt} (hC : CHolds M C) {o : Int} {i : Int} (hg : (M.get i o (2 : Nat)).1 = 0) (h : XM w w B X (M.get i o (2 : Nat)).2) (hok : M.ok T) (hT : T + 1000 < 4611686018427387904) :
    Calls Try.prog 117 #[.pointer (some ⟨X, 0, none⟩), .int .i64 o, .int .i64 i, .agg #[.int .i64 (2 : Nat), .func (.func 112) #[] #[]]] w fun e w' =>
      e = .returned (.int .i64 (ents take1 (M.get i o (2 : Nat)).2 o i.toNat 64).1) ∧ XM w w' B X (if (ents take1 (M.get i o (2 : Nat)).2 o i.toNat 64).1 = 0 then (ents take1 (M.get i o (2 : Nat)).2 o i.toNat 64).2 else M) := by
  have hi := Mach.is_iff.1 (Mach.get_is hg)
  obtain ⟨t, rfl⟩ := Int.eq_ofNat_of_zero_le hi.1
  have hok1 := Mach.get_ok hok t o (2 : Nat)
  have s1 := M.get_same t o (2 : Nat)
  have hund := fun k hk => undo lvl1 hC hg k hk _ (List.Perm.refl _)
  simp only [Int.toNat_natCast] at hund ⊢
  have ht1 : (t : Int) < (M.get t o (2 : Nat)).2.n := by rw [s1.n]; exact hi.2
  generalize (M.get t o (2 : Nat)).2 = M1 at *
  have hes : ∀ j, j ≤ 64 → (ents take1 M1 o t j).2.ok (T + 100) := fun j hj => (ents_ok' (c := 1) (fun h o n => take1_ok h o n) hok1 o t j).mono (by omega)
  refine xvalidate B X 2 112 t o w M (fun j => ents take1 M1 o t j) (fun j => (M1.refs 1 t j).foldl dp1 (ents take1 M1 o t (j + 1)).2) (T + 200) h rfl (fun j hj => (hes j hj).mono (by omega)) (fun j hj => ?_) (by omega) ht1 (fun j _ => ents_same lvl1 _ _ _ _)
    (fun j _ he => by show (if _ then _ else _) = _; rw [if_neg he]) (fun j _ he W hW => ?_) (fun j hj he hne => ⟨fun W hW => ?_, ?_⟩)
  · refine foldl_ok dp1_ok _ ?_
    exact (ents_ok' (c := 1) (fun h o n => take1_ok h o n) hok1 o t (j + 1)).mono (by omega)
  · have := xte1 hW (hes j (by omega)) (by omega) o (M1.word t j) (Mach.word_lt _ _ _)
    have e : ents take1 M1 o t (j + 1) = take1 (ents take1 M1 o t j).2 o (M1.word t j) := by show (if _ then _ else _) = _; rw [if_pos he]
    rw [e]
    exact this
  · have s2 := ents_same lvl1 M1 o t (j + 1)
    have := xdes1 hW (hes (j + 1) (by omega)) (by omega) t j (by omega) (by rw [s2.n]; exact ht1)
    rw [Mach.refs_bs (s2.bs t)] at this
    exact this
  · have e : (ents take1 M1 o t (j + 1)).2 = (ents take1 M1 o t j).2 := by
      have e : ents take1 M1 o t (j + 1) = take1 (ents take1 M1 o t j).2 o (M1.word t j) := by show (if _ then _ else _) = _; rw [if_pos he]
      rw [e] at hne ⊢
      exact lvl1.tk_no hne
    simp only [e]
    exact (hund j he).1
theorem xta1 {C : Cnt} (hC : CHolds M C) (h : XM w w B X M) (hok : M.ok T) (hT : T + 1000 < 4611686018427387904) (o i : Int) :
    Calls Try.prog 94 #[.pointer (some ⟨X, 0, none⟩), .int .i64 o, .int .i64 i, .int .i64 (2 : Nat)] w fun e w' => e = .returned (.int .i64 (tabG 2 take1 M o i).1) ∧ XM w w' B X (tabG 2 take1 M o i).2 :=
  xtakeK B X 2 112 take1 o i w M T h hok (by omega) lvBy2 fun hg _ W hW => xva1 hC hg hW hok hT
theorem xdr1 (h : XM w w B X M) (hok : M.ok T) (hT : T < 4611686018427387904) (j : Nat) (hp : (M.put j (2 : Nat)).1 = 0) :
    Calls Try.prog 96 #[.pointer (some ⟨X, 0, none⟩), .int .i64 j, .int .i64 (2 : Nat)] w fun e w' => e = .returned (.tuple #[]) ∧ XM w w' B X (untabG 1 2 dp1 M j) :=
  xdropK B X 2 112 1 j dp1 w M T h hok hT lvBy2 hp fun _ W hW => by
    have s := M.put_same j (2 : Nat)
    have := xdes1 hW (Mach.put_ok hok _ _) hT j 64 (by omega) (by rw [s.n]; exact (Mach.is_iff.1 (Mach.put_is hp)).2)
    rw [Mach.refs_bs (s.bs j)] at this
    exact this
theorem xte2 {C : Cnt} (hC : Inv1 M C) (h : XM w w B X M) (hok : M.ok T) (hT : T + 1000 < 4611686018427387904) (o : Int) (n : Nat) (hn : n < 4294967296) :
    Calls Try.prog 119 #[.pointer (some ⟨X, 0, none⟩), .int .i64 o, .int .u32 n, .agg #[.int .i64 (3 : Nat), .func (.func 113) #[] #[]]] w fun e w' => e = .returned (.int .i64 (take2 M o n).1) ∧ XM w w' B X (take2 M o n).2 :=
  xtakeEntry2 B X o n w M (tabG 2 take1 M o (unpackV n).1.mfn) h hn fun W hW => xta1 hC.holds hW hok hT o _
theorem xde2 (h : XM w w B X M) (hok : M.ok T) (hT : T < 4611686018427387904) (n : Nat) (hn : n < 4294967296) (hp : ∀ r, rf 2 n = some r → (M.put r.1 (2 : Nat)).1 = 0) :
    Calls Try.prog 121 #[.pointer (some ⟨X, 0, none⟩), .int .u32 n, .agg #[.int .i64 (3 : Nat), .func (.func 113) #[] #[]]] w fun e w' => e = .returned (.tuple #[]) ∧ XM w w' B X (leaveG 2 dp2 M n) := by
  rw [leave2_eq]
  exact xdropEntry2 B X n w M _ h hn fun hq W hW => by
    have h0 := hp _ (rf_some hq)
    have := xdr1 hW hok hT (unpackV n).1.mfn.toNat h0
    rwa [Int.toNat_of_nonneg (unpackV_mfn n)] at this
theorem Inv1.put_ok0 {C : Cnt} {i : Nat} (h : Inv1 M C) (hp : 0 < C i 2) (hi : (i : Int) < M.n) : (M.put i (2 : Nat)).1 = 0 :=
  CHolds.put_ok0 h.holds (by rw [full1_2]; exact hp) hi (by decide)
theorem xdes2 {C : Cnt} {k t : Nat} {o : Int} (hC : Inv1 M (C.plus (M.refs 2 t k))) (hgd : ∀ j, j < k → good M o (M.word t j)) (h : XM w w B X M) (hok : M.ok T) (hT : T < 4611686018427387904) (hk : k ≤ 64) (ht : (t : Int) < M.n) :
    Calls Try.prog 118 #[.pointer (some ⟨X, 0, none⟩), .int .i64 t, .agg #[.int .i64 (3 : Nat), .func (.func 113) #[] #[]], .int .i64 k] w fun e w' => e = .returned (.tuple #[]) ∧ XM w w' B X ((M.refs 2 t k).foldl dp2 M) :=
  xdropEntries B X 3 113 t k hk w (fun j => (M.refs 2 t j).foldl dp2 M) T h (fun j _ => foldl_ok dp2_ok _ hok) ht (fun j _ => foldl_same lvl2.dp_same _ _) fun j hj W hW => by
    obtain ⟨tl, htl⟩ := refs_split M 2 t j k hj
    have s := foldl_same lvl2.dp_same (M.refs 2 t j) M
    have hpart : Inv1 ((M.refs 2 t j).foldl dp2 M) (C.plus ((rf 2 (M.word t j)).toList ++ tl)) := by
      refine (drops_ok lvl2 (C := C.plus ((rf 2 (M.word t j)).toList ++ tl)) ?_ (refs_good fun q hq => hgd q (by omega))).1
      rw [← Cnt.plus_app, Cnt.plus_perm _ (List.perm_append_comm.trans (List.Perm.of_eq htl.symm))]
      exact hC
    have := xde2 hW (foldl_ok dp2_ok _ hok) hT (M.word t j) (Mach.word_lt _ _ _) fun r hr => by
      have hlt : (r.1 : Int) < M.n := by
        have := (refs_good (lv := 2) hgd r (by rw [htl, hr]; simp)).2
        exact this
      refine Inv1.put_ok0 hpart ?_ (by rw [s.n]; exact hlt)
      rw [hr]
      simp only [Option.toList_some, List.singleton_append, Cnt.plus_cons]
      have := rf_two hr
      rw [this]
      exact Cnt.add_pos _ _ _
    rw [← foldl_leave] at this
    exact this
set_option maxRecDepth 100000 in
theorem xva2 {C : Cnt} (hC : Inv1 M C) {o : Int} {i : Int} (hg : (M.get i o (3 : Nat)).1 = 0) (h : XM w w B X (M.get i o (3 : Nat)).2) (hok : M.ok T) (hT : T + 10000 < 4611686018427387904) :
    Calls Try.prog 117 #[.pointer (some ⟨X, 0, none⟩), .int .i64 o, .int .i64 i, .agg #[.int .i64 (3 : Nat), .func (.func 113) #[] #[]]] w fun e w' =>
      e = .returned (.int .i64 (ents take2 (M.get i o (3 : Nat)).2 o i.toNat 64).1) ∧ XM w w' B X (if (ents take2 (M.get i o (3 : Nat)).2 o i.toNat 64).1 = 0 then (ents take2 (M.get i o (3 : Nat)).2 o i.toNat 64).2 else M) := by
  have hi := Mach.is_iff.1 (Mach.get_is hg)
  obtain ⟨t, rfl⟩ := Int.eq_ofNat_of_zero_le hi.1
  have hok1 := Mach.get_ok hok t o (3 : Nat)
  have s1 := M.get_same t o (3 : Nat)
  have hund := fun k hk => undo lvl2 hC hg k hk _ (List.Perm.refl _)
  have h1 := lvl2.get hC hg
  simp only [Int.toNat_natCast] at hund h1 ⊢
  have ht1 : (t : Int) < (M.get t o (3 : Nat)).2.n := by rw [s1.n]; exact hi.2
  generalize (M.get t o (3 : Nat)).2 = M1 at *
  have hes : ∀ j, j ≤ 64 → (ents take2 M1 o t j).2.ok (T + 4300) := fun j hj => (ents_ok' (c := 65) (fun h o n => take2_ok h o n) hok1 o t j).mono (by omega)
  have hey := fun j he => ents_yes lvl2 h1 o t j he
  refine xvalidate B X 3 113 t o w M (fun j => ents take2 M1 o t j) (fun j => (M1.refs 2 t j).foldl dp2 (ents take2 M1 o t (j + 1)).2) (T + 5000) h rfl (fun j hj => (hes j hj).mono (by omega)) (fun j hj => ?_) (by omega) ht1 (fun j _ => ents_same lvl2 _ _ _ _)
    (fun j _ he => by show (if _ then _ else _) = _; rw [if_neg he]) (fun j _ he W hW => ?_) (fun j hj he hne => ⟨fun W hW => ?_, ?_⟩)
  · refine foldl_ok dp2_ok _ ?_
    exact (ents_ok' (c := 65) (fun h o n => take2_ok h o n) hok1 o t (j + 1)).mono (by omega)
  · have := xte2 (hey j he).1 hW (hes j (by omega)) (by omega) o (M1.word t j) (Mach.word_lt _ _ _)
    have e : ents take2 M1 o t (j + 1) = take2 (ents take2 M1 o t j).2 o (M1.word t j) := by show (if _ then _ else _) = _; rw [if_pos he]
    rw [e]
    exact this
  · have e : (ents take2 M1 o t (j + 1)).2 = (ents take2 M1 o t j).2 := by
      have e : ents take2 M1 o t (j + 1) = take2 (ents take2 M1 o t j).2 o (M1.word t j) := by show (if _ then _ else _) = _; rw [if_pos he]
      rw [e] at hne ⊢
      exact lvl2.tk_no hne
    rw [e] at hW
    simp only [e]
    have s2 := ents_same lvl2 M1 o t j
    obtain ⟨y1, y2⟩ := hey j he
    rw [← Mach.refs_bs (s2.bs t)] at y1
    have := xdes2 y1 (o := o) (fun q hq => by rw [Mach.word_bs (s2.bs t)]; exact (y2 q hq).same s2) hW (hes j (by omega)) (by omega) (by omega) (by rw [s2.n]; exact ht1)
    rw [Mach.refs_bs (s2.bs t)] at this
    exact this
  · have e : (ents take2 M1 o t (j + 1)).2 = (ents take2 M1 o t j).2 := by
      have e : ents take2 M1 o t (j + 1) = take2 (ents take2 M1 o t j).2 o (M1.word t j) := by show (if _ then _ else _) = _; rw [if_pos he]
      rw [e] at hne ⊢
      exact lvl2.tk_no hne
    simp only [e]
    exact (hund j he).1
theorem xta2 {C : Cnt} (hC : Inv1 M C) (h : XM w w B X M) (hok : M.ok T) (hT : T + 10000 < 4611686018427387904) (o i : Int) :
    Calls Try.prog 94 #[.pointer (some ⟨X, 0, none⟩), .int .i64 o, .int .i64 i, .int .i64 (3 : Nat)] w fun e w' => e = .returned (.int .i64 (tabG 3 take2 M o i).1) ∧ XM w w' B X (tabG 3 take2 M o i).2 :=
  xtakeK B X 3 113 take2 o i w M T h hok (by omega) lvBy3 fun hg _ W hW => xva2 hC hg hW hok hT
theorem xdr2 {F : Cnt} {j : Nat} (hF : Inv2 M (F.add j 3)) (hj : (j : Int) < M.n) (h : XM w w B X M) (hok : M.ok T) (hT : T < 4611686018427387904) :
    Calls Try.prog 96 #[.pointer (some ⟨X, 0, none⟩), .int .i64 j, .int .i64 (3 : Nat)] w fun e w' => e = .returned (.tuple #[]) ∧ XM w w' B X (untabG 2 3 dp2 M j) := by
  have f3 := full_other (lv := 2) (K := 3) (m := 3) (rf_two_ne (by decide)) M (F.add j 3) j
  have hp : (M.put j (3 : Nat)).1 = 0 := CHolds.put_ok0 hF.inv.holds (by rw [full1_3, f3]; exact Cnt.add_pos _ _ _) hj (by decide)
  refine xdropK B X 3 113 2 j dp2 w M T h hok hT lvBy3 hp fun hz W hW => ?_
  have s := M.put_same j (3 : Nat)
  have hcnt : (M.fr j).cnt = F j 3 + 1 := by
    have := lvl2.cntK hF.inv hj (by rw [f3]; exact Cnt.add_pos _ _ _)
    rw [f3, Cnt.add_at] at this
    rw [this]; rfl
  have hz0 : F j 3 = 0 := by
    have hd := CHolds.put_cnt (i := j) (k := 3) hF.inv.holds (by rw [full1_3, f3]; exact Cnt.add_pos _ _ _) hj (by decide) (by decide)
    omega
  have h1 := hF.inv
  rw [full_add_new M F j hz0 hj, Cnt.add_plus] at h1
  have h2 := lvl2.put h1 hj
  rw [← Mach.refs_bs (s.bs j)] at h2
  have := xdes2 h2 (o := (M.fr j).owner) (fun q hq => by rw [Mach.word_bs (s.bs j)]; exact (hF.g j hj (Cnt.add_pos _ _ _) q hq).same s) hW (Mach.put_ok hok _ _) hT (by omega) (by rw [s.n]; exact hj)
  rw [Mach.refs_bs (s.bs j)] at this
  exact this
end
end Go.Proofs.Ytemeihamkdpmoaa

/-
  Contracts of package tenementref01: Is, Domain, still, In.
-/
set_option linter.unusedSimpArgs false
set_option linter.unusedVariables false
namespace Go.Proofs.Ytemeihamkdpmoaa
open Go.RowKit
set_option maxHeartbeats 400000

theorem rDomain_no (d : Int) (w : World) (h : d < 0 ∨ 8 ≤ d) : Calls Try.prog 104 #[.int .i64 d] w fun e w' => e = .returned (.bool false) ∧ w = w' := by
  by_cases h1 : d < 0
  · clear h
    go_enter Try.func104, Try.ntmps104
    go_wp2
    go_ret
    first | exact ⟨rfl, rfl⟩ | (refine ⟨?_, rfl⟩; simp; omega)
  · have h2 : 8 ≤ d := by omega
    clear h
    go_enter Try.func104, Try.ntmps104
    go_wp2
    go_ret
    first | exact ⟨rfl, rfl⟩ | (refine ⟨?_, rfl⟩; simp; omega)
theorem rDomain_yes (d : Int) (w : World) (h0 : 0 ≤ d) (h1 : d < 8) : Calls Try.prog 104 #[.int .i64 d] w fun e w' => e = .returned (.bool true) ∧ w = w' := by
  go_enter Try.func104, Try.ntmps104
  go_wp2
  go_ret
  first | exact ⟨rfl, rfl⟩ | (refine ⟨?_, rfl⟩; simp; omega)
theorem Is_no (b : Nat) (i : Int) (w : World) (M : Mach) (L : Lay) (h : RM w b M L) (hi : i < 0 ∨ M.n ≤ i) : Calls Try.prog 77 #[.pointer (some ⟨b, 0, none⟩), .int .i64 i] w fun e w' => e = .returned (.bool false) ∧ w = w' := by
  have c0 := h.slF
  rw [h.hn] at hi
  by_cases h1 : i < 0
  · clear hi
    go_enter Try.func77, Try.ntmps77
    go_wp2
    go_ret
    first | exact ⟨rfl, rfl⟩ | (refine ⟨?_, rfl⟩; simp; omega)
  · have h2 : (L.n : Int) ≤ i := by omega
    have h3 : 0 ≤ i := by omega
    clear hi
    go_enter Try.func77, Try.ntmps77
    go_wp2
    go_ret
    first | exact ⟨rfl, rfl⟩ | (refine ⟨?_, rfl⟩; simp; omega)
theorem Is_yes (b : Nat) (i : Nat) (w : World) (M : Mach) (L : Lay) (h : RM w b M L) (hi : i < L.n) : Calls Try.prog 77 #[.pointer (some ⟨b, 0, none⟩), .int .i64 i] w fun e w' => e = .returned (.bool true) ∧ w = w' := by
  have c0 := h.slF
  have h2 : (i : Int) < L.n := by omega
  have h3 : (0 : Int) ≤ i := by omega
  go_enter Try.func77, Try.ntmps77
  go_wp2
  go_ret
  first | exact ⟨rfl, rfl⟩ | (refine ⟨?_, rfl⟩; simp; omega)
theorem still_free (b : Nat) (i : Nat) (w : World) (M : Mach) (L : Lay) (h : RM w b M L) (hi : i < L.n) (ho : (M.fr i).owner = -1) : Calls Try.prog 105 #[.pointer (some ⟨b, 0, none⟩), .int .i64 i] w fun e w' => e = .returned (.int .i64 11) ∧ w = w' := by
  have c0 := h.slF
  have c1 := h.owner hi
  rw [ho] at c1
  have h2 : (i : Int) < L.n := by omega
  have h3 : (0 : Int) ≤ i := by omega
  go_enter Try.func105, Try.ntmps105
  go_wp2
  go_ret
  first | exact ⟨rfl, rfl⟩ | (refine ⟨?_, rfl⟩; simp; omega)
theorem still_busy (b : Nat) (i : Nat) (w : World) (M : Mach) (L : Lay) (h : RM w b M L) (hi : i < L.n) (ho : ((M.fr i).owner == -1) = false) (ht : ((M.fr i).tot != 0) = true) : Calls Try.prog 105 #[.pointer (some ⟨b, 0, none⟩), .int .i64 i] w fun e w' => e = .returned (.int .i64 9) ∧ w = w' := by
  have c0 := h.slF
  have c1 := h.owner hi
  have c2 := h.tot hi
  have h2 : (i : Int) < L.n := by omega
  have h3 : (0 : Int) ≤ i := by omega
  go_enter Try.func105, Try.ntmps105
  go_wp2
  go_ret
  first | exact ⟨rfl, rfl⟩ | (refine ⟨?_, rfl⟩; simp; omega)
theorem still_no (b : Nat) (i : Nat) (w : World) (M : Mach) (L : Lay) (h : RM w b M L) (hi : i < L.n) (ho : ((M.fr i).owner == -1) = false) (ht : (M.fr i).tot = 0) : Calls Try.prog 105 #[.pointer (some ⟨b, 0, none⟩), .int .i64 i] w fun e w' => e = .returned (.int .i64 0) ∧ w = w' := by
  have c0 := h.slF
  have c1 := h.owner hi
  have c2 := h.tot hi
  rw [ht] at c2
  have h2 : (i : Int) < L.n := by omega
  have h3 : (0 : Int) ≤ i := by omega
  go_enter Try.func105, Try.ntmps105
  go_wp2
  go_ret
  first | exact ⟨rfl, rfl⟩ | (refine ⟨?_, rfl⟩; simp; omega)
theorem In_no (b : Nat) (i off n : Int) (w : World) (M : Mach) (L : Lay) (h : RM w b M L) (hn : n ≤ 9223372036854775807) (hi : M.is i = false ∨ inP off n = false) : Calls Try.prog 107 #[.pointer (some ⟨b, 0, none⟩), .int .i64 i, .int .i64 off, .int .i64 n] w fun e w' => e = .returned (.bool false) ∧ w = w' := by
  by_cases h1 : i < 0 ∨ M.n ≤ i
  · clear hi
    go_enter Try.func107, Try.ntmps107
    go_wp2_with (go_at_call 77; refine (Is_no _ _ _ _ _ h h1).mono ?_; rintro e w' ⟨rfl, rfl⟩)
    go_ret
    first | exact ⟨rfl, rfl⟩ | (refine ⟨?_, rfl⟩; simp; omega)
  · obtain ⟨j, rfl⟩ := Int.eq_ofNat_of_zero_le (show 0 ≤ i by omega)
    have hj : j < L.n := by have := h.hn; omega
    have hp : inP off n = false := by
      rcases hi with hi | hi
      · rw [Mach.is_yes (by omega) (by omega)] at hi; cases hi
      · exact hi
    clear hi h1
    have hp' : off < 0 ∨ (0 ≤ off ∧ n < 0) ∨ (0 ≤ off ∧ 0 ≤ n ∧ 256 < off) ∨ (0 ≤ off ∧ 0 ≤ n ∧ off ≤ 256 ∧ 256 - off < n) := by
      simp only [inP, Bool.and_eq_false_iff, decide_eq_false_iff_not] at hp; omega
    clear hp
    rcases hp' with h1 | ⟨h1, h2⟩ | ⟨h1, h2, h3⟩ | ⟨h1, h2, h3, h4⟩
    all_goals
      go_enter Try.func107, Try.ntmps107
      go_wp2_with (go_at_call 77; refine (Is_yes _ _ _ _ _ h hj).mono ?_; rintro e w' ⟨rfl, rfl⟩)
      go_ret
      first | exact ⟨rfl, rfl⟩ | (refine ⟨?_, rfl⟩; simp; omega)
theorem In_yes (b i off n : Nat) (w : World) (M : Mach) (L : Lay) (h : RM w b M L) (hi : i < L.n) (hp : off + n ≤ 256) : Calls Try.prog 107 #[.pointer (some ⟨b, 0, none⟩), .int .i64 i, .int .i64 off, .int .i64 n] w fun e w' => e = .returned (.bool true) ∧ w = w' := by
  have h1 : (0 : Int) ≤ off := by omega
  have h2 : (0 : Int) ≤ n := by omega
  have h3 : (off : Int) ≤ 256 := by omega
  have h4 : (n : Int) ≤ 256 - off := by omega
  go_enter Try.func107, Try.ntmps107
  go_wp2_with (go_at_call 77; refine (Is_yes _ _ _ _ _ h hi).mono ?_; rintro e w' ⟨rfl, rfl⟩)
  go_ret
  first | exact ⟨rfl, rfl⟩ | (refine ⟨?_, rfl⟩; simp; omega)
end Go.Proofs.Ytemeihamkdpmoaa
