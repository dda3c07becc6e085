/-
  The reference's switch: Counts.
-/
import Derived.Test.YtakofhhfdgankaaBrV
set_option linter.unusedSimpArgs false
set_option linter.unusedVariables false
namespace Go.Proofs.Ytakofhhfdgankaa.Br
open Go.RowKit Gen Bk
set_option maxHeartbeats 2000000

section
variable {C : Nat → Prop} {lab lab' lab1 : Nat → Nat} {w w' w1 : World} {y r a ca : Nat} {lq : Nat → Lq} {S : Sw} {k : Nat} {s s' : Sd} {T : Nat}
set_option maxRecDepth 100000 in
theorem yCounts_no (h : RS lab w y r a ca lq S) (ok : S.ok T) (x : Int) (hx : S.is x = false) :
    Calls Try.prog 33 #[.pointer (some ⟨y, 0, none⟩), .int .i64 x] w fun e w' => e = .returned (.tuple #[.agg (ctC 0 0 0 0 0 0 0 0 0), .int .i64 1]) ∧ w.grownBy w' none := by
  have H := hid (fun (W : World) (hg : w.grownBy W none) => by have q := yIs (h.grown ok.n8 hg) x; rw [hx] at q; exact q)
  clear h ok hx
  go_enter Try.func33, Try.ntmps33
  go_wp2_with (first
    | (refine wpList_alloc_ct (w := w) rfl rfl ?_; intro W1 hs1 hb1 hg1; have B1 := hid hb1; have G1 := hid hg1; clear hs1 hb1 hg1)
    | (go_at_call 34; refine (H.out _ G1.out).mono ?_; rintro e w' ⟨rfl, rfl⟩)
    | (refine wpList_store_ct rfl (.tmp 4) (.tmp 11) rfl _ (ctC 0 0 0 0 0 0 0 0 0) rfl (ctC_one _ _ _ _ _ _ _ _ _) rfl rfl _ B1.out ?_; intro W2 hs2 hb2 hg2; have B2 := hid hb2; have G2 := hid hg2; clear hs2 hb2 hg2))
  have c0 := B2.out.cell 0
  have c1 := B2.out.cell 1
  have c2 := B2.out.cell 2
  have c3 := B2.out.cell 3
  have c4 := B2.out.cell 4
  have c5 := B2.out.cell 5
  have c6 := B2.out.cell 6
  have c7 := B2.out.cell 7
  have c8 := B2.out.cell 8
  simp only [ctC, List.getElem?_toArray, List.getElem?_cons_zero, List.getElem?_cons_succ] at c0 c1 c2 c3 c4 c5 c6 c7 c8
  refine bodyPost_ret (v := .tuple #[.agg (ctC 0 0 0 0 0 0 0 0 0), .int .i64 1]) (by simp [results, Try.results33, ctC, go_sem, c0, c1, c2, c3, c4, c5, c6, c7, c8]) rfl ⟨rfl, ?_⟩
  exact G1.out.andThen G2.out fun j hj => by cases hj; exact .inl (Nat.le_refl _)
set_option maxRecDepth 100000 in
theorem yCounts_yes (h : RS lab w y r a ca lq S) (ok : S.ok T) (k : Nat) (hk : k < S.n) :
    Calls Try.prog 33 #[.pointer (some ⟨y, 0, none⟩), .int .i64 (k : Int)] w fun e w' => e = .returned (.tuple #[.agg (S.P k).cts, .int .i64 0]) ∧ w.grownBy w' none := by
  have H := hid (fun (W : World) (hg : w.grownBy W none) => by have q := yIs (h.grown ok.n8 hg) k; rw [Sw.is_mk hk] at q; exact q)
  have HC := hid (fun (W : World) (hg : w.grownBy W none) => (show W.cell? ⟨y, 0, none⟩ = some (.slice (some ⟨r, 0, none⟩) S.n S.n) ∧ W.cell? ⟨r, k * 13 + 4, none⟩ = some (.int .i64 (S.P k).taken) ∧ W.cell? ⟨r, k * 13 + 5, none⟩ = some (.int .i64 (S.P k).fw) ∧ W.cell? ⟨r, k * 13 + 6, none⟩ = some (.int .i64 (S.P k).mal) ∧ W.cell? ⟨r, k * 13 + 7, none⟩ = some (.int .i64 (S.P k).noCr) ∧ W.cell? ⟨r, k * 13 + 8, none⟩ = some (.int .i64 (S.P k).dir) ∧ W.cell? ⟨r, k * 13 + 9, none⟩ = some (.int .i64 (S.P k).del) ∧ W.cell? ⟨r, k * 13 + 10, none⟩ = some (.int .i64 0) ∧ W.cell? ⟨r, k * 13 + 11, none⟩ = some (.int .i64 (S.P k).noBuf) ∧ W.cell? ⟨r, k * 13 + 12, none⟩ = some (.int .i64 (S.P k).full) ∧ W.cell? ⟨r, k * 13 + 3, none⟩ = some (.slice (lq k).p (S.P k).q.length (lq k).c) from
    have q := (h.grown ok.n8 hg).self k
    ⟨q.c0, q.at_taken hk, q.at_fw hk, q.at_mal hk, q.at_noCr hk, q.at_dir hk, q.at_del hk, q.at_10 hk, q.at_noBuf hk, q.at_full hk, q.at_q hk⟩))
  have k0 : (0 : Int) ≤ k := by omega
  have k1 : (k : Int) < S.n := by omega
  have n8 := ok.n8
  unfold Sd.cts
  obtain ⟨⟨bu, ra, cr, q, tk, fw, mal, nc, dr, dl, nb, fl⟩, hs⟩ : ∃ s, S.P k = s := ⟨_, rfl⟩
  rw [hs] at HC ⊢
  simp only at HC ⊢
  obtain ⟨n, hn⟩ : ∃ n, q.length = n := ⟨_, rfl⟩
  rw [hn] at HC ⊢
  clear h ok hs hn hk
  go_enter Try.func33, Try.ntmps33
  go_wp2_with (first
    | (refine wpList_alloc_ct (w := w) rfl rfl ?_; intro W1 hs1 hb1 hg1; have B1 := hid hb1; have G1 := hid hg1; obtain ⟨c0, c4, c5, c6, c7, c8, c9, c10, c11, c12, c3⟩ := HC.out _ hg1; clear hs1 hb1 hg1)
    | (go_at_call 34; refine (H.out _ G1.out).mono ?_; rintro e w' ⟨rfl, rfl⟩)
    | (refine wpList_alloc_ct (w := W1) rfl rfl ?_; intro W2 hs2 hb2 hg2; have B2 := hid hb2; have G2 := hid hg2; clear c0 c4 c5 c6 c7 c8 c9 c10 c11 c12 c3 hs2 hb2 hg2)
    | (refine wpList_store_ct (w := W2) rfl (.tmp 6) (.tmp 19) rfl _ (ctC tk fw mal nc dr dl 0 nb fl) rfl (ctC_one _ _ _ _ _ _ _ _ _) rfl rfl _ B2.out ?_; intro W3 hs3 hb3 hg3; have G3 := hid (G2.out.andThen hg3 fun j hj => by cases hj; exact .inl (Nat.le_refl _)); have B3 := hid hb3; obtain ⟨c0, -, -, -, -, -, -, -, -, -, c3⟩ := HC.out _ (G1.out.trans G3.out); have c6 := hb3.cell 6; have fz6 := hb3.fz 6; obtain ⟨W4, hW4⟩ : ∃ W, W3.setCell ⟨W1.heap.size, 6, none⟩ (.int .i64 n) = W := ⟨_, rfl⟩; have B4 := hid (hW4 ▸ hb3.set 6 (.int .i64 n)); have G4 := hid (G3.out.andThen (hW4 ▸ grownBy_setCell W3 W1.heap.size 6 none (.int .i64 n)) fun j hj => by cases hj; exact .inl (Nat.le_refl _)); clear hs3 hb3 hg3; simp only [ctC, List.getElem?_toArray, List.getElem?_cons_zero, List.getElem?_cons_succ] at c6)
    | (refine wpList_load_ct (w := W4) rfl (.tmp 6) rfl _ (ctC tk fw mal nc dr dl n nb fl) rfl B4.out ?_)
    | (refine wpList_store_ct (w := W4) rfl (.tmp 4) (.tmp 30) rfl _ (ctC tk fw mal nc dr dl n nb fl) rfl (ctC_one _ _ _ _ _ _ _ _ _) rfl rfl _ (B1.out.grown G4.out (by simp)) ?_; intro W5 hs5 hb5 hg5; have B5 := hid hb5; have G5 := hid hg5; clear hs5 hb5 hg5))
  have c0 := B5.out.cell 0
  have c1 := B5.out.cell 1
  have c2 := B5.out.cell 2
  have c3 := B5.out.cell 3
  have c4 := B5.out.cell 4
  have c5 := B5.out.cell 5
  have c6 := B5.out.cell 6
  have c7 := B5.out.cell 7
  have c8 := B5.out.cell 8
  simp only [ctC, List.getElem?_toArray, List.getElem?_cons_zero, List.getElem?_cons_succ] at c0 c1 c2 c3 c4 c5 c6 c7 c8
  refine bodyPost_ret (v := .tuple #[.agg (ctC tk fw mal nc dr dl n nb fl), .int .i64 0]) (by simp [results, Try.results33, ctC, go_sem, c0, c1, c2, c3, c4, c5, c6, c7, c8]) rfl ⟨rfl, ?_⟩
  exact (G1.out.trans G4.out).andThen G5.out fun j hj => by cases hj; exact .inl (Nat.le_refl _)
theorem yCounts (h : RS lab w y r a ca lq S) (ok : S.ok T) (x : Int) : Calls Try.prog 33 #[.pointer (some ⟨y, 0, none⟩), .int .i64 x] w fun e w' => e = .returned (.tuple #[.agg (S.countsE x).1, .int .i64 ((S.countsE x).2 : Nat)]) ∧ w.grownBy w' none := by
  unfold Sw.countsE
  cases hp : S.is x with
  | false => exact yCounts_no h ok x hp
  | true =>
    obtain ⟨k, rfl, hk⟩ := Sw.is_yes hp
    exact yCounts_yes h ok k hk
end
end Go.Proofs.Ytakofhhfdgankaa.Br
