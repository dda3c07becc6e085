/-
  Package bridge: Counts.
-/
import Derived.Test.YtakofhhfdgankaaBrE
set_option linter.unusedSimpArgs false
set_option linter.unusedVariables false
namespace Go.Proofs.Ytakofhhfdgankaa.Br
open Go.RowKit Gen Bk
set_option maxHeartbeats 1000000

section
variable {C : Nat → Prop} {lab lab' : Nat → Nat} {w w' : World} {b g m : Nat} {lq : Nat → Lq} {S : Sw} {k : Nat} {s : Sd} {T : Nat}
set_option maxRecDepth 100000 in
theorem bCounts_er (pp : Option Addr) (x : Int) (c : Nat) (hc : (c : Int) ≠ 0) (w : World) (HS : ∀ W, w.grownBy W none → Calls Try.prog 35 #[.pointer pp, .int .i64 x] W (fun e w' => e = .returned (.tuple #[.pointer none, .int .i64 (c : Nat)]) ∧ W = w')) :
    Calls Try.prog 14 #[.pointer pp, .int .i64 x] w fun e w' => e = .returned (.tuple #[.agg (ctC 0 0 0 0 0 0 0 0 0), .int .i64 c]) ∧ w.grownBy w' none := by
  have H := hid HS
  have hn : ((c : Int) != 0) = true := by simpa using hc
  clear HS hc
  go_enter Try.func14, Try.ntmps14
  go_wp2_with (first
    | (refine wpList_alloc_ct (w := w) rfl rfl ?_; intro W1 hs1 hb1 hg1; have B1 := hid hb1; have G1 := hid hg1; clear hs1 hb1 hg1)
    | (go_at_call 35; refine (H.out _ G1.out).mono ?_; rintro e w' ⟨rfl, rfl⟩)
    | (refine wpList_store_ct rfl (.tmp 4) (.tmp 17) rfl _ (ctC 0 0 0 0 0 0 0 0 0) rfl (ctC_one _ _ _ _ _ _ _ _ _) rfl rfl _ B1.out ?_; intro W2 hs2 hb2 hg2; have B2 := hid hb2; have G2 := hid hg2; clear hs2 hb2 hg2))
  have c0 := B2.out.cell 0
  have c1 := B2.out.cell 1
  have c2 := B2.out.cell 2
  have c3 := B2.out.cell 3
  have c4 := B2.out.cell 4
  have c5 := B2.out.cell 5
  have c6 := B2.out.cell 6
  have c7 := B2.out.cell 7
  have c8 := B2.out.cell 8
  simp only [ctC, List.getElem?_toArray, List.getElem?_cons_zero, List.getElem?_cons_succ] at c0 c1 c2 c3 c4 c5 c6 c7 c8
  refine bodyPost_ret (v := .tuple #[.agg (ctC 0 0 0 0 0 0 0 0 0), .int .i64 c]) (by simp [results, Try.results14, ctC, go_sem, c0, c1, c2, c3, c4, c5, c6, c7, c8]) rfl ⟨rfl, ?_⟩
  exact G1.out.andThen G2.out fun j hj => by cases hj; exact .inl (Nat.le_refl _)
set_option maxRecDepth 100000 in
theorem bCounts_yes (h : PS lab w b g m lq S) (ok : S.ok T) (k : Nat) (hk : k < S.n) :
    Calls Try.prog 14 #[.pointer (some ⟨b, 0, none⟩), .int .i64 (k : Int)] w fun e w' => e = .returned (.tuple #[.agg (S.P k).cts, .int .i64 0]) ∧ w.grownBy w' none := by
  have H := hid h
  have HS := hid (fun (W : World) (hg : w.grownBy W none) => bside_yes (h.grown ok.n8 hg) k hk ok.n8)
  have HC := hid (fun (W : World) (hg : w.grownBy W none) => (show W.cell? ⟨g, k * 13 + 4, none⟩ = some (.int .i64 (S.P k).taken) ∧ W.cell? ⟨g, k * 13 + 5, none⟩ = some (.int .i64 (S.P k).fw) ∧ W.cell? ⟨g, k * 13 + 6, none⟩ = some (.int .i64 (S.P k).mal) ∧ W.cell? ⟨g, k * 13 + 7, none⟩ = some (.int .i64 (S.P k).noCr) ∧ W.cell? ⟨g, k * 13 + 8, none⟩ = some (.int .i64 (S.P k).dir) ∧ W.cell? ⟨g, k * 13 + 9, none⟩ = some (.int .i64 (S.P k).del) ∧ W.cell? ⟨g, k * 13 + 10, none⟩ = some (.int .i64 0) ∧ W.cell? ⟨g, k * 13 + 11, none⟩ = some (.int .i64 (S.P k).noBuf) ∧ W.cell? ⟨g, k * 13 + 12, none⟩ = some (.int .i64 (S.P k).full) ∧ W.cell? ⟨g, k * 13 + 3, none⟩ = some (.slice (lq k).p (S.P k).q.length (lq k).c) from
    have q := (h.grown ok.n8 hg).self k
    ⟨q.at_taken hk, q.at_fw hk, q.at_mal hk, q.at_noCr hk, q.at_dir hk, q.at_del hk, q.at_10 hk, q.at_noBuf hk, q.at_full hk, q.at_q hk⟩))
  have HLt := hid h.sides.lt
  unfold Sd.cts
  obtain ⟨⟨bu, ra, cr, q, tk, fw, mal, nc, dr, dl, nb, fl⟩, hs⟩ : ∃ s, S.P k = s := ⟨_, rfl⟩
  rw [hs] at HC ⊢
  simp only at HC ⊢
  obtain ⟨n, hn⟩ : ∃ n, q.length = n := ⟨_, rfl⟩
  rw [hn] at HC ⊢
  clear h ok hs hn hk
  go_enter Try.func14, Try.ntmps14
  go_wp2_with (first
    | (refine wpList_alloc_ct (w := w) rfl rfl ?_; intro W1 hs1 hb1 hg1; have B1 := hid hb1; have G1 := hid hg1; have S1 := hid hs1; obtain ⟨c4, c5, c6, c7, c8, c9, c10, c11, c12, c3⟩ := HC.out _ hg1; clear hs1 hb1 hg1)
    | (go_at_call 35; refine (HS.out _ G1.out).mono ?_; rintro e w' ⟨rfl, rfl⟩)
    | (refine wpList_alloc_ct (w := W1) rfl rfl ?_; intro W2 hs2 hb2 hg2; have B2 := hid hb2; have G2 := hid hg2; clear c4 c5 c6 c7 c8 c9 c10 c11 c12 c3 hs2 hb2 hg2)
    | (refine wpList_store_ct (w := W2) rfl (.tmp 8) (.tmp 22) rfl _ (ctC tk fw mal nc dr dl 0 nb fl) rfl (ctC_one _ _ _ _ _ _ _ _ _) rfl rfl _ B2.out ?_; intro W3 hs3 hb3 hg3; have G3 := hid (G2.out.andThen hg3 fun j hj => by cases hj; exact .inl (Nat.le_refl _)); have B3 := hid hb3; obtain ⟨-, -, -, -, -, -, -, -, -, c3⟩ := HC.out _ (G1.out.trans G3.out); have c6 := hb3.cell 6; have fz6 := hb3.fz 6; obtain ⟨W4, hW4⟩ : ∃ W, W3.setCell ⟨W1.heap.size, 6, none⟩ (.int .i64 n) = W := ⟨_, rfl⟩; have B4 := hid (hW4 ▸ hb3.set 6 (.int .i64 n)); have G4 := hid (G3.out.andThen (hW4 ▸ grownBy_setCell W3 W1.heap.size 6 none (.int .i64 n)) fun j hj => by cases hj; exact .inl (Nat.le_refl _)); clear hs3 hb3 hg3; simp only [ctC, List.getElem?_toArray, List.getElem?_cons_zero, List.getElem?_cons_succ] at c6)
    | (go_at_call 36; refine (bsize _ _ _ _ _ c3).mono ?_; rintro e w' ⟨rfl, rfl⟩)
    | (refine wpList_load_ct (w := W4) rfl (.tmp 8) rfl _ (ctC tk fw mal nc dr dl n nb fl) rfl B4.out ?_)
    | (refine wpList_store_ct (w := W4) rfl (.tmp 4) (.tmp 28) rfl _ (ctC tk fw mal nc dr dl n nb fl) rfl (ctC_one _ _ _ _ _ _ _ _ _) rfl rfl _ (B1.out.grown G4.out (by simp)) ?_; intro W5 hs5 hb5 hg5; have B5 := hid hb5; have G5 := hid hg5; clear hs5 hb5 hg5))
  have c0 := B5.out.cell 0
  have c1 := B5.out.cell 1
  have c2 := B5.out.cell 2
  have c3 := B5.out.cell 3
  have c4 := B5.out.cell 4
  have c5 := B5.out.cell 5
  have c6 := B5.out.cell 6
  have c7 := B5.out.cell 7
  have c8 := B5.out.cell 8
  simp only [ctC, List.getElem?_toArray, List.getElem?_cons_zero, List.getElem?_cons_succ] at c0 c1 c2 c3 c4 c5 c6 c7 c8
  refine bodyPost_ret (v := .tuple #[.agg (ctC tk fw mal nc dr dl n nb fl), .int .i64 0]) (by simp [results, Try.results14, ctC, go_sem, c0, c1, c2, c3, c4, c5, c6, c7, c8]) rfl ⟨rfl, ?_⟩
  exact (G1.out.trans G4.out).andThen G5.out fun j hj => by cases hj; exact .inl (Nat.le_refl _)
theorem bCounts (h : PS lab w b g m lq S) (ok : S.ok T) (x : Int) : Calls Try.prog 14 #[.pointer (some ⟨b, 0, none⟩), .int .i64 x] w fun e w' => e = .returned (.tuple #[.agg (S.countsE x).1, .int .i64 ((S.countsE x).2 : Nat)]) ∧ w.grownBy w' none := by
  unfold Sw.countsE
  cases hp : S.is x with
  | false => exact bCounts_er _ x 1 (by omega) w fun W hg => bside_no (h.grown ok.n8 hg) ok.n1 x hp
  | true =>
    obtain ⟨k, rfl, hk⟩ := Sw.is_yes hp
    exact bCounts_yes h ok k hk
theorem NoS.grown {p : Option Addr} (h : NoS w p) (hg : w.grownBy w' none) : NoS w' p := by
  rcases h with rfl | ⟨b, a, c, rfl, h⟩
  · exact .inl rfl
  · exact .inr ⟨b, a, c, rfl, hg.cell h (by simp)⟩
theorem bCounts_none (p : Option Addr) (x : Int) (w : World) (h : NoS w p) : Calls Try.prog 14 #[.pointer p, .int .i64 x] w fun e w' => e = .returned (.tuple #[.agg (ctC 0 0 0 0 0 0 0 0 0), .int .i64 7]) ∧ w.grownBy w' none :=
  bCounts_er p x 7 (by omega) w fun W hg => bside_none p x W (h.grown hg)
end
end Go.Proofs.Ytakofhhfdgankaa.Br
