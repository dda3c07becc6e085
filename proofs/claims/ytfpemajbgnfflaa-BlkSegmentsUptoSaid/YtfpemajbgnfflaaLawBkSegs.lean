/-
  BlkSegments, where the input is of bulk at most the bound: for every row of bytes the law returns true, and what was there stays. (Without the bound a row of so many bytes that its segments take more than 2^48 bytes ends the call.)
-/
import Derived.Test.YtfpemajbgnfflaaBkJ
import Derived.JoinedCond
import Derived.Deep.CondSized
import Derived.ChangeSlices
import Derived.Deep.Cut
set_option linter.unusedSimpArgs false
set_option linter.unusedVariables false
namespace Go.Proofs.Ytfpemajbgnfflaa.lawBkSegs
open Go.ChangeShapes Go.WideShapes Go.ChangeAt Go.RowKit Gen Bk
set_option maxHeartbeats 4000000

theorem walk_some (l : List UInt8) (a : Addr) (c : Nat) (w : World) (hlen : l.length ≤ 1048576) (h : BA w (some a) l) :
    Calls Try.prog 3 #[.slice (some a) l.length c] w fun e w' => e = .returned (.bool true) ∧ w.grownBy w' none := by
  obtain ⟨i0, hi, hz0, hz1, hz2⟩ := info_parts info_u8
  have Hi := hid hi; have Hz0 := hid hz0; have Hz1 := hid hz1; have Hz2 := hid hz2
  have H1 := hid fun p' c' w' h' hc' h63 => bSegsW l p' c' w' (by omega) h' hc' h63
  have H2 := hid fun w' h' => rSegsW l (some a) c w' (by omega) h'
  have hs16 : (segsR l).1.length ≤ 16777216 := by
    unfold segsR
    split
    · simp
    · split
      · simp only; rw [segsV_len]; omega
      · simp
  have HE := hid fun p q c' d' w' hp hq => lSegs_eq (segsR l).1 p q c' d' w' hp hq hs16
  have HAW := hid fun w' => blkAwake w'
  have HB := hid h
  unfold SegsRead at H1 H2
  obtain ⟨⟨L, er⟩, hL⟩ : ∃ q, segsR l = q := ⟨_, rfl⟩
  rw [hL] at H1 H2 HE
  simp only at H1 H2 HE
  obtain ⟨m, hm⟩ : ∃ m, L.length = m := ⟨_, rfl⟩
  rw [hm] at H1 H2 HE
  clear hi hz0 hz1 hz2 h hL hm hs16
  go_enter Try.func3, Try.ntmps3
  go_wp2_with (first
    | (at_builtin; refine wpList_append_own _ rfl _ _ 22 rfl w.heap.size 5 i0 (.int .u8 0) 1 1 Try.underlying22 Hi.out Hz0.out Hz1.out Hz2.out rfl (by decide) _ _ _ rfl (own_made0 w) a l.length c (bcells l) rfl (by rw [bcells_len, Nat.mul_one]) (fun j u hu => news_ba (HB.out.grown (World.grownBy_alloc w _ none)) j u hu) (bcells_one l) (by unfold maxLen; omega) (by omega) (alloc_le w _) ?_; intro v' w1 hown' hgrow hnil; clear hnil; have G1 := hid ((World.grownBy_alloc w (.cells #[] 5) none).andThen hgrow (fun j hj => .inl (by cases hj; exact Nat.le_refl _))); rw [Nat.zero_add, bcells_nil, List.nil_append] at hown'; obtain ⟨p', c', rfl, hg', hc', _, h63⟩ := own_ba2 hown'; have HB' := hid hg'; have HC' := hid hc'; have H63 := hid h63; clear hown' hgrow hg' hc' h63)
    | (go_at_call 4; refine (H1.out p' c' _ HB'.out HC'.out H63.out).mono ?_; rintro e w2 ⟨p2, c2, rfl, s2, g2⟩; have S2 := hid s2; have G2 := hid (G1.out.trans g2); clear s2 g2)
    | (go_at_call 5; refine (H2.out _ (HB.out.grown G2.out)).mono ?_; rintro e w3 ⟨p3, c3, rfl, s3, g3⟩; have S3 := hid s3; have S23 := hid (S2.out.grown g3); have G3 := hid (G2.out.trans g3); clear s3 g3)
    | (go_at_call 6; refine (HE.out _ _ _ _ _ S23.out S3.out).mono ?_; rintro e w4 ⟨rfl, q4, rfl⟩)
    | (go_at_call 7; refine (HAW.out _).mono ?_; rintro e w5 ⟨rfl, g5⟩; have G5 := hid ((G3.out.trans (grownBy_drewN w3 q4 none)).trans g5); clear g5))
  go_ret
  exact ⟨rfl, G5.out⟩
theorem walk_none (c : Nat) (w : World) :
    Calls Try.prog 3 #[.slice none 0 c] w fun e w' => e = .returned (.bool true) ∧ w.grownBy w' none := by
  have H1 := hid fun p' c' w' h' hc' h63 => bSegsW [] p' c' w' (by decide) h' hc' h63
  have H2 := hid fun w' h' => rSegsW [] none c w' (by decide) h'
  have HE := hid fun p q c' d' w' hp hq => lSegs_eq [] p q c' d' w' hp hq (by decide)
  have HAW := hid fun w' => blkAwake w'
  unfold SegsRead at H1 H2
  have hL : segsR [] = ([], 0) := rfl
  rw [hL] at H1 H2
  simp only [List.length_nil] at H1 H2 HE
  clear hL
  go_enter Try.func3, Try.ntmps3
  go_wp2_with (first
    | (go_at_call 4; refine (H1.out (some ⟨w.heap.size, 0, none⟩) 0 _ (BA.nil _ _) (Nat.le_refl _) (by decide)).mono ?_; rintro e w2 ⟨p2, c2, rfl, s2, g2⟩; have S2 := hid s2; have G2 := hid ((World.grownBy_alloc w (.cells #[] 5) none).trans g2); clear s2 g2)
    | (go_at_call 5; refine (H2.out _ (BA.nil _ _)).mono ?_; rintro e w3 ⟨p3, c3, rfl, s3, g3⟩; have S3 := hid s3; have S23 := hid (S2.out.grown g3); have G3 := hid (G2.out.trans g3); clear s3 g3)
    | (go_at_call 6; refine (HE.out _ _ _ _ _ S23.out S3.out).mono ?_; rintro e w4 ⟨rfl, q4, rfl⟩)
    | (go_at_call 7; refine (HAW.out _).mono ?_; rintro e w5 ⟨rfl, g5⟩; have G5 := hid ((G3.out.trans (grownBy_drewN w3 q4 none)).trans g5); clear g5))
  go_ret
  exact ⟨rfl, G5.out⟩
theorem one_le {H : Type} (d : DataW H) : 1 ≤ Rows.uptoBulk d := by
  cases d with
  | lit l => cases l <;> simp [Rows.uptoBulk]
  | nil => simp [Rows.uptoBulk]
  | ptr d => simp [Rows.uptoBulk]
  | slice elems spare => simp [Rows.uptoBulk]
  | agg parts => simp [Rows.uptoBulk]
  | iface t d => simp [Rows.uptoBulk]
  | map entries => simp [Rows.uptoBulk]
  | held h => simp [Rows.uptoBulk]
theorem part_le {H : Type} {d : DataW H} {l : List (DataW H)} (h : d ∈ l) : Rows.uptoBulk d ≤ Rows.uptoBulkAll l := by
  induction l with
  | nil => cases h
  | cons x r ih =>
    simp only [Rows.uptoBulkAll]
    cases List.mem_cons.1 h with
    | inl e => subst e; omega
    | inr e => have := ih e; omega
theorem length_le {H : Type} (l : List (DataW H)) : l.length ≤ Rows.uptoBulkAll l := by
  induction l with
  | nil => simp [Rows.uptoBulkAll]
  | cons x r ih => have := one_le x; simp only [Rows.uptoBulkAll, List.length_cons]; omega
/-- so many bytes at most -/
theorem small_len {H : Type} {enc : TypeId × Value → H} {W : World} {p : Option Addr} {n c : Nat} {d0 : DataW H} {ds gs : List (DataW H)} {p0 : List MemPlace} (hk : Rows.uptoSmall H ((d0 :: ds) ++ gs) = true)
    (h : DataW.Trod enc Try.prog W 0 (fun _ => true) true 22 (.slice p n c) d0 p0) : n ≤ 1048576 := by
  have hb : Rows.uptoBulkAll ((d0 :: ds) ++ gs) ≤ 1048576 := of_decide_eq_true hk
  have h1 := Nat.le_trans (part_le (d := d0) (l := (d0 :: ds) ++ gs) (by simp)) hb
  obtain ⟨fuel, h⟩ := h
  rcases open_ints Try.underlying22 Try.underlying5 (by kernel_rfl) h with ⟨hcs, _⟩ | ⟨x, len', c', zs, hcs, _, hl', hm, hz, hy, _, _⟩
  · cases hcs
    omega
  · cases hcs
    have hy1 : d0 = .slice (lits .u8 (zs.take n)) (lits .u8 (zs.drop n)) := congrArg Prod.fst hy
    rw [hy1] at h1
    have h2 := length_le (lits (H := H) .u8 (zs.take n))
    have h3 : (lits (H := H) .u8 (zs.take n)).length = n := by
      have hzl : n ≤ zs.length := by rw [hz]; split <;> omega
      simp [lits]; omega
    simp only [Rows.uptoBulk] at h1
    omega
theorem main {H : Type} {enc : TypeId × Value → H} (ps : Option Addr) (n cp : Nat) (W : World) (c0 : Flat.Came enc Try.prog W 0 (fun _ => true) true 22 (.slice ps n cp)) (hn : n ≤ 1048576) :
    Calls Try.prog 3 #[.slice ps n cp] W fun e w' => e = .returned (.bool true) ∧ W.grownBy w' none := by
  obtain ⟨pa, l, cap, e, hin, _, _, _⟩ := came_bytes c0
  injection e with e1 e2 e3
  subst e1 e2 e3
  cases ps with
  | none => obtain rfl := hin.of_none; exact walk_none cp W
  | some a => exact walk_some l a cp W hn hin
theorem own : ownKnob Try.prog.godebug = none := by kernel_rfl
theorem laidOut : laidOutB Try.prog = true := by kernel_rfl

set_option maxRecDepth 100000 in
theorem lifted (os : Os) (started : os.Started) (H : Type) (enc : TypeId × Value → H) (F : Stop.Interp) :
    ReturnsInHanded {} Try.checked os 3 .any ((Rows.OpenSpec.upto Rows.blkSegmentsSpec).pre6 enc Try.prog Try.f3 Rows.blkSegmentsUptoRow.domain false) (((Rows.OpenSpec.upto Rows.blkSegmentsSpec).at F).post enc Try.prog Try.f3 false true false false) := by
  refine returnsInHanded_of_cond_sized (C := Try.checked) (s := Rows.OpenSpec.upto Rows.blkSegmentsSpec) (k := Rows.uptoSmall) rfl own started (by kernel_rfl) Try.func3
    (OpenSpec.witness (enc := enc) (C := Try.checked) (s := Rows.OpenSpec.upto Rows.blkSegmentsSpec) (k := Rows.uptoSmall) rfl false ⟨#[], #[.slice none 0 0], []⟩ 8 (by kernel_rfl) (by kernel_rfl) (by kernel_rfl)
      (x := ([.nil], [], [])) (by kernel_rfl) rfl (by kernel_rfl)) ?_
  intro W base args ds gs before hval0 hW _ hk hsz0 _
  have hsz : (DataW.weightsEach Try.prog (Try.f3.params.toList ++ Rows.blkSegmentsSpec.plain.varTypes Try.prog) (ds ++ gs)).all (· ≤ reachBytes) = true := hsz0
  clear hsz0
  have hval : ∀ (j : Nat) t v, Try.f3.params[j]? = some t → args[j]? = some v → Value.okWide Try.prog W .any base t v := hval0
  have hW' := hW
  obtain ⟨p, q, hA0, hV, rfl, hfz, hnd⟩ := hW
  have hA : DataW.TrodAll enc Try.prog W 0 (fun _ => true) true Try.f3.params.toList args.toList ds p := hA0
  rw [Try.params3] at hA hval hsz
  obtain ⟨v0, vs0, d0, ds0, p0, q0, hargs, rfl, rfl, h0, r0⟩ := trodAll_cons hA
  obtain ⟨rfl, rfl, rfl⟩ := trodAll_nil r0
  obtain rfl : args = #[v0] := by cases args; simp_all
  obtain ⟨rfl, rfl⟩ := trodVars_none hV
  obtain ⟨ps0, ln0, cp0, rfl⟩ := okWide_slice Try.underlying22 (hval 0 22 v0 rfl rfl)
  have k0 := h0
  have lt0 : ∀ x ∈ p0, x.block < W.heap.size := by obtain ⟨m, hm⟩ := k0; exact DataW.trod_lt m _ _ _ hm
  have c0 : Flat.Came enc Try.prog W 0 (fun _ => true) true 22 (.slice ps0 ln0 cp0) := by
    obtain ⟨fuel, hf⟩ := h0
    exact ⟨fuel, _, hf, fun n hn => by
      have := List.all_eq_true.1 hsz n (DataW.weights_mem_each (j := 0) rfl rfl n hn)
      simpa using this⟩
  have hln : ln0 ≤ 1048576 := small_len hk h0
  clear hA0 hval0
  refine (main ps0 ln0 cp0 W c0 hln).mono fun e W' ⟨he, hg⟩ => ?_
  subst he
  have bel := below_grown' hg
  simp only [List.append_nil, List.nil_append] at hW'
  exact ⟨_, rfl, _, _, _, [], _, [], hW', trodAll_mk1 (shut_bool Try.underlying4 _), (trodAll_cons_mk (Below.trod laidOut (by kernel_rfl) (of_decide_eq_true (by kernel_rfl)) k0 bel lt0) trodAll_mk0), rfl, bel.frame _, fun h => by cases h⟩

theorem proved : Rows.BlkSegmentsUptoSaid :=
  OpenClaim.holds_of_cond 3 Try.f3 rfl rfl rfl rfl rfl rfl rfl ⟨rfl, rfl, rfl, rfl, rfl⟩ rfl rfl rfl rfl rfl (by kernel_rfl) Try.func3 (by kernel_rfl)
    (of_decide_eq_true (by kernel_rfl)) (by unfold Func.isWrapper; first | (rw [if_pos (by decide +kernel)]; kernel_rfl) | (rw [if_neg (by decide +kernel)]; exact ⟨rfl, rfl⟩))
    (fun os started H enc _ F => lifted os started H enc F)
#print axioms proved
end Go.Proofs.Ytfpemajbgnfflaa.lawBkSegs
