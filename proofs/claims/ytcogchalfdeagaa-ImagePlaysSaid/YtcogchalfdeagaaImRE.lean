/-
  The reference's image: New.
-/
import Derived.Test.YtcogchalfdeagaaImRD
set_option linter.unusedSimpArgs false
set_option linter.unusedVariables false
namespace Go.Proofs.Ytcogchalfdeagaa
open Go.RowKit Gen CM
set_option maxHeartbeats 2000000
set_option maxRecDepth 100000

theorem rNew_no (p : Option Addr) (l : List UInt8) (c : Nat) (k : Int) (w : World) (hl : l.length ≤ 140737488351232) (h : newC l.length k ≠ 0) :
    Calls Try.prog 9 #[.slice p l.length c, .int .i64 k] w fun e w' => e = .returned (.tuple #[.pointer none, .int .i64 (newC l.length k)]) ∧ w = w' := by
  have hn0 : (0 : Int) ≤ l.length := by omega
  unfold newC at h ⊢
  by_cases h1 : 16384 < l.length
  · rw [if_pos h1]
    have h1' : (16384 : Int) < l.length := by omega
    clear h
    go_enter Try.func9, Try.ntmps9
    go_wp2
    go_ret2
    exact ⟨rfl, rfl⟩
  · rw [if_neg h1] at h ⊢
    have h1' : ¬ (16384 : Int) < l.length := by omega
    rw [if_neg (by intro h2; rw [if_pos h2] at h; exact h rfl)]
    have h2 : ¬ (l.length % 64 = 0 ∧ 0 ≤ k ∧ k ≤ 256) := by intro h2; rw [if_pos h2] at h; exact h rfl
    clear h
    by_cases h3 : l.length % 64 = 0
    · have e1 : (l.length : Int) % 64 = 0 := by omega
      by_cases h4 : k < 0
      · clear h2
        go_enter Try.func9, Try.ntmps9
        go_wp2
        go_ret2
        exact ⟨rfl, rfl⟩
      · have h5 : 256 < k := by omega
        clear h2
        go_enter Try.func9, Try.ntmps9
        go_wp2
        go_ret2
        exact ⟨rfl, rfl⟩
    · have e1 : ¬ (l.length : Int) % 64 = 0 := by omega
      clear h2
      go_enter Try.func9, Try.ntmps9
      go_wp2
      go_ret2
      exact ⟨rfl, rfl⟩
def nils (k : Nat) : List Value := List.replicate k (.slice none 0 0)
theorem nils_len (k : Nat) : (nils k).length = k := by simp [nils]
theorem nils_next (k : Nat) : nils (k + 1) = nils k ++ [.slice none 0 0] := by simp [nils, List.replicate_succ']
theorem nils_get {k j : Nat} (h : j < k) : (nils k).getD j undef = .slice none 0 0 := by simp [nils, List.getD, h]
attribute [irreducible] nils
def ytop (v lv : Value) (K : Nat) : Nat → Value
  | 0 => v
  | 1 => lv
  | _ => .int .i64 K
theorem own_far {w : World} {base n : Nat} {v : Value} {xs : List Value} (h : w.ownsRow base 22 1 v n xs) : ∀ k cur, w.heap[k]? = some (.cells cur 5 (0, 0)) → some k ≠ v.ownBlock := by
  intro k cur hk e
  rcases h.2 with ⟨rfl, _⟩ | ⟨g, cap, cur', rfl, _, hg, _⟩
  · simp [Value.ownBlock] at e
  · obtain rfl : k = g := by simpa [Value.ownBlock] using e
    rw [hk] at hg
    simp at hg
theorem BU.kept {w w' : World} {p : Option Addr} {l : List UInt8} {row : Option Nat} (h : BU w p l) (hg : w.grownBy w' row) (hf : ∀ k cur, w.heap[k]? = some (.cells cur 5 (0, 0)) → some k ≠ row) : BU w' p l :=
  h.chg (S := fun k => row = some k) (Chg.of hg fun j e => .inl e) fun k cur hk e => hf k cur hk e.symm
theorem rNew_yes (p : Option Addr) (l : List UInt8) (c : Nat) (k : Int) (w : World) (h : newC l.length k = 0) (hb : BA w p l) (hl : l.length ≤ 140737488351232) (hnn : p = none → c = 0) :
    Calls Try.prog 9 #[.slice p l.length c, .int .i64 k] w fun e w' => ∃ y r q lp cq cl, e = .returned (.tuple #[.pointer (some ⟨y, 0, none⟩), .int .i64 0]) ∧ RI w' y r q lp cq cl (newI l k) ∧ w.heap.size ≤ y ∧ w.heap.size ≤ r ∧ (∀ a, q = some a → w.heap.size ≤ a.block) ∧ (l.length / 64 = 0 → r = y) ∧ w.grownBy w' none := by
  obtain ⟨n, hn, h256, hk0, hk1⟩ : ∃ n, l.length = n * 64 ∧ n ≤ 256 ∧ 0 ≤ k ∧ k ≤ 256 := by
    unfold newC at h
    split at h
    · cases h
    · split at h
      · rename_i h1 h2
        exact ⟨l.length / 64, by omega, by omega, h2.2.1, h2.2.2⟩
      · cases h
  have hI : newI l k = ⟨n, l, fun _ => none, k.toNat, 0⟩ := by unfold newI; rw [hn, Nat.mul_div_cancel _ (by decide)]
  rw [hI]
  clear hI h
  obtain ⟨K, rfl⟩ : ∃ K : Nat, k = K := ⟨k.toNat, by omega⟩
  obtain ⟨i0, hi, hz0, hz1, hz2⟩ := info_parts info_bs
  have Hi := hid hi; have Hz0 := hid hz0; have Hz1 := hid hz1; have Hz2 := hid hz2
  have HN := hid hn
  have HB := hid hb
  have HL := hid hl
  have HNN := hid hnn
  have e0 : (0 : Int) ≤ l.length := by omega
  have e1 : (l.length : Int) ≤ 16384 := by omega
  have e2 : (l.length : Int) % 64 = 0 := by omega
  have e3 : (l.length : Int) / 64 = n := by omega
  clear hn hb hl hnn hi hz0 hz1 hz2
  go_enter Try.func9, Try.ntmps9
  go_wp2_with (at_builtin; refine wpList_append_empty rfl (.tmp 23) (.tmp 24) rfl rfl p l c rfl HB.out HL.out HNN.out ?_; intro v w1 hv; obtain ⟨q, cq, rfl, hbu, hlo, hcq, hqn⟩ := hv.bu; have HBU := hid hbu; have HLo := hid hlo; have HCq := hid hcq; have HQn := hid hqn; have HG1 := hid hv.2; clear hv hbu hlo hcq hqn)
  obtain ⟨W, hW, hg, ht⟩ : ∃ W, w1.alloc (.cells #[.slice q l.length cq, .slice none 0 0, .int .i64 K] 40) = W ∧ w1.grownBy W none ∧ Row W w1.heap.size 40 3 (ytop (.slice q l.length cq) (.slice none 0 0) K) :=
    ⟨_, rfl, World.grownBy_alloc _ _ _, Row.new _ _ _ _ _ (by simp) (fun k hk => by match k, hk with | 0, _ => rfl | 1, _ => rfl | 2, _ => rfl)⟩
  rw [hW]
  have HT := hid ht
  have HBW := hid (HBU.out.grown hg)
  have HGW := hid (HG1.out.trans hg)
  have HOW := hid (World.ownsRow_nil W W.heap.size 22 1)
  have HY := hid HG1.out.size
  have E3 := hid e3
  obtain ⟨Y, hY⟩ : ∃ Y, w1.heap.size = Y := ⟨_, rfl⟩
  have HSz := hid (show w.heap.size ≤ W.heap.size from HGW.out.size)
  obtain ⟨Bs, hBs⟩ : ∃ B, W.heap.size = B := ⟨_, rfl⟩
  have HLe := hid (show Bs ≤ W.heap.size from hBs ▸ Nat.le_refl _)
  rw [hY] at HT HY
  rw [hY]
  rw [hBs] at HOW HSz
  clear hW hg ht hY hBs HBU HG1 e2
  go_loopw [7] (fun i wr => ∃ (k : Nat) (lv : Value), i = .int .i64 k ∧ k ≤ n ∧ Row wr Y 40 3 (ytop (.slice q l.length cq) lv K) ∧ wr.ownsRow Bs 22 1 lv k (nils k) ∧ BU wr q l ∧ w.grownBy wr none ∧ Bs ≤ wr.heap.size) (fun i _ => n - (intOf i).toNat)
  case atStart => exact ⟨0, .slice none 0 0, rfl, by omega, HT.out, by simpa [nils] using HOW.out, HBW.out, HGW.out, HLe.out⟩
  case round =>
    clear HT HOW HBW HGW HLe
    obtain ⟨k, lv, rfl, hk, ht, ho, hbu, hg, hle⟩ := hrel
    obtain ⟨pv, cv, hv⟩ := ownsRow_slice ho
    subst hv
    have HT := hid ht
    have HO := hid ho
    have HBU := hid hbu
    have HG := hid hg
    have c1 := ht.cell (k := 1) (by omega)
    simp only [ytop] at c1
    clear ht ho hbu hg
    have hk0 : (0 : Int) ≤ k := by omega
    by_cases hlt : k < n
    · have hlt' : (k : Int) < n := by omega
      have c1' := fun ob => (World.grownBy_alloc wr ob none).cell c1 (by simp)
      have e3 := E3.out
      go_wp2_with (at_builtin; refine wpList_append_own _ rfl _ _ 38 rfl Bs 22 i0 (.slice none 0 0) 1 24 Try.underlying38 Hi.out Hz0.out Hz1.out Hz2.out rfl (by decide) _ k (nils k) rfl (HO.out.alloc _) ⟨wr.heap.size, 0, none⟩ 1 1 [.slice none 0 0] rfl rfl (World.news_of_block (heap_alloc_new wr _)) (by simp [Value.oneCell']) (by unfold maxLen; omega) (by omega) (by simp; omega) ?_; intro v' w2 hown' hgrow hnil; clear hnil; obtain ⟨pv2, cv2, hv2⟩ := ownsRow_slice hown'; subst hv2; have hTa := HT.out.alloc (.cells #[.slice none 0 0] 22); have HT2 := hid (hTa.grown hgrow (own_ne_row (HO.out.alloc _) hTa (by decide))); have HB2 := hid ((HBU.out.grown (World.grownBy_alloc wr (.cells #[.slice none 0 0] 22) none)).kept hgrow (own_far (HO.out.alloc _))); have HO2 := hid hown'; have HG2 := hid ((HG.out.trans (World.grownBy_alloc wr (.cells #[.slice none 0 0] 22) none)).andThen hgrow (fun j hj => .inl (Nat.le_trans HSz.out (HO.out.lt j hj).1))); have HL2 := hid (Nat.le_trans (Nat.le_trans hle (World.grownBy_alloc wr (.cells #[.slice none 0 0] 22) none).size) hgrow.size); have q1 := HT2.out.cell (k := 1) (by omega); have qf := HT2.out.frozen 1; simp only [ytop] at q1; clear hown' hgrow hTa)
      clear e3
      go_roundw
      case rel =>
        have hgs := grownBy_setCell w2 Y 1 none (.slice pv2 (k + 1) cv2)
        have hyo : some Y ≠ (Value.slice pv2 (k + 1) cv2).ownBlock := own_ne_row HO2.out HT2.out (by decide)
        exact ⟨k + 1, .slice pv2 (k + 1) cv2, by go_num, hlt, HT2.out.set rfl (fun j hj hj2 => by match j, hj with | 0, _ => rfl | 1, _ => exact absurd rfl hj2 | 2, _ => rfl), by rw [nils_next]; exact HO2.out.kept hgs (.inr fun e => hyo e.symm), HB2.out.kept hgs (fun j cur hj e => by
          obtain rfl := Option.some.inj e
          obtain ⟨cy, hcy, _⟩ := HT2.out
          rw [hcy] at hj
          simp at hj), HG2.out.andThen hgs (fun j hj => by cases hj; exact .inl HY.out), Nat.le_trans HL2.out hgs.size⟩
      case measure => simp [intOf]; omega
    · obtain rfl : k = n := by omega
      have hge : (k : Int) ≤ k := by omega
      have e3 := E3.out
      go_wp2
      go_ret2
      have hln := HN.out
      by_cases h0 : k = 0
      · subst h0
        refine ⟨Y, Y, q, pv, cq, cv, rfl, ⟨HT.out.congr fun j _ => by match j with | 0 => rfl | 1 => rfl | j + 2 => simp [rtop, ytop], HBU.out, HCq.out, HQn.out, fun h => absurd rfl h, fun h => absurd rfl h⟩, HY.out, HY.out, HLo.out, fun _ => rfl, HG.out⟩
      · obtain ⟨k', rfl⟩ : ∃ k', k = k' + 1 := ⟨k - 1, by omega⟩
        obtain ⟨g, cg, eg, hbg, hr⟩ := ownsRow_row HO.out
        simp only [Value.slice.injEq, true_and] at eg
        obtain ⟨rfl, rfl⟩ := eg
        rw [Nat.mul_one] at hr
        refine ⟨Y, g, q, _, cq, cv, rfl, ⟨HT.out.congr fun j _ => by match j with | 0 => rfl | 1 => rfl | j + 2 => simp [rtop, ytop], HBU.out, HCq.out, HQn.out, fun _ => rfl, fun _ => ⟨_, hr, fun i hi => .inl ⟨rfl, nils_get hi⟩⟩⟩, HY.out, Nat.le_trans HSz.out hbg, HLo.out, fun h => by omega, HG.out⟩
end Go.Proofs.Ytcogchalfdeagaa
