/-
  Package image: New.
-/
import Derived.Test.YtpjlhiagifoogaaGreatImV
set_option linter.unusedSimpArgs false
set_option linter.unusedVariables false
namespace Go.Proofs.YtpjlhiagifoogaaGreat.Imx
open Go.RowKit Gen CM
set_option maxHeartbeats 1000000

theorem info_blk : (Tryz.prog.info? 191).map (fun i => (i.zero, i.size, i.bytes)) = some (some (.agg (blkC zs64)), 64, 64) := by
  unfold blkC zs64 bcells
  kernel_rfl
/-- the first j bytes are laid, the others are 0 -/
def baseX (l : List UInt8) (j : Nat) (k : Nat) : Value := if k < j then .int .u8 (l.getD k 0).toNat else .int .u8 0
theorem zs64_at (k : Nat) : (zs64.getD k 0).toNat = 0 := by
  unfold zs64
  simp only [List.getD, List.getElem?_replicate]
  split <;> rfl
theorem make_blks (W : World) (n : Nat) (hn : n ≤ 256) (l : List UInt8) : ∃ cs : Array Value, (Instr.makeSlice 186 (.int .i64 n) (.int .i64 n)).run Tryz.prog W = .ok (.slice (some ⟨W.heap.size, 0, none⟩) n n) (W.alloc (.cells cs 191)) ∧ Row (W.alloc (.cells cs 191)) W.heap.size 191 (n * 64) (baseX l 0) := by
  obtain ⟨i0, hi, hz0, hz1, hz2⟩ := info_parts info_blk
  have hr := run_make W 186 191 i0 (.agg (blkC zs64)) Tryz.underlying186 hi hz0 .i64 .i64 n n (by omega) (by omega) (by rw [hz2]; omega) (by omega)
  rw [hz1] at hr
  simp only [Int.toNat_natCast] at hr
  refine ⟨_, hr, _, heap_alloc_new W _, by rw [size_madeCells]; omega, fun k hk => ?_⟩
  have hs := blkC_size zs64
  rw [zs64_len] at hs
  have hm : k % 64 < 64 := Nat.mod_lt _ (by decide)
  have hc := blkC_at (l := zs64) (k := k % 64) (by rw [zs64_len]; exact hm)
  rw [zs64_at] at hc
  simp only [madeCells, Value.cells, hs, baseX, Nat.not_lt_zero, if_false]
  rw [Array.getElem?_map, Array.getElem?_range, if_pos hk]
  simp only [Option.map_some, Option.some.injEq]
  rw [getElem!_pos _ _ (by rw [hs]; exact hm)]
  rw [Array.getElem?_eq_getElem (by rw [hs]; exact hm)] at hc
  exact Option.some.inj hc
theorem run_sliceFrom (w : World) (q o len cap k : Nat) (hk : k < len) (hc : len ≤ cap) : (Instr.slice 30 (.slice (some ⟨q, o, none⟩) len cap) (some (.int .i64 k)) none none).run Tryz.prog w = .ok (.slice (some ⟨q, o + k, none⟩) (len - k) (cap - k)) w := by
  have i5 := u8_size
  cases h5 : Tryz.prog.info? 5 with
  | none => rw [h5] at i5; cases i5
  | some x =>
  rw [h5] at i5
  simp only [Option.map_some, Option.some.injEq] at i5
  have h1 : (k : Int) ≤ len := by omega
  have h2 : ¬ cap = k := by omega
  have e : (⟨q, o, none⟩ : Addr).add k = ⟨q, o + k, none⟩ := by unfold Addr.add; split <;> simp_all
  simp [Instr.slice, run_underlying Tryz.underlying30, Instr.sliceBounds, Instr.sliceBound, asIntOf, sizeOf, typeInfo, h5, i5, h1, h2, e]
  intro hh; omega
theorem wpList_copy_part {ops : Array Oper} {rest : List Oper} {o : Oper} {a : Act} {w : World} {Q : Exit → Act → World → Prop} (hgd : o.guard = none) (d s : Operand)
    (ho : o.op = .call { callee := .builtin .copy, args := #[d, s], argTypes := #[30, 30] })
    (g n k : Nat) (l : List UInt8) (hd : a.eval d = .slice (some ⟨g, k * 64, none⟩) 64 64) (q oo sl cap : Nat) (hs : a.eval s = .slice (some ⟨q, oo + k * 64, none⟩) sl cap) (hsl : 64 ≤ sl) (hk : k < n) (hln : l.length = n * 64)
    (hr : Row w g 191 (n * 64) (baseX l (k * 64))) (hb : BA w (some ⟨q, oo, none⟩) l)
    (h : ∀ w', Row w' g 191 (n * 64) (baseX l ((k + 1) * 64)) → w.grownBy w' (some g) → wpList Tryz.prog ops Q rest (a.put o.dst (goInt 64)) w') : wpList Tryz.prog ops Q (o :: rest) a w := by
  obtain ⟨cur, hg, hN, hX⟩ := hr
  have h64 : ((l.drop (k * 64)).take 64).length = 64 := by rw [List.length_take, List.length_drop]; omega
  have hbl := bcells_len ((l.drop (k * 64)).take 64)
  rw [h64] at hbl
  have hpart : ∀ j, j < 64 → (bcells ((l.drop (k * 64)).take 64))[j]? = some (.int .u8 (l.getD (k * 64 + j) 0).toNat) := fun j hj => by
    rw [bcells_at (by rw [h64]; exact hj)]
    simp [List.getD, List.getElem?_take, hj]
  refine wpList_copy_own hgd d s 30 30 ho 5 Tryz.underlying30 u8_size g (k * 64) 64 64 ⟨q, oo + k * 64, none⟩ sl cap hd hs cur 191 hg (bcells ((l.drop (k * 64)).take 64)) (by rw [hbl]; exact (Nat.min_eq_right hsl).symm) ?_ (by rw [hbl]; omega) (bcells_one _) ?_
  · intro j v hv
    have hj := (List.getElem?_eq_some_iff.1 hv).1
    rw [hbl] at hj
    rw [hpart j hj] at hv
    obtain ⟨b1, o1, e, hc⟩ := hb (k * 64 + j) (by omega)
    cases e
    have e : (⟨q, oo + k * 64, none⟩ : Addr).add j = ⟨q, oo + (k * 64 + j), none⟩ := by unfold Addr.add; split <;> simp_all [Nat.add_assoc]
    rw [e, hc]
    exact hv
  · rw [hbl]
    refine h _ ⟨_, setRow_heap _ _ _ _ _ _ hg, ?_, fun i hi => ?_⟩ (grownBy_setRow _ _ _)
    · simp [hbl]; omega
    · have hci : i < cur.size := by omega
      have hX' := hX i hi
      unfold baseX at hX' ⊢
      have hl1 : (cur.toList.take (k * 64)).length = k * 64 := by simp; omega
      simp only [List.getElem?_toArray, List.append_assoc, hbl]
      by_cases h1 : i < k * 64
      · rw [List.getElem?_append_left (by omega), List.getElem?_take, if_pos h1, Array.getElem?_toList, hX', if_pos h1, if_pos (by omega)]
      · by_cases h2 : i < (k + 1) * 64
        · rw [List.getElem?_append_right (by omega), List.getElem?_append_left (by rw [hbl, hl1]; omega), hl1, hpart _ (by omega), if_pos h2, show k * 64 + (i - k * 64) = i by omega]
        · rw [List.getElem?_append_right (by omega), List.getElem?_append_right (by rw [hbl, hl1]; omega), hl1, hbl, List.getElem?_drop, if_neg h2, Array.getElem?_toList, show k * 64 + 64 + (i - k * 64 - 64) = i by omega, hX', if_neg h1]
theorem iNew_no (p : Option Addr) (l : List UInt8) (c : Nat) (k : Int) (w : World) (hl : l.length ≤ 140737488351232) (h : newC l.length k ≠ 0) :
    Calls Tryz.prog 14 #[.slice p l.length c, .int .i64 k] w fun e w' => e = .returned (.tuple #[.pointer none, .int .i64 (newC l.length k)]) ∧ w = w' := by
  have hn0 : (0 : Int) ≤ l.length := by omega
  unfold newC at h ⊢
  by_cases h1 : 16384 < l.length
  · rw [if_pos h1]
    have h1' : (16384 : Int) < l.length := by omega
    clear h
    go_enter Tryz.func14, Tryz.ntmps14
    go_wp2
    go_ret2
    exact ⟨rfl, rfl⟩
  · rw [if_neg h1] at h ⊢
    have h1' : ¬ (16384 : Int) < l.length := by omega
    rw [if_neg (by intro h2; rw [if_pos h2] at h; exact h rfl)]
    have h2 : ¬ (l.length % 64 = 0 ∧ 0 ≤ k ∧ k ≤ 256) := by intro h2; rw [if_pos h2] at h; exact h rfl
    clear h
    by_cases h3 : l.length % 64 = 0
    · have e1 : (l.length : Int) % 64 = 0 := by omega
      by_cases h4 : k < 0
      · clear h2
        go_enter Tryz.func14, Tryz.ntmps14
        go_wp2
        go_ret2
        exact ⟨rfl, rfl⟩
      · have h5 : 256 < k := by omega
        clear h2
        go_enter Tryz.func14, Tryz.ntmps14
        go_wp2
        go_ret2
        exact ⟨rfl, rfl⟩
    · have e1 : ¬ (l.length : Int) % 64 = 0 := by omega
      clear h2
      go_enter Tryz.func14, Tryz.ntmps14
      go_wp2
      go_ret2
      exact ⟨rfl, rfl⟩
set_option maxRecDepth 100000 in
theorem iNew_yes (p : Option Addr) (l : List UInt8) (c : Nat) (k : Int) (w : World) (h : newC l.length k = 0) (hb : BA w p l) (hc : l.length ≤ c) :
    Calls Tryz.prog 14 #[.slice p l.length c, .int .i64 k] w fun e w' => ∃ b g m, e = .returned (.tuple #[.pointer (some ⟨b, 0, none⟩), .int .i64 0]) ∧ PI w' b g m (newI l k) ∧ w.heap.size ≤ b ∧ w.heap.size ≤ g ∧ w.heap.size ≤ m ∧ w.grownBy w' none := by
  obtain ⟨n, hn, h256, hk0, hk1⟩ : ∃ n, l.length = n * 64 ∧ n ≤ 256 ∧ 0 ≤ k ∧ k ≤ 256 := by
    unfold newC at h
    split at h
    · cases h
    · split at h
      · rename_i h1 h2
        exact ⟨l.length / 64, by omega, by omega, h2.2.1, h2.2.2⟩
      · cases h
  have hI : newI l k = ⟨n, l, fun _ => none, k.toNat, 0⟩ := by unfold newI; rw [hn, Nat.mul_div_cancel _ (by decide)]
  rw [hI]
  clear hI h
  obtain ⟨cs, hmk, hr⟩ := make_blks w n h256 l
  obtain ⟨K, rfl⟩ : ∃ K : Nat, k = K := ⟨k.toNat, by omega⟩
  have HR := hid hr
  have HN := hid hn
  have HB := hid hb
  have HC := hid hc
  have hmm := @run_makeMap Tryz.prog
  have e0 : (0 : Int) ≤ ((n * 64 : Nat) : Int) := by omega
  have e1 : ((n * 64 : Nat) : Int) ≤ 16384 := by omega
  have e2 : ((n * 64 : Nat) : Int) % 64 = 0 := by omega
  have e3 : ((n * 64 : Nat) : Int) / 64 = n := by omega
  rw [hn]
  clear hr hn hb hc
  go_enter Tryz.func14, Tryz.ntmps14
  go_wp2
  obtain ⟨W, hW, hg, ht, hr, hm⟩ : ∃ W, ((w.alloc (.cells cs 191)).alloc (.map #[] 0)).alloc (.cells #[.slice (some ⟨w.heap.size, 0, none⟩) n n, .map (some (w.heap.size + 1)), .int .i64 K] 189) = W ∧ w.grownBy W none ∧
      Row W (w.heap.size + 1 + 1) 189 3 (itop w.heap.size n (w.heap.size + 1) K) ∧ Row W w.heap.size 191 (n * 64) (baseX l 0) ∧ IMb W (w.heap.size + 1) 0 (fun _ => none) := by
    have hs : ((w.alloc (.cells cs 191)).alloc (.map #[] 0)).heap.size = w.heap.size + 1 + 1 := by simp
    have hs1 : (w.alloc (.cells cs 191)).heap.size = w.heap.size + 1 := by simp
    refine ⟨_, rfl, ((World.grownBy_alloc w _ none).trans (World.grownBy_alloc _ _ none)).trans (World.grownBy_alloc _ _ none), ?_, (HR.out.alloc _).alloc _, ?_⟩
    · rw [← hs]
      exact Row.new _ _ _ _ _ (by simp) (fun k hk => by match k, hk with | 0, _ => rfl | 1, _ => rfl | 2, _ => rfl)
    · rw [← hs1]
      exact (CMap.made _ _ _ _).alloc _
  rw [hW]
  have HG := hid hg
  have HT := hid ht
  have HRr := hid hr
  have HM := hid hm
  clear hW hmk HR hg ht hr hm hmm e2 e3
  obtain ⟨G, hG⟩ : ∃ G, w.heap.size = G := ⟨_, rfl⟩
  have HGe := hid hG
  rw [hG] at HT HRr HM
  rw [hG]
  clear hG
  go_loopw [36] (fun i wr => ∃ k : Nat, i = .int .i64 k ∧ k ≤ n ∧ Row wr G 191 (n * 64) (baseX l (k * 64)) ∧ Row wr (G + 1 + 1) 189 3 (itop G n (G + 1) K) ∧ IMb wr (G + 1) 0 (fun _ => none) ∧ w.grownBy wr none) (fun i _ => n - (intOf i).toNat)
  case atStart => exact ⟨0, rfl, by omega, by rw [Nat.zero_mul]; exact HRr.out, HT.out, HM.out, HG.out⟩
  case round =>
    clear HRr HT HM HG
    obtain ⟨k, rfl, hk, hr, ht, hm, hg⟩ := hrel
    have HR := hid hr
    have HT := hid ht
    have HM := hid hm
    have HG := hid hg
    have c0 := ht.cell (k := 0) (by omega)
    simp only [itop] at c0
    clear hr ht hm hg
    have hk0 : (0 : Int) ≤ k := by omega
    by_cases hlt : k < n
    · have hlt' : (k : Int) < n := by omega
      obtain ⟨q, oo, rfl, -⟩ := HB.out 0 (by have := HN.out; omega)
      have hsb := run_sliceBlk
      have hsf := fun w => run_sliceFrom w q oo (n * 64) c (k * 64) (by omega) (by have := HN.out; have := HC.out; omega)
      simp only [Int.natCast_mul, Int.cast_ofNat_Int] at hsf
      have hwr : IntKind.i64.wrap ((k : Int) * 64) = (k : Int) * 64 := IntWalk.i64_in _ (by omega)
      have hx : G < wr.heap.size := HR.out.lt
      go_wp2_with fail
      go_still_tail 11, (by kernel_rfl)
      change wpList _ _ _ _ _ wr.drew
      clear hsf hsb hwr
      go_wp2_with (refine wpList_copy_part rfl (.tmp 45) (.tmp 49) rfl G n k l rfl q oo (n * 64 - k * 64) (c - k * 64) rfl (by omega) hlt HN.out (HR.out.grown (grownBy_drew wr none) (by simp)) (HB.out.grown (HG.out.trans (grownBy_drew wr none))) ?_; intro w5 h5 g5; have H5 := hid h5; have G5 := hid g5; clear h5 g5)
      go_roundw
      case rel =>
        exact ⟨k + 1, by go_num, by omega, H5.out, (HT.out.grown (grownBy_drew wr none) (by simp)).grown G5.out (by simp; omega), (HM.out.grown (grownBy_drew wr none) (by simp)).grown G5.out (by simp), (HG.out.trans (grownBy_drew wr none)).andThen G5.out fun j hj => by cases hj; exact .inl (by rw [HGe.out]; exact Nat.le_refl _)⟩
      case measure => simp [intOf]; omega
    · obtain rfl : k = n := by omega
      have hge : (k : Int) ≤ k := by omega
      go_wp2
      go_ret2
      have hs := HGe.out
      refine ⟨G + 1 + 1, G, G + 1, rfl, ⟨HT.out, ?_, ?_⟩, by omega, by omega, by omega, HG.out⟩
      · exact HR.out.congr fun j hj => by unfold baseX; rw [if_pos hj]
      · exact HM.out.congr fun j => rfl
end Go.Proofs.YtpjlhiagifoogaaGreat.Imx
