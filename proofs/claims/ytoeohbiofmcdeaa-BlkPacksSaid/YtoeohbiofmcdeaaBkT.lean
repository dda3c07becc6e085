/-
  Package blk: segments as bytes, both sides.
-/
import Derived.Test.YtoeohbiofmcdeaaBkS
import Derived.BigRegion
import Derived.Deep.RegionHeld3
set_option linter.unusedSimpArgs false
set_option linter.unusedVariables false
namespace Go.Proofs.Ytoeohbiofmcdeaa.Bk
open Go.RowKit Gen
set_option maxHeartbeats 4000000

theorem seg_two (s : Seg) (h : s.ok = true) : IntKind.u8.wrap s.ref = s.ref ∧ bits .or .i64 s.first (s.last * 4) = s.first + 4 * s.last ∧ IntKind.u8.wrap (s.first + 4 * s.last) = s.first + 4 * s.last ∧ bcells (segB s) = [.int .u8 s.ref, .int .u8 (s.first + 4 * s.last)] ∧ 0 ≤ s.last ∧ s.last < 4 ∧ 0 ≤ s.first ∧ s.first < 4 := by
  obtain ⟨r, f, g⟩ := s
  simp only [Seg.ok, fitsV, Bool.and_eq_true, decide_eq_true_eq] at h
  obtain ⟨⟨⟨r0, r1⟩, f0, f1⟩, g0, g1⟩ := h
  have x1 := byteV_nat r
  have x2 := byteV_nat (f + 4 * g)
  obtain ⟨x, rfl⟩ : ∃ x : Nat, f = x := ⟨f.toNat, by omega⟩
  obtain ⟨y, rfl⟩ : ∃ y : Nat, g = y := ⟨g.toNat, by omega⟩
  refine ⟨?_, ?_, ?_, ?_, g0, g1, f0, f1⟩
  · show IntKind.u8.wrap r = r
    rw [IntKind.wrap_u8]; omega
  · show bits .or .i64 (x : Int) ((y : Int) * 4) = x + 4 * y
    have := or_i64 2 4 y x rfl (by omega) (by omega) (by omega)
    exact this.trans (by omega)
  · show IntKind.u8.wrap (x + 4 * y) = x + 4 * y
    rw [IntKind.wrap_u8]; omega
  · show bcells [byteV r, byteV (x + 4 * y)] = [.int .u8 r, .int .u8 (x + 4 * y)]
    rw [bcells_cons, bcells_cons, bcells_nil, x1, x2, show r % 256 = r by omega, show ((x : Int) + 4 * y) % 256 = x + 4 * y by omega]
theorem w64i (x : Int) (h0 : 0 ≤ x) (h1 : x < 9223372036854775808) : IntKind.i64.wrap x = x := by rw [IntKind.wrap_i64]; omega
theorem segsB_snoc (a : List Seg) (s : Seg) : segsB (a ++ [s]) = segsB a ++ segB s := by rw [segsB_app]; simp [segsB]
theorem ok_at {l : List Seg} (h : l.all Seg.ok = true) {k : Nat} {s : Seg} (hs : l[k]? = some s) : s.ok = true := List.all_eq_true.1 h s (List.mem_of_getElem? hs)
set_option maxRecDepth 100000 in
theorem bPackSegs (l : List Seg) (p : Option Addr) (c : Nat) (w : World) (h : SA w p l) (hl : l.length ≤ 16) (hk : l.all Seg.ok = true) :
    Calls Try.prog 27 #[.slice p l.length c] w fun e w' => ∃ v, e = .returned v ∧ w'.ownsRow w.heap.size 5 1 v (segsB l).length (bcells (segsB l)) ∧ w.grownBy w' none := by
  obtain ⟨i0, hi, hz0, hz1, hz2⟩ := info_parts info_u8
  have Hi := hid hi; have Hz0 := hid hz0; have Hz1 := hid hz1; have Hz2 := hid hz2
  clear hi hz0 hz1 hz2
  have HP := hid h
  have HK := hid hk
  obtain ⟨n, hn⟩ : ∃ n, l.length = n := ⟨_, rfl⟩
  have HN := hid hn
  rw [hn] at hl ⊢
  clear h hn hk
  go_enter Try.func27, Try.ntmps27
  go_wp2
  go_loopw [3, 8] (fun v i wr => ∃ k : Nat, i = .int .i64 k ∧ k ≤ n ∧ wr.ownsRow w.heap.size 5 1 v (segsB (l.take k)).length (bcells (segsB (l.take k))) ∧ w.grownBy wr none) (fun _ i _ => n - (intOf i).toNat)
  case atStart => exact ⟨0, rfl, by omega, by have := own_nil w w.heap.size; simpa [segsB] using this, grownBy_refl _ _⟩
  case round =>
    obtain ⟨k, rfl, hkn, ho, hg⟩ := hrel
    by_cases hlt : k < n
    · have hlt' : (k : Int) < n := by omega
      have hk0 : (0 : Int) ≤ k := by omega
      have hk16 : k < 16 := by omega
      obtain ⟨s, hs⟩ : ∃ s, l[k]? = some s := ⟨_, List.getElem?_eq_getElem (by rw [HN.out]; exact hlt)⟩
      have hok := ok_at HK.out hs
      obtain ⟨b1, o1, rfl, a0, a1, a2⟩ := (HP.out.grown hg) k s hs
      have hT := take_next hs
      have hTl : (segsB (l.take k)).length = 2 * k := by rw [segsB_len, List.length_take, HN.out]; omega
      have hTn : segsB (l.take (k + 1)) = segsB (l.take k) ++ segB s := by rw [hT, segsB_snoc]
      obtain ⟨e1, e2, e3, e4, l0, l4, m0, m4⟩ := seg_two s hok
      obtain ⟨r, f, g⟩ := s
      simp only at a0 a1 a2 e1 e2 e3 e4 l0 l4 m0 m4
      have HE4 := hid e4; have HTN := hid hTn; have HTL := hid hTl
      have HG := hid hg
      obtain ⟨pv, cv, hv⟩ := ownsRow_slice ho
      subst hv
      rw [hTl] at ho ⊢
      have HO := hid ho
      clear hs hok hT hTl hTn e4 ho hg
      obtain ⟨W2, hW2⟩ : ∃ W2, wr.alloc (.cells #[.int .i64 r, .int .i64 f, .int .i64 g] 57) = W2 := ⟨_, rfl⟩
      have HO2 := hid (show W2.ownsRow w.heap.size 5 1 (.slice pv (2 * k) cv) (2 * k) (bcells (segsB (l.take k))) from hW2 ▸ HO.out.alloc _)
      have HG2 := hid (show w.grownBy W2 none from hW2 ▸ HG.out.trans (World.grownBy_alloc _ _ none))
      have u0 : W2.cell? ⟨wr.heap.size, 0, none⟩ = some (.int .i64 r) := by rw [← hW2]; simp [go_sem]
      have u1 : W2.cell? ⟨wr.heap.size, 1, none⟩ = some (.int .i64 f) := by rw [← hW2]; simp [go_sem]
      have u2 : W2.cell? ⟨wr.heap.size, 2, none⟩ = some (.int .i64 g) := by rw [← hW2]; simp [go_sem]
      have e5 : wrap64 (g * 4) = g * 4 := by unfold wrap64; omega
      obtain ⟨x0, hx0⟩ : ∃ x, r = x := ⟨_, rfl⟩
      obtain ⟨y0, hy0⟩ : ∃ y, f + 4 * g = y := ⟨_, rfl⟩
      have HX := hid hx0; have HY := hid hy0
      rw [hy0] at e2 e3
      subst hx0
      clear hy0
      go_wp2_with (at_builtin; refine wpList_append_own _ rfl _ _ 25 rfl w.heap.size 5 i0 (.int .u8 0) 1 1 Try.underlying25 Hi.out Hz0.out Hz1.out Hz2.out rfl (by decide) _ _ _ rfl (HO2.out.alloc _) ⟨W2.heap.size, 0, none⟩ 2 2 [.int .u8 r, .int .u8 y0] rfl rfl (World.news_of_block (heap_alloc_new W2 _)) (by simp [Value.oneCell']) (by unfold maxLen; omega) (by omega) (by have := HG2.out.size; simp; omega) ?_; intro v' w2 hown' hgrow hnil; clear hnil; have HO3 := hid hown'; have HG3 := hid ((HG2.out.trans (World.grownBy_alloc W2 _ none)).andThen hgrow (fun j hj => .inl (HO2.out.lt j hj).1)); clear hown' hgrow)
      go_roundw
      case rel => exact ⟨k + 1, by go_num, by omega, by rw [HTN.out, bcells_app, HE4.out, HY.out, List.length_append, HTL.out]; exact HO3.out, HG3.out⟩
      case measure => simp [intOf]; omega
    · obtain rfl : k = n := by omega
      have hge : ¬ ((k : Int) < k) := by omega
      have hTe : l.take k = l := take_all (by rw [HN.out]; exact Nat.le_refl _)
      rw [hTe] at ho
      have HO := hid ho; have HG := hid hg
      clear ho hg hTe
      go_wp2
      go_ret
      exact ⟨_, rfl, HO.out, HG.out⟩
set_option maxRecDepth 100000 in
theorem rPackSegs (l : List Seg) (p : Option Addr) (c : Nat) (w : World) (h : SA w p l) (hl : l.length ≤ 16) (hk : l.all Seg.ok = true) :
    Calls Try.prog 36 #[.slice p l.length c] w fun e w' => ∃ v, e = .returned v ∧ w'.ownsRow w.heap.size 5 1 v (segsB l).length (bcells (segsB l)) ∧ w.grownBy w' none := by
  obtain ⟨i0, hi, hz0, hz1, hz2⟩ := info_parts info_u8
  have Hi := hid hi; have Hz0 := hid hz0; have Hz1 := hid hz1; have Hz2 := hid hz2
  clear hi hz0 hz1 hz2
  have HP := hid h
  have HK := hid hk
  obtain ⟨n, hn⟩ : ∃ n, l.length = n := ⟨_, rfl⟩
  have HN := hid hn
  rw [hn] at hl ⊢
  clear h hn hk
  go_enter Try.func36, Try.ntmps36
  go_wp2
  go_loopw [3, 4] (fun v i wr => ∃ k : Nat, i = .int .i64 k ∧ k ≤ n ∧ wr.ownsRow w.heap.size 5 1 v (segsB (l.take k)).length (bcells (segsB (l.take k))) ∧ w.grownBy wr none) (fun _ i _ => n - (intOf i).toNat)
  case atStart => exact ⟨0, rfl, by omega, by have := own_nil w w.heap.size; simpa [segsB] using this, grownBy_refl _ _⟩
  case round =>
    obtain ⟨k, rfl, hkn, ho, hg⟩ := hrel
    by_cases hlt : k < n
    · have hlt' : (k : Int) < n := by omega
      have hk0 : (0 : Int) ≤ k := by omega
      have hk16 : k < 16 := by omega
      obtain ⟨s, hs⟩ : ∃ s, l[k]? = some s := ⟨_, List.getElem?_eq_getElem (by rw [HN.out]; exact hlt)⟩
      have hok := ok_at HK.out hs
      obtain ⟨b1, o1, rfl, a0, a1, a2⟩ := (HP.out.grown hg) k s hs
      have hT := take_next hs
      have hTl : (segsB (l.take k)).length = 2 * k := by rw [segsB_len, List.length_take, HN.out]; omega
      have hTn : segsB (l.take (k + 1)) = segsB (l.take k) ++ segB s := by rw [hT, segsB_snoc]
      obtain ⟨e1, _, e3, e4, l0, l4, m0, m4⟩ := seg_two s hok
      have HLT := hid (show b1 < w.heap.size from by obtain ⟨_, _, ee, q0, _⟩ := HP.out k s hs; cases ee; exact World.block_lt_of_cell? w _ q0)
      obtain ⟨r, f, g⟩ := s
      simp only at a0 a1 a2 e1 e3 e4 l0 l4 m0 m4
      have HE4 := hid e4; have HTN := hid hTn; have HTL := hid hTl
      have HG := hid hg
      obtain ⟨pv, cv, hv⟩ := ownsRow_slice ho
      subst hv
      rw [hTl] at ho ⊢
      have HO := hid ho
      clear hs hok hT hTl hTn e4 ho hg
      have e2 : IntKind.i64.wrap (4 * g) = 4 * g := w64i _ (by omega) (by omega)
      have e5 : IntKind.i64.wrap (f + 4 * g) = f + 4 * g := w64i _ (by omega) (by omega)
      have HO2 := hid (show ((wr.alloc (.cells #[.int .u8 r, (.int .u8 (f + 4 * g))] 5)).drew).ownsRow w.heap.size 5 1 (.slice pv (2 * k) cv) (2 * k) (bcells (segsB (l.take k))) from own_grown (own_grown HO.out (World.grownBy_alloc wr _ none)) (grownBy_drew _ none))
      have HG2 := hid (show w.grownBy ((wr.alloc (.cells #[.int .u8 r, (.int .u8 (f + 4 * g))] 5)).drew) none from (HG.out.trans (World.grownBy_alloc wr _ none)).trans (grownBy_drew _ none))
      have NA := hid (show ∀ j u, [Value.int .u8 r, (.int .u8 (f + 4 * g))][j]? = some u → ((wr.alloc (.cells #[.int .u8 r, (.int .u8 (f + 4 * g))] 5)).drew).cell? ((⟨wr.heap.size, 0, none⟩ : Addr).add j) = some u from fun j u hu => (grownBy_drew _ none).cell (World.news_of_block (heap_alloc_new wr (.cells #[.int .u8 r, (.int .u8 (f + 4 * g))] 5)) j u hu) (by simp))
      have HXl := hid (show [Value.int .u8 r, (.int .u8 (f + 4 * g))].length = 2 * 1 from rfl)
      have q0 := fun ob => (grownBy_drew (wr.alloc ob) none).cell ((World.grownBy_alloc wr ob none).cell a0 (by simp)) (by simp)
      have q1 := fun ob => (grownBy_drew (wr.alloc ob) none).cell ((World.grownBy_alloc wr ob none).cell a1 (by simp)) (by simp)
      have q2 := fun ob => (grownBy_drew (wr.alloc ob) none).cell ((World.grownBy_alloc wr ob none).cell a2 (by simp)) (by simp)
      go_wp2
      go_region_held3 (fun w' => w'.cell? ⟨b1, o1 + k * 3, none⟩ = some (.int .i64 r) ∧ w'.cell? ⟨b1, o1 + k * 3 + 1, none⟩ = some (.int .i64 f) ∧ w'.cell? ⟨b1, o1 + k * 3 + 2, none⟩ = some (.int .i64 g)) (first | exact ⟨by assumption, by assumption, by assumption⟩ | exact ⟨q0 _, q1 _, q2 _⟩ | go_keep)
        (first
         | (refine step_append_lies ((wr.alloc (.cells #[.int .u8 r, (.int .u8 (f + 4 * g))] 5)).drew) (by rfl) _ _ 25 (by rfl) w.heap.size 5 i0 (.int .u8 0) 1 1 Try.underlying25 Hi.out Hz0.out Hz1.out Hz2.out rfl (by decide) (.slice pv (2 * k) cv) (2 * k) (bcells (segsB (l.take k))) (by rfl) HO2.out ⟨wr.heap.size, 0, none⟩ 2 2 [.int .u8 r, (.int .u8 (f + 4 * g))] (by rfl) HXl.out NA.out (by simp [Value.oneCell']) (by omega) (by unfold maxLen; omega) (by omega) HG2.out.size (wr.heap.size + 1) (by simp) ?_; intro g9 c9 Y9 ho9 hg9 hat9 hlt9; have n0 := own_keep HO2.out HLT.out hg9 (q0 _); have n1 := own_keep HO2.out HLT.out hg9 (q1 _); have n2 := own_keep HO2.out HLT.out hg9 (q2 _); have HO3 := hid ho9; have HG3 := hid (own_then HG2.out HO2.out (Nat.le_refl _) hg9); clear ho9 hg9 hat9 hlt9))
      clear q0 q1 q2 n0 n1 n2
      go_wp2
      go_roundw
      case rel => exact ⟨k + 1, by go_num, by omega, by rw [HTN.out, bcells_app, HE4.out, List.length_append, HTL.out]; exact HO3.out, HG3.out⟩
      case measure => simp [intOf]; omega
    · obtain rfl : k = n := by omega
      have hge : ¬ ((k : Int) < k) := by omega
      have hTe : l.take k = l := take_all (by rw [HN.out]; exact Nat.le_refl _)
      rw [hTe] at ho
      have HO := hid ho; have HG := hid hg
      clear ho hg hTe
      go_wp2
      go_ret
      exact ⟨_, rfl, HO.out, HG.out⟩
end Go.Proofs.Ytoeohbiofmcdeaa.Bk
