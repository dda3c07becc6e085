/-
  Package pte: runs.
-/
import Derived.Test.YtdjhkacjgdnglaaPteQ
import Derived.Test.YtdjhkacjgdnglaaPteG
import Derived.Test.YtdjhkacjgdnglaaRefI
namespace Go.Proofs.Ytdjhkacjgdnglaa
open Go.RowKit
set_option maxHeartbeats 2000000

theorem info_run : (Try.prog.info? 131).map (fun i => (i.zero, i.size, i.bytes)) = some (some (.agg #[.int .i64 0, .int .i64 0, .int .i64 0]), 3, 24) := by kernel_rfl
/-- runs that lie in new memory -/
def RunsAt (lo : Nat) (w : World) (v : Value) (rs : List Run) : Prop := ∃ p c, v = .slice p rs.length c ∧ ∀ j (h : j < rs.length), ∃ g, p = some ⟨g, 0, none⟩ ∧ lo ≤ g ∧ g < w.heap.size ∧
  w.cell? ⟨g, j * 3, none⟩ = some (.int .i64 rs[j].m) ∧ w.cell? ⟨g, j * 3 + 1, none⟩ = some (.int .i64 rs[j].o) ∧ w.cell? ⟨g, j * 3 + 2, none⟩ = some (.int .i64 rs[j].n)
def rcells3 (rs : List Run) : List Value := rs.flatMap fun r => [.int .i64 r.m, .int .i64 r.o, .int .i64 r.n]
theorem runsAt_one {lo : Nat} {w : World} {v : Value} {r : Run} (h : w.ownsRow lo 131 3 v 1 [.int .i64 r.m, .int .i64 r.o, .int .i64 r.n]) : RunsAt lo w v [r] := by
  obtain ⟨g, cap, e⟩ := ownsRow_succ (k := 0) h
  subst e
  have hb := h.lt g rfl
  refine ⟨_, _, rfl, fun j hj => ?_⟩
  have hj' : j < 1 := hj
  obtain rfl : j = 0 := by omega
  exact ⟨g, rfl, hb.1, hb.2, by rw [h.cellAt 0 (by omega)]; rfl, by rw [h.cellAt 1 (by omega)]; rfl, by rw [h.cellAt 2 (by omega)]; rfl⟩
theorem runsAt_two {lo : Nat} {w : World} {v : Value} {r s : Run} (h : w.ownsRow lo 131 3 v 2 [.int .i64 r.m, .int .i64 r.o, .int .i64 r.n, .int .i64 s.m, .int .i64 s.o, .int .i64 s.n]) : RunsAt lo w v [r, s] := by
  obtain ⟨g, cap, e⟩ := ownsRow_succ (k := 1) h
  subst e
  have hb := h.lt g rfl
  refine ⟨_, _, rfl, fun j hj => ?_⟩
  have hj' : j < 2 := hj
  rcases (show j = 0 ∨ j = 1 by omega) with rfl | rfl
  · exact ⟨g, rfl, hb.1, hb.2, by rw [h.cellAt 0 (by omega)]; rfl, by rw [h.cellAt 1 (by omega)]; rfl, by rw [h.cellAt 2 (by omega)]; rfl⟩
  · exact ⟨g, rfl, hb.1, hb.2, by rw [h.cellAt 3 (by omega)]; rfl, by rw [h.cellAt 4 (by omega)]; rfl, by rw [h.cellAt 5 (by omega)]; rfl⟩
def RunsLeft (w : World) (r : List Run × Int) (e : Ending) (w' : World) : Prop := ∃ v, e = .returned (.tuple #[v, .int .i64 r.2]) ∧ RunsAt w.heap.size w' v r.1 ∧ w.grownBy w' none
theorem runsAt_nil (lo : Nat) (w : World) : RunsAt lo w (.slice none 0 0) [] := ⟨none, 0, rfl, fun j h => by simp at h⟩
set_option maxRecDepth 100000 in
theorem runs_none (b : Nat) (r : Int) (va : Nat) (x : Bool) (w : World) (M : Mach) (hM : PM w b M) (hn1 : 1 ≤ M.n) : Calls Try.prog 72 #[.pointer (some ⟨b, 0, none⟩), .int .i64 r, .int .u32 va, .int .i64 0, .bool x] w (RunsLeft w ([], 0)) := by
  have HM := hid hM; have HN := hid hn1
  clear hM hn1
  go_enter Try.func72, Try.ntmps72
  go_wp2_with fail
  go_step3
  go_wp2_with (go_at_call 67; refine (ptMade _ _ _ HM.out HN.out).mono ?_; rintro e w2 ⟨rfl, rfl⟩)
  rw [Exit.noGoto_ret]
  go_ret2
  exact ⟨_, rfl, runsAt_nil _ _, World.grownBy.refl _ _⟩
set_option maxRecDepth 100000 in
theorem runs_bad (b : Nat) (r : Int) (va : Nat) (n : Int) (x : Bool) (w : World) (M : Mach) (hM : PM w b M) (hn1 : 1 ≤ M.n) (hv : va < 4294967296) (h0 : n ≠ 0) (hbad : badR va n) : Calls Try.prog 72 #[.pointer (some ⟨b, 0, none⟩), .int .i64 r, .int .u32 va, .int .i64 n, .bool x] w (RunsLeft w ([], 1)) := by
  have HM := hid hM; have HN := hid hn1
  have h0' : (n == 0) = false := by simpa using h0
  have hb : n < 0 ∨ (0 ≤ n ∧ 256 < n) ∨ (0 ≤ n ∧ n ≤ 256 ∧ 1048576 < (va : Int) + n) := by unfold badR at hbad; omega
  clear hM hn1 h0 hbad
  rcases hb with hb | ⟨hb, hb1⟩ | ⟨hb, hb1, hb2⟩
  all_goals
    go_enter Try.func72, Try.ntmps72
    go_wp2_with fail
    go_step3
    go_wp2_with (go_at_call 67; refine (ptMade _ _ _ HM.out HN.out).mono ?_; rintro e w2 ⟨rfl, rfl⟩)
    rw [Exit.noGoto_ret]
    go_ret2
    exact ⟨_, rfl, runsAt_nil _ _, World.grownBy.refl _ _⟩
set_option maxRecDepth 100000 in
theorem runs_e1 (b : Nat) (r : Int) (va : Nat) (n : Nat) (x : Bool) (w : World) (M : Mach) (T : Int) (hM : PM w b M) (hok : M.ok T) (hv : va + n ≤ 1048576) (h0 : 0 < n) (h2 : n ≤ 256) (c : Int) (hc : (M.pageV r (va / 256) x).2 = c) (hcz : c ≠ 0) : Calls Try.prog 72 #[.pointer (some ⟨b, 0, none⟩), .int .i64 r, .int .u32 va, .int .i64 n, .bool x] w (RunsLeft w ([], c)) := by
  have HM := hid hM; have HN := hid hok.n1
  have HW := hid (ptWalk b r va x w M T hM hok (by omega))
  rw [M.walkV_page r va x (by omega), hc, if_pos hcz] at HW
  have h0' : ((n : Int) == 0) = false := by simp; omega
  have h1 : ¬ (n : Int) < 0 := by omega
  have h3 : (va : Int) + n ≤ 1048576 := by omega
  have hcz' : (c != 0) = true := by simpa using hcz
  clear hM hok hv hc hcz
  go_enter Try.func72, Try.ntmps72
  go_wp2_with fail
  go_step3
  go_wp2_with (go_at_call 67; refine (ptMade _ _ _ HM.out HN.out).mono ?_; rintro e w2 ⟨rfl, rfl⟩)
  go_step3
  go_wp2_with fail
  refine wp_loop_rounds 1 ?_
  rw [rounds_succ]
  go_wp2_with (go_at_call 26; refine HW.out.mono ?_; rintro e w2 ⟨rfl, hg⟩; have HG := hid hg; clear hg; simp only [walk3])
  rw [Exit.noGoto_ret]
  go_ret2
  exact ⟨_, rfl, runsAt_nil _ _, HG.out⟩
theorem cells3_new (w : World) (t : TypeId) (a b c : Value) : ∀ j u, ([a, b, c] : List Value)[j]? = some u → (w.alloc (.cells #[a, b, c] t)).cell? ((⟨w.heap.size, 0, none⟩ : Addr).add j) = some u := fun j u hu => by
  obtain ⟨hj, rfl⟩ := List.getElem?_eq_some_iff.1 hu
  have e : (⟨w.heap.size, 0, none⟩ : Addr).add j = ⟨w.heap.size, j, none⟩ := by unfold Addr.add; split <;> simp_all
  rw [e, cell_of_row _ w.heap.size _ _ _ _ (heap_alloc_new w _)]
  have hj' : j < 3 := hj
  rcases (show j = 0 ∨ j = 1 ∨ j = 2 by omega) with rfl | rfl | rfl <;> rfl
theorem one3 {a b c : Int} {k : IntKind} : ∀ u ∈ ([.int k a, .int k b, .int k c] : List Value), u.oneCell' = true := by simp [Value.oneCell']
set_option maxRecDepth 100000 in
theorem runs_one (b : Nat) (r : Int) (va : Nat) (n : Nat) (x : Bool) (w : World) (M : Mach) (T : Int) (hM : PM w b M) (hok : M.ok T) (hv : va + n ≤ 1048576) (h0 : 0 < n) (m : Nat) (hp : M.pageV r (va / 256) x = ((m : Int), 0)) (hr : n ≤ 256 - va % 256) : Calls Try.prog 72 #[.pointer (some ⟨b, 0, none⟩), .int .i64 r, .int .u32 va, .int .i64 n, .bool x] w (RunsLeft w ([⟨m, va % 256, n⟩], 0)) := by
  have HM := hid hM; have HN := hid hok.n1
  have HW := hid (ptWalk b r va x w M T hM hok (by omega))
  rw [M.walkV_page r va x (by omega), hp, if_neg (by simp)] at HW
  have h0' : ((n : Int) == 0) = false := by simp; omega
  have h1 : ¬ (n : Int) < 0 := by omega
  have h2 : (n : Int) ≤ 256 := by omega
  have h3 : (va : Int) + n ≤ 1048576 := by omega
  have ho : va % 256 < 256 := by omega
  obtain ⟨off, hoff⟩ : ∃ o, va % 256 = o := ⟨_, rfl⟩
  rw [hoff] at HW ho hr ⊢
  have hr' : (n : Int) ≤ 256 - off := by omega
  obtain ⟨i0, hi, hz0, hz1, hz2⟩ := info_parts info_run
  have Hi := hid hi; have Hz0 := hid hz0; have Hz1 := hid hz1; have Hz2 := hid hz2
  clear hM hok hv hp hoff hi hz0 hz1 hz2 hr
  go_enter Try.func72, Try.ntmps72
  go_wp2_with fail
  go_step3
  go_wp2_with (go_at_call 67; refine (ptMade _ _ _ HM.out HN.out).mono ?_; rintro e w2 ⟨rfl, rfl⟩)
  go_step3
  go_wp2_with fail
  refine wp_loop_rounds 1 ?_
  rw [rounds_succ]
  go_wp2_with (first
    | (go_at_call 26; refine HW.out.mono ?_; rintro e w2 ⟨rfl, hg⟩; have HG := hid hg; clear hg; simp only [walk3])
    | (at_builtin; refine wpList_append_own _ rfl _ _ 127 rfl w.heap.size 131 i0 (.agg #[.int .i64 0, .int .i64 0, .int .i64 0]) 3 24 Try.underlying127 Hi.out Hz0.out Hz1.out Hz2.out rfl (by decide) _ 0 [] rfl (World.ownsRow_nil _ _ _ _) ⟨w2.heap.size, 0, none⟩ 1 1 [.int .i64 m, .int .i64 off, .int .i64 n] rfl rfl (cells3_new _ _ _ _ _) one3 (by unfold maxLen; omega) (by omega) (by have := HG.out.size; simp; omega) ?_; intro v' w3 hown hgrow _; have HO := hid hown; have HG3 := hid (HG.out.trans ((World.grownBy_alloc _ _ _).trans hgrow)); clear hown hgrow))
  rw [Exit.noGoto_ret]
  go_ret2
  exact ⟨_, rfl, runsAt_one HO.out, HG3.out⟩
theorem ownsRow_grown {W W' : World} {base : Nat} {e : TypeId} {size n : Nat} {v : Value} {xs : List Value} (h : W.ownsRow base e size v n xs) (hg : W.grownBy W' none) : W'.ownsRow base e size v n xs :=
  h.kept hg (none_row' v)
set_option maxRecDepth 100000 in
theorem runs_e2 (b : Nat) (r : Int) (va : Nat) (n : Nat) (x : Bool) (w : World) (M : Mach) (T : Int) (hM : PM w b M) (hok : M.ok T) (hv : va + n ≤ 1048576) (h2n : n ≤ 256) (m : Nat) (hp : M.pageV r (va / 256) x = ((m : Int), 0)) (hr : 256 - va % 256 < n) (c : Int) (hc : (M.pageV r (va / 256 + 1) x).2 = c) (hcz : c ≠ 0) : Calls Try.prog 72 #[.pointer (some ⟨b, 0, none⟩), .int .i64 r, .int .u32 va, .int .i64 n, .bool x] w (RunsLeft w ([], c)) := by
  have HM := hid hM; have HN := hid hok.n1
  have HW := hid (ptWalk b r va x w M T hM hok (by omega))
  rw [M.walkV_page r va x (by omega), hp, if_neg (by simp)] at HW
  have HW2 := hid (fun w hM => ptWalk b r (va + (256 - va % 256)) x w M T hM hok (by omega))
  rw [M.walkV_page r _ x (by omega), show (va + (256 - va % 256)) / 256 = va / 256 + 1 by omega, show (va + (256 - va % 256)) % 256 = 0 by omega, hc, if_pos hcz] at HW2
  have h0' : ((n : Int) == 0) = false := by simp; omega
  have h1 : ¬ (n : Int) < 0 := by omega
  have h2 : (n : Int) ≤ 256 := by omega
  have h3 : (va : Int) + n ≤ 1048576 := by omega
  have ho : va % 256 < 256 := by omega
  obtain ⟨off, hoff⟩ : ∃ o, va % 256 = o := ⟨_, rfl⟩
  rw [hoff] at HW HW2 ho hr
  try rw [hoff]
  rw [show ((va + (256 - off) : Nat) : Int) = (va : Int) + (256 - off) by omega] at HW2
  have hr' : ¬ (n : Int) ≤ 256 - off := by omega
  obtain ⟨i0, hi, hz0, hz1, hz2⟩ := info_parts info_run
  have Hi := hid hi; have Hz0 := hid hz0; have Hz1 := hid hz1; have Hz2 := hid hz2
  clear hok hv hp hoff hi hz0 hz1 hz2 hr h2n
  have hcz' : (c != 0) = true := by simpa using hcz
  clear hc hcz
  go_enter Try.func72, Try.ntmps72
  go_wp2_with fail
  go_step3
  go_wp2_with (go_at_call 67; refine (ptMade _ _ _ HM.out HN.out).mono ?_; rintro e w2 ⟨rfl, rfl⟩)
  go_step3
  go_wp2_with fail
  refine wp_loop_rounds 2 ?_
  rw [rounds_succ]
  go_wp2_with (first
    | (go_at_call 26; refine HW.out.mono ?_; rintro e w2 ⟨rfl, hg⟩; have HG := hid hg; have HM2 := hid (hM.grown hg (by simp)); clear hg hM; simp only [walk3])
    | (at_builtin; refine wpList_append_own _ rfl _ _ 127 rfl w.heap.size 131 i0 (.agg #[.int .i64 0, .int .i64 0, .int .i64 0]) 3 24 Try.underlying127 Hi.out Hz0.out Hz1.out Hz2.out rfl (by decide) _ 0 [] rfl (World.ownsRow_nil _ _ _ _) ⟨w2.heap.size, 0, none⟩ 1 1 [.int .i64 m, .int .i64 off, .int .i64 (256 - (off : Int))] rfl rfl (cells3_new _ _ _ _ _) one3 (by unfold maxLen; omega) (by omega) (by have := HG.out.size; simp; omega) ?_; intro v' w3 hown hgrow _; have HO := hid hown; have HG3 := hid (HG.out.trans ((World.grownBy_alloc _ _ _).trans hgrow)); have HM3 := hid ((HM2.out.alloc _).grown hgrow (fun h => by cases (show some b = (none : Option Nat) from h))); clear hown hgrow))
  rw [rounds_succ]
  go_wp2_with (go_at_call 26; refine (HW2.out _ HM3.out).mono ?_; rintro e w4 ⟨rfl, hg⟩; have HG4 := hid (HG3.out.trans hg); clear hg; simp only [walk3])
  rw [Exit.noGoto_ret]
  go_ret2
  exact ⟨_, rfl, runsAt_nil _ _, HG4.out⟩
set_option maxRecDepth 100000 in
theorem runs_two (b : Nat) (r : Int) (va : Nat) (n : Nat) (x : Bool) (w : World) (M : Mach) (T : Int) (hM : PM w b M) (hok : M.ok T) (hv : va + n ≤ 1048576) (h2n : n ≤ 256) (m : Nat) (hp : M.pageV r (va / 256) x = ((m : Int), 0)) (hr : 256 - va % 256 < n) (m2 : Nat) (hc : M.pageV r (va / 256 + 1) x = ((m2 : Int), 0)) : Calls Try.prog 72 #[.pointer (some ⟨b, 0, none⟩), .int .i64 r, .int .u32 va, .int .i64 n, .bool x] w (RunsLeft w ([⟨m, va % 256, 256 - va % 256⟩, ⟨m2, 0, n - (256 - va % 256)⟩], 0)) := by
  have HM := hid hM; have HN := hid hok.n1
  have HW := hid (ptWalk b r va x w M T hM hok (by omega))
  rw [M.walkV_page r va x (by omega), hp, if_neg (by simp)] at HW
  have HW2 := hid (fun w hM => ptWalk b r (va + (256 - va % 256)) x w M T hM hok (by omega))
  rw [M.walkV_page r _ x (by omega), show (va + (256 - va % 256)) / 256 = va / 256 + 1 by omega, show (va + (256 - va % 256)) % 256 = 0 by omega, hc, if_neg (by simp)] at HW2
  have h0' : ((n : Int) == 0) = false := by simp; omega
  have h1 : ¬ (n : Int) < 0 := by omega
  have h2 : (n : Int) ≤ 256 := by omega
  have h3 : (va : Int) + n ≤ 1048576 := by omega
  have ho : va % 256 < 256 := by omega
  obtain ⟨off, hoff⟩ : ∃ o, va % 256 = o := ⟨_, rfl⟩
  rw [hoff] at HW HW2 ho hr
  try rw [hoff]
  rw [show ((va + (256 - off) : Nat) : Int) = (va : Int) + (256 - off) by omega] at HW2
  have hr' : ¬ (n : Int) ≤ 256 - off := by omega
  obtain ⟨i0, hi, hz0, hz1, hz2⟩ := info_parts info_run
  have Hi := hid hi; have Hz0 := hid hz0; have Hz1 := hid hz1; have Hz2 := hid hz2
  clear hok hv hp hoff hi hz0 hz1 hz2 hr h2n
  clear hc
  have e1 : ((256 - off : Nat) : Int) = 256 - (off : Int) := by omega
  have e2 : ((n - (256 - off) : Nat) : Int) = (n : Int) - (256 - (off : Int)) := by omega
  have E1 := hid e1; have E2 := hid e2
  clear e1 e2
  have hn' : (n : Int) - (256 - (off : Int)) ≤ 256 := by omega
  go_enter Try.func72, Try.ntmps72
  go_wp2_with fail
  go_step3
  go_wp2_with (go_at_call 67; refine (ptMade _ _ _ HM.out HN.out).mono ?_; rintro e w2 ⟨rfl, rfl⟩)
  go_step3
  go_wp2_with fail
  refine wp_loop_rounds 2 ?_
  rw [rounds_succ]
  go_wp2_with (first
    | (go_at_call 26; refine HW.out.mono ?_; rintro e w2 ⟨rfl, hg⟩; have HG := hid hg; have HM2 := hid (hM.grown hg (by simp)); clear hg hM; simp only [walk3])
    | (at_builtin; refine wpList_append_own _ rfl _ _ 127 rfl w.heap.size 131 i0 (.agg #[.int .i64 0, .int .i64 0, .int .i64 0]) 3 24 Try.underlying127 Hi.out Hz0.out Hz1.out Hz2.out rfl (by decide) _ 0 [] rfl (World.ownsRow_nil _ _ _ _) ⟨w2.heap.size, 0, none⟩ 1 1 [.int .i64 m, .int .i64 off, .int .i64 (256 - (off : Int))] rfl rfl (cells3_new _ _ _ _ _) one3 (by unfold maxLen; omega) (by omega) (by have := HG.out.size; simp; omega) ?_; intro v' w3 hown hgrow _; have HO := hid hown; have HG3 := hid (HG.out.trans ((World.grownBy_alloc _ _ _).trans hgrow)); have HM3 := hid ((HM2.out.alloc _).grown hgrow (fun h => by cases (show some b = (none : Option Nat) from h))); clear hown hgrow))
  rw [rounds_succ]
  go_wp2_with (first
    | (go_at_call 26; refine (HW2.out _ HM3.out).mono ?_; rintro e w4 ⟨rfl, hg⟩; have HO4 := hid (ownsRow_grown HO.out hg); have HG4 := hid (HG3.out.trans hg); clear hg; simp only [walk3])
    | (at_builtin; refine wpList_append_own _ rfl _ _ 127 rfl w.heap.size 131 i0 (.agg #[.int .i64 0, .int .i64 0, .int .i64 0]) 3 24 Try.underlying127 Hi.out Hz0.out Hz1.out Hz2.out rfl (by decide) _ (0 + 1) _ rfl (HO4.out.alloc _) ⟨w4.heap.size, 0, none⟩ 1 1 [.int .i64 m2, .int .i64 0, .int .i64 ((n : Int) - (256 - (off : Int)))] rfl rfl (cells3_new _ _ _ _ _) one3 (by unfold maxLen; omega) (by omega) (by have := HG4.out.size; simp; omega) ?_; intro v'' w5 hown hgrow _; have HO5 := hid hown; have HG5 := hid (HG4.out.andThen ((World.grownBy_alloc _ _ _).trans hgrow) (fun j hj => .inl (HO4.out.lt j hj).1)); clear hown hgrow))
  rw [Exit.noGoto_ret]
  go_ret2
  refine ⟨_, rfl, runsAt_two ?_, HG5.out⟩
  rw [E1.out, E2.out]
  exact HO5.out
end Go.Proofs.Ytdjhkacjgdnglaa
