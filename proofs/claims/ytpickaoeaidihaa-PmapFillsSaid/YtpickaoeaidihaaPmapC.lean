/-
  Package p2m: contract of List.
-/
import Derived.Test.YtpickaoeaidihaaPmapB
import Derived.Deep.AppendLies
namespace Go.Proofs.Ytpickaoeaidihaa
open Go.RowKit Gen
set_option maxHeartbeats 400000

/-- the places with frames below k, rising -/
def Mp.listP (M : Mp) (k : Nat) : List (Int × Int) := (List.range k).filterMap fun g : Nat => (M.fr (g : Int)).map fun m => ((g : Int), m)
def pcells (l : List (Int × Int)) : List Value := l.flatMap fun q => [.int .i64 q.1, .int .i64 q.2]
theorem pcells_len (l : List (Int × Int)) : (pcells l).length = l.length * 2 := by
  induction l with
  | nil => rfl
  | cons x l ih => simp only [pcells, List.flatMap_cons, List.length_append, List.length_cons, List.length_nil] at ih ⊢; omega
theorem pcells_app (l l' : List (Int × Int)) : pcells (l ++ l') = pcells l ++ pcells l' := by simp [pcells]
theorem pcells_one (l : List (Int × Int)) : ∀ u ∈ pcells l, u.oneCell' = true := by
  intro u hu
  simp only [pcells, List.mem_flatMap] at hu
  obtain ⟨q, _, hu⟩ := hu
  simp only [List.mem_cons, List.not_mem_nil, or_false] at hu
  rcases hu with rfl | rfl <;> rfl
theorem pcells_get (l : List (Int × Int)) (j : Nat) (hj : j < l.length) : (pcells l)[j * 2]? = some (.int .i64 l[j].1) ∧ (pcells l)[j * 2 + 1]? = some (.int .i64 l[j].2) := by
  induction l generalizing j with
  | nil => simp at hj
  | cons x l ih =>
    cases j with
    | zero => simp [pcells]
    | succ j =>
      have := ih j (by simpa using hj)
      simp only [pcells, List.flatMap_cons] at this ⊢
      rw [show (j + 1) * 2 = j * 2 + 1 + 1 by omega]
      simpa using this
theorem Mp.listP_some {M : Mp} {k : Nat} {m : Int} (h : M.fr k = some m) : M.listP (k + 1) = M.listP k ++ [((k : Int), m)] := by
  unfold Mp.listP
  rw [List.range_succ, List.filterMap_append]
  simp [h]
theorem Mp.listP_none {M : Mp} {k : Nat} (h : M.fr k = none) : M.listP (k + 1) = M.listP k := by
  unfold Mp.listP
  rw [List.range_succ, List.filterMap_append]
  simp [h]
theorem Mp.listP_len (M : Mp) (k : Nat) : (M.listP k).length ≤ k := by
  have := List.length_filterMap_le (fun g : Nat => (M.fr (g : Int)).map fun m => ((g : Int), m)) (List.range k)
  simpa [Mp.listP] using this
def NewPairs (w : World) (l : List (Int × Int)) (v : Value) (w' : World) : Prop := w'.ownsRow w.heap.size 43 2 v l.length (pcells l) ∧ w.grownBy w' none
theorem info_pair : (Try.prog.info? 43).map (fun i => (i.zero, i.size, i.bytes)) = some (some (.agg #[.int .i64 0, .int .i64 0]), 2, 16) := by kernel_rfl
theorem pList_zero (b : Nat) (w : World) (h : w.cell? ⟨b, 1, none⟩ = some (.map none)) : Calls Try.prog 16 #[.pointer (some ⟨b, 0, none⟩)] w fun e w' => e = .returned (.slice none 0 0) ∧ w = w' := by
  go_enter Try.func16, Try.ntmps16
  go_wp2_with (go_at_call 20; refine (pSize_zero _ _ h).mono ?_; rintro e w' ⟨rfl, rfl⟩)
  go_loop [3, 9] (fun v i => v = .slice none 0 0 ∧ i = .int .i64 0) (fun _ _ => 0)
  case atStart => exact ⟨rfl, rfl⟩
  case round =>
    obtain ⟨rfl, rfl⟩ := hrel
    go_wp2
    go_ret
    exact ⟨rfl, rfl⟩
set_option maxRecDepth 100000 in
theorem pList_yes (b f p : Nat) (M : Mp) (T : Nat) (w : World) (h : PMap w b f p M T) (hn : M.n ≤ 48) :
    Calls Try.prog 16 #[.pointer (some ⟨b, 0, none⟩)] w fun e w' => ∃ v, e = .returned v ∧ NewPairs w (M.listP M.n) v w' := by
  obtain ⟨i0, hi, hz0, hz1, hz2⟩ := info_parts info_pair
  have Hi := hid hi; have Hz0 := hid hz0; have Hz1 := hid hz1; have Hz2 := hid hz2
  clear hi hz0 hz1 hz2
  have HH := hid h
  clear h
  go_enter Try.func16, Try.ntmps16
  go_wp2_with (go_at_call 20; refine (pSize_yes b f p M T _ HH.out).mono ?_; rintro e w' ⟨rfl, rfl⟩)
  go_loopw [3, 9] (fun v i wr => ∃ k : Nat, i = .int .i64 k ∧ k ≤ M.n ∧ wr.ownsRow w.heap.size 43 2 v (M.listP k).length (pcells (M.listP k)) ∧ w.grownBy wr none) (fun _ i _ => M.n - (intOf i).toNat)
  case atStart => exact ⟨0, rfl, by omega, World.ownsRow_nil _ _ _ _, grownBy_refl _ _⟩
  case round =>
    obtain ⟨k, rfl, hk, hrow, hg⟩ := hrel
    obtain ⟨pv, cv, hv⟩ := ownsRow_slice hrow
    have HO := hid hrow
    have HG := hid hg
    have HW := hid (HH.out.grown hg)
    clear hrow hg
    subst hv
    have c1 := HW.out.c1
    have hk0 : (0 : Int) ≤ k := by omega
    by_cases hlt : k < M.n
    · have hlt' : (k : Int) < M.n := by omega
      have HK := hid (I64.of (n := (k : Int)) (by omega) (by omega))
      cases hs : M.fr k with
      | none =>
        have e1 := hid (show (M.fr k).getD 0 = 0 by rw [hs]; rfl)
        have e2 := hid (show (M.fr k).isSome = false by rw [hs]; rfl)
        have e3 := hid (Mp.listP_none hs)
        clear hs
        go_wp2_with (at_lookup; refine wpList_lookup_imap _ rfl _ _ 47 rfl 3 3 int_key Try.underlying3 Try.underlying47 Try.underlying3 (int_zero _) f T M.fr rfl HW.out.fr k rfl HK.out ?_; rw [e1.out, e2.out])
        go_roundw
        case rel => exact ⟨k + 1, by go_num, by omega, by rw [e3.out]; exact HO.out, HG.out⟩
        case measure => simp [intOf]; omega
      | some m =>
        have e1 := hid (show (M.fr k).getD 0 = m by rw [hs]; rfl)
        have e2 := hid (show (M.fr k).isSome = true by rw [hs]; rfl)
        have e3 := hid (Mp.listP_some hs)
        have hl := M.listP_len k
        clear hs
        go_wp2_with (first
          | (at_lookup; refine wpList_lookup_imap _ rfl _ _ 47 rfl 3 3 int_key Try.underlying3 Try.underlying47 Try.underlying3 (int_zero _) f T M.fr rfl HW.out.fr k rfl HK.out ?_; rw [e1.out, e2.out])
          | (at_builtin; refine wpList_append_own _ rfl _ _ 40 rfl w.heap.size 43 i0 (.agg #[.int .i64 0, .int .i64 0]) 2 16 Try.underlying40 Hi.out Hz0.out Hz1.out Hz2.out rfl (by decide) _ _ _ rfl (HO.out.alloc _) ⟨wr.heap.size, 0, none⟩ 1 1 [.int .i64 k, .int .i64 m] rfl rfl (World.news_of_block (heap_alloc_new wr _)) (by simp [Value.oneCell']) (by unfold maxLen; omega) (by omega) (by have := HG.out.size; simp; omega) ?_; intro v' w1 hown' hgrow hnil; clear hnil; have HO1 := hid hown'; have HG1 := hid ((HG.out.trans (World.grownBy_alloc wr _ none)).andThen hgrow (fun j hj => .inl (HO.out.lt j hj).1)); clear hown' hgrow))
        go_roundw
        case rel => exact ⟨k + 1, by go_num, by omega, by rw [e3.out, pcells_app, List.length_append]; exact HO1.out, HG1.out⟩
        case measure => simp [intOf]; omega
    · obtain rfl : k = M.n := by omega
      have hge : (M.n : Int) ≤ M.n := by omega
      go_wp2
      go_ret
      exact ⟨_, rfl, HO.out, HG.out⟩
end Go.Proofs.Ytpickaoeaidihaa
