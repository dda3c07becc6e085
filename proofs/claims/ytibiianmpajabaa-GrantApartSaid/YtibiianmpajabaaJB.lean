/-
  Package p2m: contract of List.
-/
import Derived.Test.YtibiianmpajabaaPmapB
import Derived.Deep.AppendLies
import Derived.Laws.Externs
import Derived.MapKept
import Derived.Deep.RegionHeld3
import Derived.Shelf.SlMaps.Clone
import Derived.Test.YtibiianmpajabaaOpen
import Derived.OpenShut
set_option linter.unusedSimpArgs false
set_option linter.unusedVariables false
namespace Go.Proofs.Ytibiianmpajabaa
open Go.RowKit Gen
set_option maxHeartbeats 400000

/-- the places with frames below k, rising -/
def Mp.listP (M : Mp) (k : Nat) : List (Int × Int) := (List.range k).filterMap fun g : Nat => (M.fr (g : Int)).map fun m => ((g : Int), m)
def pcells (l : List (Int × Int)) : List Value := l.flatMap fun q => [.int .i64 q.1, .int .i64 q.2]
theorem pcells_len (l : List (Int × Int)) : (pcells l).length = l.length * 2 := by
  induction l with
  | nil => rfl
  | cons x l ih => simp only [pcells, List.flatMap_cons, List.length_append, List.length_cons, List.length_nil] at ih ⊢; omega
theorem pcells_app (l l' : List (Int × Int)) : pcells (l ++ l') = pcells l ++ pcells l' := by simp [pcells]
theorem pcells_one (l : List (Int × Int)) : ∀ u ∈ pcells l, u.oneCell' = true := by
  intro u hu
  simp only [pcells, List.mem_flatMap] at hu
  obtain ⟨q, _, hu⟩ := hu
  simp only [List.mem_cons, List.not_mem_nil, or_false] at hu
  rcases hu with rfl | rfl <;> rfl
theorem pcells_get (l : List (Int × Int)) (j : Nat) (hj : j < l.length) : (pcells l)[j * 2]? = some (.int .i64 l[j].1) ∧ (pcells l)[j * 2 + 1]? = some (.int .i64 l[j].2) := by
  induction l generalizing j with
  | nil => simp at hj
  | cons x l ih =>
    cases j with
    | zero => simp [pcells]
    | succ j =>
      have := ih j (by simpa using hj)
      simp only [pcells, List.flatMap_cons] at this ⊢
      rw [show (j + 1) * 2 = j * 2 + 1 + 1 by omega]
      simpa using this
theorem Mp.listP_some {M : Mp} {k : Nat} {m : Int} (h : M.fr k = some m) : M.listP (k + 1) = M.listP k ++ [((k : Int), m)] := by
  unfold Mp.listP
  rw [List.range_succ, List.filterMap_append]
  simp [h]
theorem Mp.listP_none {M : Mp} {k : Nat} (h : M.fr k = none) : M.listP (k + 1) = M.listP k := by
  unfold Mp.listP
  rw [List.range_succ, List.filterMap_append]
  simp [h]
theorem Mp.listP_len (M : Mp) (k : Nat) : (M.listP k).length ≤ k := by
  have := List.length_filterMap_le (fun g : Nat => (M.fr (g : Int)).map fun m => ((g : Int), m)) (List.range k)
  simpa [Mp.listP] using this
def NewPairs (w : World) (l : List (Int × Int)) (v : Value) (w' : World) : Prop := w'.ownsRow w.heap.size 220 2 v l.length (pcells l) ∧ w.grownBy w' none
theorem info_pair : (Try.prog.info? 220).map (fun i => (i.zero, i.size, i.bytes)) = some (some (.agg #[.int .i64 0, .int .i64 0]), 2, 16) := by kernel_rfl
theorem pList_zero (b : Nat) (w : World) (h : w.cell? ⟨b, 1, none⟩ = some (.map none)) : Calls Try.prog 99 #[.pointer (some ⟨b, 0, none⟩)] w fun e w' => e = .returned (.slice none 0 0) ∧ w = w' := by
  go_enter Try.func99, Try.ntmps99
  go_wp2_with (go_at_call 97; refine (pSize_zero _ _ h).mono ?_; rintro e w' ⟨rfl, rfl⟩)
  go_loop [3, 9] (fun v i => v = .slice none 0 0 ∧ i = .int .i64 0) (fun _ _ => 0)
  case atStart => exact ⟨rfl, rfl⟩
  case round =>
    obtain ⟨rfl, rfl⟩ := hrel
    go_wp2
    go_ret
    exact ⟨rfl, rfl⟩
set_option maxRecDepth 100000 in
theorem pList_yes (b f p : Nat) (M : Mp) (T : Nat) (w : World) (h : PMap w b f p M T) (hn : M.n ≤ 48) :
    Calls Try.prog 99 #[.pointer (some ⟨b, 0, none⟩)] w fun e w' => ∃ v, e = .returned v ∧ NewPairs w (M.listP M.n) v w' := by
  obtain ⟨i0, hi, hz0, hz1, hz2⟩ := info_parts info_pair
  have Hi := hid hi; have Hz0 := hid hz0; have Hz1 := hid hz1; have Hz2 := hid hz2
  clear hi hz0 hz1 hz2
  have HH := hid h
  clear h
  go_enter Try.func99, Try.ntmps99
  go_wp2_with (go_at_call 97; refine (pSize_yes b f p M T _ HH.out).mono ?_; rintro e w' ⟨rfl, rfl⟩)
  go_loopw [3, 9] (fun v i wr => ∃ k : Nat, i = .int .i64 k ∧ k ≤ M.n ∧ wr.ownsRow w.heap.size 220 2 v (M.listP k).length (pcells (M.listP k)) ∧ w.grownBy wr none) (fun _ i _ => M.n - (intOf i).toNat)
  case atStart => exact ⟨0, rfl, by omega, World.ownsRow_nil _ _ _ _, grownBy_refl _ _⟩
  case round =>
    obtain ⟨k, rfl, hk, hrow, hg⟩ := hrel
    obtain ⟨pv, cv, hv⟩ := ownsRow_slice hrow
    have HO := hid hrow
    have HG := hid hg
    have HW := hid (HH.out.grown hg)
    clear hrow hg
    subst hv
    have c1 := HW.out.c1
    have hk0 : (0 : Int) ≤ k := by omega
    by_cases hlt : k < M.n
    · have hlt' : (k : Int) < M.n := by omega
      have HK := hid (I64.of (n := (k : Int)) (by omega) (by omega))
      cases hs : M.fr k with
      | none =>
        have e1 := hid (show (M.fr k).getD 0 = 0 by rw [hs]; rfl)
        have e2 := hid (show (M.fr k).isSome = false by rw [hs]; rfl)
        have e3 := hid (Mp.listP_none hs)
        clear hs
        go_wp2_with (at_lookup; refine wpList_lookup_imap _ rfl _ _ 167 rfl 3 3 int_key Try.underlying3 Try.underlying167 Try.underlying3 (int_zero _) f T M.fr rfl HW.out.fr k rfl HK.out ?_; rw [e1.out, e2.out])
        go_roundw
        case rel => exact ⟨k + 1, by go_num, by omega, by rw [e3.out]; exact HO.out, HG.out⟩
        case measure => simp [intOf]; omega
      | some m =>
        have e1 := hid (show (M.fr k).getD 0 = m by rw [hs]; rfl)
        have e2 := hid (show (M.fr k).isSome = true by rw [hs]; rfl)
        have e3 := hid (Mp.listP_some hs)
        have hl := M.listP_len k
        clear hs
        go_wp2_with (first
          | (at_lookup; refine wpList_lookup_imap _ rfl _ _ 167 rfl 3 3 int_key Try.underlying3 Try.underlying167 Try.underlying3 (int_zero _) f T M.fr rfl HW.out.fr k rfl HK.out ?_; rw [e1.out, e2.out])
          | (at_builtin; refine wpList_append_own _ rfl _ _ 176 rfl w.heap.size 220 i0 (.agg #[.int .i64 0, .int .i64 0]) 2 16 Try.underlying176 Hi.out Hz0.out Hz1.out Hz2.out rfl (by decide) _ _ _ rfl (HO.out.alloc _) ⟨wr.heap.size, 0, none⟩ 1 1 [.int .i64 k, .int .i64 m] rfl rfl (World.news_of_block (heap_alloc_new wr _)) (by simp [Value.oneCell']) (by unfold maxLen; omega) (by omega) (by have := HG.out.size; simp; omega) ?_; intro v' w1 hown' hgrow hnil; clear hnil; have HO1 := hid hown'; have HG1 := hid ((HG.out.trans (World.grownBy_alloc wr _ none)).andThen hgrow (fun j hj => .inl (HO.out.lt j hj).1)); clear hown' hgrow))
        go_roundw
        case rel => exact ⟨k + 1, by go_num, by omega, by rw [e3.out, pcells_app, List.length_append]; exact HO1.out, HG1.out⟩
        case measure => simp [intOf]; omega
    · obtain rfl : k = M.n := by omega
      have hge : (M.n : Int) ≤ M.n := by omega
      go_wp2
      go_ret
      exact ⟨_, rfl, HO.out, HG.out⟩
end Go.Proofs.Ytibiianmpajabaa

/-
  Package p2m: contract of Copy.
-/
set_option linter.unusedSimpArgs false
set_option linter.unusedVariables false
namespace Go.Proofs.Ytibiianmpajabaa
open Go.RowKit Gen
set_option maxHeartbeats 1000000

set_option maxRecDepth 100000 in
theorem clone_any (f T : Nat) (F : Int → Option Int) (w : World) (h : IMp w f T F) : Calls Try.prog 87 #[.map (some f)] w fun e w' => ∃ c, e = .returned (.map (some c)) ∧ IMp w' c T F ∧ w.heap.size ≤ c ∧ w.grownBy w' none := by
  obtain ⟨D, ⟨es, clock, hb, r⟩, q⟩ := h
  have hq := fun w => run_eql_map_nil_sl (P := Try.prog) w 167 _ _ (some f) Try.underlying167
  have HR := hid r
  have HQ := hid q
  clear r q
  go_enter Try.func87, Try.ntmps87
  go_wp2
  rw [run_callFunc_extern (f := 134) rfl (by kernel_rfl) (by kernel_rfl) (by kernel_rfl) (e := Extern.MapsClone.clone) (by kernel_rfl), run_maps_clone_sl w 167 hb]
  simp only [Result.andThen]
  rw [Oper.upon_value]
  go_wp2
  rw [run_typeAssert_map_sl _ 167 20 _ _ _ Try.underlying167]
  simp only [Result.andThen]
  rw [Oper.upon_value]
  go_wp2
  go_ret
  exact ⟨_, rfl, ⟨D, ⟨es, clock, heap_alloc_new w _, HR.out⟩, HQ.out⟩, Nat.le_refl _, World.grownBy_alloc w _ none⟩
theorem pCopy_nil (w : World) : Calls Try.prog 30 #[.pointer none] w fun e w' => e = .returned (.pointer none) ∧ w = w' := by
  go_enter Try.func30, Try.ntmps30
  go_wp2_with (go_at_call 86; refine (pmade_nil _).mono ?_; rintro e w' ⟨rfl, rfl⟩)
  go_ret
  exact ⟨rfl, rfl⟩
theorem pCopy_zero (b : Nat) (w : World) (h : w.cell? ⟨b, 1, none⟩ = some (.map none)) : Calls Try.prog 30 #[.pointer (some ⟨b, 0, none⟩)] w fun e w' => e = .returned (.pointer none) ∧ w = w' := by
  go_enter Try.func30, Try.ntmps30
  go_wp2_with (go_at_call 86; refine (pmade_zero _ _ h).mono ?_; rintro e w' ⟨rfl, rfl⟩)
  go_ret
  exact ⟨rfl, rfl⟩
set_option maxRecDepth 100000 in
theorem pCopy_yes (b f p : Nat) (M : Mp) (T : Nat) (w : World) (h : PMap w b f p M T) : Calls Try.prog 30 #[.pointer (some ⟨b, 0, none⟩)] w fun e w' => ∃ v, e = .returned v ∧ NewP w M T v w' := by
  have c0 := h.c0
  have c1 := h.c1
  have c2 := h.c2
  have HH := hid h
  have HD := hid h.drew
  clear h
  go_enter Try.func30, Try.ntmps30
  go_wp2_with (go_at_call 86; refine (pmade_yes _ _ _ c1).mono ?_; rintro e w' ⟨rfl, rfl⟩)
  go_region_held3 (fun w' => w'.cell? ⟨b, 0, none⟩ = some (.int .i64 M.n) ∧ w'.cell? ⟨b, 1, none⟩ = some (.map (some f)) ∧ w'.cell? ⟨b, 2, none⟩ = some (.map (some p))) (first | exact ⟨by assumption, by assumption, by assumption⟩ | go_keep)
    (first
      | ((with_reducible refine (clone_any f T M.fr _ HD.out.fr).mono ?_); rintro e w1 ⟨c, rfl, h1, hc1, g1⟩; have d0 := g1.cell c0 (by simp); have d1 := g1.cell c1 (by simp); have d2 := g1.cell c2 (by simp); have HC := hid h1; have HH1 := hid (HD.out.grown g1); have HS1 := hid hc1; have HG1 := hid g1; clear h1 hc1 g1)
      | ((with_reducible refine (clone_any p T M.pl _ HH1.out.pl).mono ?_); rintro e w2 ⟨q, rfl, h2, hq2, g2⟩; have e0 := g2.cell d0 (by simp); have e1 := g2.cell d1 (by simp); have e2 := g2.cell d2 (by simp); have HQ := hid h2; have HC2 := hid (HC.out.grown g2 (by simp)); have HS2 := hid hq2; have HG2 := hid g2; clear h2 hq2 g2))
  all_goals go_wp2
  all_goals
    go_ret
    have h1 := HS1.out
    have h2 := HS2.out
    have h3 := HC.out.lt
    have h4 := HG1.out.size
    have h5 := HG2.out.size
    simp only [World.drew] at h1 h4
    exact ⟨_, rfl, _, c, q, rfl, ⟨Row.new w2 _ _ _ _ (by simp) (fun k hk => by match k, hk with | 0, _ => rfl | 1, _ => rfl | 2, _ => rfl), HC2.out.alloc _, HQ.out.alloc _, by omega⟩, (((grownBy_drew w none).trans HG1.out).trans HG2.out).trans (World.grownBy_alloc _ _ none), fun k hk => by rcases hk with rfl | rfl | rfl <;> omega⟩
end Go.Proofs.Ytibiianmpajabaa

/-
  Package p2m: what List and Hole tell of a map; calls that came in. No walk here.
-/
set_option linter.unusedSimpArgs false
set_option linter.unusedVariables false
namespace Go.Proofs.Ytibiianmpajabaa
open Go.RowKit Gen
set_option maxHeartbeats 400000

theorem Mp.listP_get (M : Mp) (n k : Nat) (h : k < (M.listP n).length) : ∃ (g : Nat) (m : Int), (M.listP n)[k] = ((g : Int), m) ∧ g < n ∧ M.fr g = some m := by
  have := List.getElem_mem h
  unfold Mp.listP at this
  rw [List.mem_filterMap] at this
  obtain ⟨g, hg, e⟩ := this
  simp only [Option.map_eq_some_iff] at e
  obtain ⟨m, hm, e⟩ := e
  exact ⟨g, m, e.symm, by simpa using hg, hm⟩
theorem Mp.listP_pw (M : Mp) (n : Nat) : (M.listP n).Pairwise (fun a b => a.1 < b.1) := by
  unfold Mp.listP
  rw [List.pairwise_filterMap]
  refine List.pairwise_lt_range.imp fun {a b} h x hx y hy => ?_
  simp only [Option.map_eq_some_iff] at hx hy
  obtain ⟨m, _, rfl⟩ := hx
  obtain ⟨m', _, rfl⟩ := hy
  simpa using h
theorem Mp.listP_lt (M : Mp) (n i : Nat) (h : i + 1 < (M.listP n).length) : (M.listP n)[i].1 < (M.listP n)[i + 1].1 :=
  List.pairwise_iff_getElem.1 (M.listP_pw n) i (i + 1) (by omega) h (by omega)
theorem Mp.listP_ge (M : Mp) (n i : Nat) (h : i < (M.listP n).length) : (i : Int) ≤ (M.listP n)[i].1 := by
  induction i with
  | zero =>
    obtain ⟨g, m, e, _⟩ := M.listP_get n 0 h
    rw [e]; simp
  | succ i ih =>
    have := M.listP_lt n i h
    have := ih (by omega)
    omega
theorem Mp.listP_grow (M : Mp) (k d : Nat) : (M.listP k).length ≤ (M.listP (k + d)).length ∧ (M.listP (k + d)).length ≤ (M.listP k).length + d := by
  induction d with
  | zero => simp
  | succ d ih =>
    rw [show k + (d + 1) = (k + d) + 1 by omega]
    cases h : M.fr ((k + d : Nat) : Int) with
    | none => rw [Mp.listP_none h]; omega
    | some m => rw [Mp.listP_some h]; simp; omega
theorem Mp.listP_all (M : Mp) (k : Nat) (h : ∀ j : Nat, j < k → (M.fr j).isSome = true) : (M.listP k).length = k := by
  induction k with
  | zero => rfl
  | succ k ih =>
    have h1 := h k (by omega)
    obtain ⟨m, hm⟩ := Option.isSome_iff_exists.1 h1
    rw [Mp.listP_some hm]
    simp [ih fun j hj => h j (by omega)]
/-- what Hole and List tell of one another -/
theorem Mp.hole_cases (M : Mp) : (∃ k : Nat, k < M.n ∧ M.holeE = ((k : Int), 0) ∧ k ≤ (M.listP M.n).length ∧ (M.listP M.n).length < M.n ∧ ∀ h : k < (M.listP M.n).length, (k : Int) < (M.listP M.n)[k].1) ∨ (M.holeE = (0, 6) ∧ (M.listP M.n).length = M.n) := by
  by_cases hf : ∃ k : Nat, k < M.n ∧ (M.fr k).isSome = false
  · left
    obtain ⟨k, hk⟩ := hf
    -- the least
    have : ∃ k : Nat, (k < M.n ∧ (M.fr k).isSome = false) ∧ ∀ j : Nat, j < k → (M.fr j).isSome = true := by
      induction k using Nat.strongRecOn with
      | _ k ih =>
        by_cases h : ∃ j : Nat, j < k ∧ (M.fr j).isSome = false
        · obtain ⟨j, hj, h2⟩ := h
          exact ih j hj ⟨by omega, h2⟩
        · refine ⟨k, hk, fun j hj => ?_⟩
          cases e : (M.fr j).isSome with
          | true => rfl
          | false => exact absurd ⟨j, hj, e⟩ h
    obtain ⟨k, ⟨hk, hn⟩, hb⟩ := this
    have hnone : M.fr k = none := by cases e : M.fr k <;> simp_all
    have h1 := M.listP_all k hb
    have h2 := M.listP_grow k (M.n - k)
    have h3 := Mp.listP_none hnone
    have h4 := M.listP_grow (k + 1) (M.n - (k + 1))
    rw [show k + (M.n - k) = M.n by omega] at h2
    rw [show k + 1 + (M.n - (k + 1)) = M.n by omega, h3] at h4
    refine ⟨k, hk, Mp.holeE_at hk hb hn, by omega, by omega, fun h => ?_⟩
    have h5 := M.listP_ge M.n k h
    obtain ⟨g, m, e, _, hg⟩ := M.listP_get M.n k h
    rw [e] at h5 ⊢
    simp only at h5 ⊢
    by_cases hkg : (k : Int) = g
    · rw [← hkg, hnone] at hg; cases hg
    · omega
  · right
    have hb : ∀ j : Nat, j < M.n → (M.fr j).isSome = true := fun j hj => by
      cases e : (M.fr j).isSome with
      | true => rfl
      | false => exact absurd ⟨j, hj, e⟩ hf
    exact ⟨Mp.holeE_none hb, M.listP_all M.n hb⟩
/-- the cells of a list -/
theorem pairs_cells {W : World} {base : Nat} {v : Value} {l : List (Int × Int)} (h : W.ownsRow base 220 2 v l.length (pcells l)) {k : Nat} (hk : k < l.length) :
    ∃ g c, v = .slice (some ⟨g, 0, none⟩) l.length c ∧ base ≤ g ∧ W.cell? ⟨g, k * 2, none⟩ = some (.int .i64 l[k].1) ∧ W.cell? ⟨g, k * 2 + 1, none⟩ = some (.int .i64 l[k].2) := by
  obtain ⟨e0, e1⟩ := pcells_get l k hk
  obtain ⟨g, c, u, rfl, hb, _, hu, hc⟩ := own_cell h (j := k * 2) (by omega)
  obtain ⟨g', c', u', hv, _, _, hu', hc'⟩ := own_cell h (j := k * 2 + 1) (by omega)
  cases hv
  rw [e0] at hu; rw [e1] at hu'
  cases hu; cases hu'
  exact ⟨g, c, rfl, hb, hc, hc'⟩

/-- a row of calls that came in -/
def PScript (w : World) (p : Option Addr) (len : Nat) : Prop := ∀ i, i < len → ∃ b off x a c, p = some ⟨b, off, none⟩ ∧ b < w.heap.size ∧ w.cell? ⟨b, off + i * 3, none⟩ = some (.int .i64 x) ∧ w.cell? ⟨b, off + i * 3 + 1, none⟩ = some (.int .i64 a) ∧ w.cell? ⟨b, off + i * 3 + 2, none⟩ = some (.int .i64 c) ∧ I64 x ∧ I64 a ∧ I64 c
theorem pop_flat : Flat.isFlat Try.prog 67 [3, 3, 3] = true := by kernel_rfl
theorem pop_bytes : Try.prog.bytesOf 67 = 24 := by kernel_rfl
theorem open_pscript {H : Type} {enc : TypeId × Value → H} {w : World} {v : Value} (h : Flat.Came enc Try.prog w 0 (fun _ => true) true 59 v) :
    ∃ p len cap, v = .slice p len cap ∧ len ≤ 140737488351232 ∧ PScript w p len := by
  obtain ⟨p, len, cap, rfl, hl, _, hs⟩ := Flat.open_flats Try.underlying59 pop_flat (by simp) h
  refine ⟨p, len, cap, rfl, ?_, fun i hi => ?_⟩
  · rw [pop_bytes] at hl
    unfold reachBytes at hl
    omega
  · obtain ⟨b, off, rfl, hb, hc⟩ := hs i hi
    obtain ⟨v0, c0, k0⟩ := hc 0 _ rfl
    obtain ⟨v1, c1, k1⟩ := hc 1 _ rfl
    obtain ⟨v2, c2, k2⟩ := hc 2 _ rfl
    obtain ⟨x, rfl, hx⟩ := k0.int Try.underlying3
    obtain ⟨a, rfl, ha⟩ := k1.int Try.underlying3
    obtain ⟨c, rfl, hc⟩ := k2.int Try.underlying3
    exact ⟨b, off, x, a, c, rfl, hb, c0, c1, c2, hx, ha, hc⟩
end Go.Proofs.Ytibiianmpajabaa
