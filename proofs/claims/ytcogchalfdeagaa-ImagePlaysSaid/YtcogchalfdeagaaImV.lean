/-
  Package image: Copy.
-/
import Derived.Test.YtcogchalfdeagaaImU
import Derived.Laws.Externs
import Derived.MapKept
import Derived.Deep.RegionHeld3
import Derived.Shelf.SlMaps.Clone
set_option linter.unusedSimpArgs false
set_option linter.unusedVariables false
namespace Go.Proofs.Ytcogchalfdeagaa
open Go.RowKit Gen CM
set_option maxHeartbeats 1000000

set_option maxRecDepth 100000 in
theorem iclone (m c : Nat) (F : Int → Option Value) (w : World) (h : IMb w m c F) : Calls Try.prog 25 #[.map (some m)] w fun e w' => ∃ q, e = .returned (.map (some q)) ∧ IMb w' q c F ∧ w.heap.size ≤ q ∧ w.grownBy w' none := by
  obtain ⟨es, clock, hb⟩ := h.isMap
  have hq := fun w => run_eql_map_nil_sl (P := Try.prog) w 53 _ _ (some m) Try.underlying53
  have H := hid h
  have HB := hid hb
  clear h
  go_enter Try.func25, Try.ntmps25
  go_wp2
  rw [run_callFunc_extern (f := 37) rfl (by kernel_rfl) (by kernel_rfl) (by kernel_rfl) (e := Extern.MapsClone.clone) (by kernel_rfl), run_maps_clone_sl w 53 hb]
  simp only [Result.andThen]
  rw [Oper.upon_value]
  go_wp2
  rw [run_typeAssert_map_sl _ 53 20 _ _ _ Try.underlying53]
  simp only [Result.andThen]
  rw [Oper.upon_value]
  go_wp2
  go_ret
  exact ⟨_, rfl, H.out.copied HB.out (heap_alloc_new w _), Nat.le_refl _, World.grownBy_alloc w _ none⟩
theorem iCopy_no (p : Option Addr) (w : World) (h : NoI w p) : Calls Try.prog 10 #[.pointer p] w fun e w' => e = .returned (.pointer none) ∧ w = w' := by
  have H := hid h
  clear h
  go_enter Try.func10, Try.ntmps10
  go_wp2_with (go_at_call 24; refine (imade_no _ _ H.out).mono ?_; rintro e w' ⟨rfl, rfl⟩)
  go_ret
  exact ⟨rfl, rfl⟩
theorem PI.make {w : World} {b g m : Nat} {I : Im} (h : PI w b g m I) {q : Nat} (hq : IMb w q I.used (blkF I.own)) : PI (w.alloc (.cells #[.slice (some ⟨g, 0, none⟩) I.n I.n, .map (some q), .int .i64 I.most] 55)) w.heap.size g q I :=
  ⟨Row.new w _ _ _ _ (by simp) (fun k hk => by match k, hk with | 0, _ => rfl | 1, _ => rfl | 2, _ => rfl), h.base.alloc _, hq.alloc _⟩
set_option maxRecDepth 100000 in
theorem iCopy {w : World} {b g m : Nat} {I : Im} (h : PI w b g m I) : Calls Try.prog 10 #[.pointer (some ⟨b, 0, none⟩)] w fun e w' => ∃ b' m', e = .returned (.pointer (some ⟨b', 0, none⟩)) ∧ PI w' b' g m' I ∧ w.heap.size ≤ b' ∧ w.heap.size ≤ m' ∧ w.grownBy w' none := by
  have c0 := h.c0
  have c1 := h.c1
  have c2 := h.c2
  have HD := hid h.drew
  clear h
  go_enter Try.func10, Try.ntmps10
  go_wp2_with (go_at_call 24; refine (imade_yes _ _ _ c1).mono ?_; rintro e w' ⟨rfl, rfl⟩)
  go_region_held3 (fun w' => w'.cell? ⟨b, 0, none⟩ = some (.slice (some ⟨g, 0, none⟩) I.n I.n) ∧ w'.cell? ⟨b, 1, none⟩ = some (.map (some m)) ∧ w'.cell? ⟨b, 2, none⟩ = some (.int .i64 I.most)) (first | exact ⟨by assumption, by assumption, by assumption⟩ | go_keep)
    ((((with_reducible refine (iclone m I.used (blkF I.own) _ HD.out.map).mono ?_); rintro e w1 ⟨q, rfl, h1, hq1, g1⟩; have d0 := g1.cell c0 (by simp); have d1 := g1.cell c1 (by simp); have d2 := g1.cell c2 (by simp); have HC := hid h1; have HI := hid (HD.out.grown g1); have HS1 := hid hq1; have HG1 := hid ((grownBy_drew w none).trans g1); clear h1 hq1 g1)))
  all_goals go_wp2
  all_goals
    go_ret
    have h1 := HS1.out
    have h4 := HG1.out.size
    exact ⟨_, q, rfl, HI.out.make HC.out, h4, h1, HG1.out.trans (World.grownBy_alloc _ _ none)⟩
end Go.Proofs.Ytcogchalfdeagaa
