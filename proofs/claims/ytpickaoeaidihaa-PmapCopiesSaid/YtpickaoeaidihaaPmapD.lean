/-
  Package p2m: contract of Copy.
-/
import Derived.Test.YtpickaoeaidihaaPmapC
import Derived.Laws.Externs
import Derived.MapKept
import Derived.Deep.RegionHeld3
import Derived.Shelf.SlMaps.Clone
namespace Go.Proofs.Ytpickaoeaidihaa
open Go.RowKit Gen
set_option maxHeartbeats 1000000

theorem clone_any (f T : Nat) (F : Int → Option Int) (w : World) (h : IMp w f T F) : Calls Try.prog 23 #[.map (some f)] w fun e w' => ∃ c, e = .returned (.map (some c)) ∧ IMp w' c T F ∧ w.heap.size ≤ c ∧ w.grownBy w' none := by
  obtain ⟨D, ⟨es, clock, hb, r⟩, q⟩ := h
  have hq := fun w => run_eql_map_nil_sl (P := Try.prog) w 47 _ _ (some f) Try.underlying47
  have HR := hid r
  have HQ := hid q
  clear r q
  go_enter Try.func23, Try.ntmps23
  go_wp2
  rw [run_callFunc_extern (f := 33) rfl (by kernel_rfl) (by kernel_rfl) (by kernel_rfl) (e := Extern.MapsClone.clone) (by kernel_rfl), run_maps_clone_sl w 47 hb]
  simp only [Result.andThen]
  rw [Oper.upon_value]
  go_wp2
  rw [run_typeAssert_map_sl _ 47 20 _ _ _ Try.underlying47]
  simp only [Result.andThen]
  rw [Oper.upon_value]
  go_wp2
  go_ret
  exact ⟨_, rfl, ⟨D, ⟨es, clock, heap_alloc_new w _, HR.out⟩, HQ.out⟩, Nat.le_refl _, World.grownBy_alloc w _ none⟩
theorem pCopy_nil (w : World) : Calls Try.prog 10 #[.pointer none] w fun e w' => e = .returned (.pointer none) ∧ w = w' := by
  go_enter Try.func10, Try.ntmps10
  go_wp2_with (go_at_call 22; refine (pmade_nil _).mono ?_; rintro e w' ⟨rfl, rfl⟩)
  go_ret
  exact ⟨rfl, rfl⟩
theorem pCopy_zero (b : Nat) (w : World) (h : w.cell? ⟨b, 1, none⟩ = some (.map none)) : Calls Try.prog 10 #[.pointer (some ⟨b, 0, none⟩)] w fun e w' => e = .returned (.pointer none) ∧ w = w' := by
  go_enter Try.func10, Try.ntmps10
  go_wp2_with (go_at_call 22; refine (pmade_zero _ _ h).mono ?_; rintro e w' ⟨rfl, rfl⟩)
  go_ret
  exact ⟨rfl, rfl⟩
set_option maxRecDepth 100000 in
theorem pCopy_yes (b f p : Nat) (M : Mp) (T : Nat) (w : World) (h : PMap w b f p M T) : Calls Try.prog 10 #[.pointer (some ⟨b, 0, none⟩)] w fun e w' => ∃ v, e = .returned v ∧ NewP w M T v w' := by
  have c0 := h.c0
  have c1 := h.c1
  have c2 := h.c2
  have HH := hid h
  have HD := hid h.drew
  clear h
  go_enter Try.func10, Try.ntmps10
  go_wp2_with (go_at_call 22; refine (pmade_yes _ _ _ c1).mono ?_; rintro e w' ⟨rfl, rfl⟩)
  go_region_held3 (fun w' => w'.cell? ⟨b, 0, none⟩ = some (.int .i64 M.n) ∧ w'.cell? ⟨b, 1, none⟩ = some (.map (some f)) ∧ w'.cell? ⟨b, 2, none⟩ = some (.map (some p))) (first | exact ⟨by assumption, by assumption, by assumption⟩ | go_keep)
    (first
      | ((with_reducible refine (clone_any f T M.fr _ HD.out.fr).mono ?_); rintro e w1 ⟨c, rfl, h1, hc1, g1⟩; have d0 := g1.cell c0 (by simp); have d1 := g1.cell c1 (by simp); have d2 := g1.cell c2 (by simp); have HC := hid h1; have HH1 := hid (HD.out.grown g1); have HS1 := hid hc1; have HG1 := hid g1; clear h1 hc1 g1)
      | ((with_reducible refine (clone_any p T M.pl _ HH1.out.pl).mono ?_); rintro e w2 ⟨q, rfl, h2, hq2, g2⟩; have e0 := g2.cell d0 (by simp); have e1 := g2.cell d1 (by simp); have e2 := g2.cell d2 (by simp); have HQ := hid h2; have HC2 := hid (HC.out.grown g2 (by simp)); have HS2 := hid hq2; have HG2 := hid g2; clear h2 hq2 g2))
  all_goals go_wp2
  all_goals
    go_ret
    have h1 := HS1.out
    have h2 := HS2.out
    have h3 := HC.out.lt
    have h4 := HG1.out.size
    have h5 := HG2.out.size
    simp only [World.drew] at h1 h4
    exact ⟨_, rfl, _, c, q, rfl, ⟨Row.new w2 _ _ _ _ (by simp) (fun k hk => by match k, hk with | 0, _ => rfl | 1, _ => rfl | 2, _ => rfl), HC2.out.alloc _, HQ.out.alloc _, by omega⟩, (((grownBy_drew w none).trans HG1.out).trans HG2.out).trans (World.grownBy_alloc _ _ none), fun k hk => by rcases hk with rfl | rfl | rfl <;> omega⟩
end Go.Proofs.Ytpickaoeaidihaa
