/-
  Package path: Perms and Parse, told for the way back.
-/
import Derived.Test.YtmnolfaejneomaaDoorPaPe
set_option linter.unusedSimpArgs false
set_option linter.unusedVariables false
namespace Go.Proofs.YtmnolfaejneomaaDoor
open Go.RowKit
set_option maxHeartbeats 4000000
def PePost (t : ByteArray) (w : World) (e : Ending) (w' : World) : Prop :=
  Below w.heap.size w w' ∧ ((∃ (a : Int) (k : Nat), e = .returned (.tuple #[.slice none 0 0, .int .i64 a, .int .i64 k]) ∧ k ≠ 0) ∨
    (∃ (p : Option Addr) (c : Nat) (l : List PD), e = .returned (.tuple #[.slice p l.length c, .int .i64 0, .int .i64 0]) ∧ l.length ≤ c ∧ l.length ≤ 8 ∧ PG w' p l ∧ txV l = (t.data.toList, 0)))
theorem PT.iter {w : World} {b B0 k : Nat} {l : List PD} {nx : PD} {s : ByteArray} {pos : Nat} (h : PT w b B0 l nx) (hk : w.heap[k]? = some (.stringIter s pos)) (pos' : Nat) : PT (w.iterAt k s pos') b B0 l nx := by
  obtain ⟨v, hh, hown, hb, hB⟩ := h
  have hkb : b ≠ k := fun e => by subst e; rw [hk] at hh; cases hh
  refine ⟨v, (Lib.iterAt_other w k b s pos' hkb).trans hh, ⟨hown.1, ?_⟩, hb, by rw [Lib.iterAt_size]; exact hB⟩
  rcases hown.2 with h2 | ⟨g, cap, cur, rfl, hb', hg, r⟩
  · exact .inl h2
  · have hkg : g ≠ k := fun e => by subst e; rw [hk] at hg; cases hg
    exact .inr ⟨g, cap, cur, rfl, hb', (Lib.iterAt_other w k g s pos' hkg).trans hg, r⟩
theorem iterPos_at' {w : World} {k : Nat} {s : ByteArray} {p : Nat} (h : w.heap[k]? = some (.stringIter s p)) : w.iterPos k = p := by simp [World.iterPos, h]
set_option maxRecDepth 100000 in
theorem paPerms (t : ByteArray) (w : World) : Calls Tryd.prog 16 #[.string t] w (PePost t w) := by
  go_enter Tryd.func16, Tryd.ntmps16
  go_wp2
  go_loopw [] (fun wr => ∃ (pos : Nat) (l : List PD) (nx : PD) (ph m : Nat), ph < 3 ∧ pos ≤ t.size ∧ wr.heap[w.heap.size + 1]? = some (.stringIter t pos) ∧ PT wr w.heap.size (w.heap.size + 2) l nx ∧ PInv t pos l nx ph m ∧ Below w.heap.size w wr) (fun wr => t.size - wr.iterPos (w.heap.size + 1))
  case atStart =>
    refine ⟨0, [], (0, false, false), 0, 0, by decide, Nat.zero_le _, ?_, ⟨.slice none 0 0, ?_, ⟨rfl, .inl ⟨rfl, rfl⟩⟩, by omega, ?_⟩, ⟨by decide, fun j hj => (by cases hj), rfl, fun _ => ⟨rfl, rfl⟩, fun h => (by cases h), fun h => (by cases h)⟩, ?_⟩
    · have := (MapKept.heap_alloc (w.alloc (partsO (.slice none 0 0) (0, false, false))) (.stringIter t 0)).1
      simpa [World.iter] using this
    · exact heap_below (MapKept.heap_alloc w (partsO (.slice none 0 0) (0, false, false))).1 ((Below.refl _ _).alloc (Nat.le_refl _) _)
    · simp [World.iter]
    · exact ((Below.refl _ w).alloc (Nat.le_refl _) _).alloc (by simp) _
  case round =>
    obtain ⟨pos, l, nx, ph, m, hph, hp, hit, hP, hI, hb⟩ := hrel
    have HIt := hid hit
    have HP := hid hP
    have HI := hid hI
    have HB := hid hb
    clear hP hI hb
    by_cases hlt : pos < t.size
    · have hnx := fun ty => Lib.run_next_any_at (P := Tryd.prog) wr (w.heap.size + 1) t pos ty hit hlt
      obtain ⟨W2, hW2⟩ : ∃ W2, wr.iterAt (w.heap.size + 1) t (pos + (Utf8.decode t pos).2) = W2 := ⟨_, rfl⟩
      rw [hW2] at hnx
      have HP2 := hid (show PT W2 _ _ l nx from hW2 ▸ HP.out.iter hit _)
      have HIt2 := hid (show W2.heap[w.heap.size + 1]? = some (.stringIter t (pos + (Utf8.decode t pos).2)) from hW2 ▸ Lib.iterAt_heap wr _ t pos _ hit)
      have HB2 := hid (show Below w.heap.size w W2 from hW2 ▸ Lib.below_iterAt HB.out (by omega) t _)
      clear hW2 hit
      rcases tk_step t pos hlt l nx ph m hph W2 w.heap.size (w.heap.size + 2) HI.out HP2.out with ht | ⟨l', nx', ph', m', hph', h1, ht, hi'⟩
      · have HT := hid ht
        clear ht
        go_wp2_with (go_at_call 30; refine HT.out.mono ?_; rintro e w3 ⟨a3, k3, rfl, hk3, hb3⟩; have HB3 := hid hb3; have HK3 := hid hk3; have k1 : ((k3 : Int) == 0) = false := (by simp; omega); have k2 : ((k3 : Int) != 0) = true := (by simp; omega); clear hb3 hk3)
        go_ret3
        exact ⟨HB2.out.trans HB3.out, .inl ⟨_, _, rfl, HK3.out⟩⟩
      · have HT := hid ht
        have HI' := hid hi'
        have H1 := hid h1
        clear ht hi' h1
        go_wp2_with (go_at_call 30; refine HT.out.mono ?_; rintro e w3 ⟨rfl, hP3, hb3, ho3⟩; have HB3 := hid hb3; have HP3 := hid hP3; have HO3 := hid ho3; clear hb3 hP3 ho3)
        go_roundw
        case rel =>
          exact ⟨pos + (Utf8.decode t pos).2, l', nx', ph', m', hph', by rw [H1.out]; omega, HO3.out.iter HIt2.out (by omega), HP3.out, HI'.out, HB2.out.trans HB3.out⟩
        case measure =>
          rw [iterPos_at' HIt.out, iterPos_at' (HO3.out.iter HIt2.out (by omega)), H1.out]
          omega
    · have hnx := fun ty => Lib.run_next_end_at (P := Tryd.prog) wr (w.heap.size + 1) t pos ty hit hlt
      have hpe : pos = t.size := by omega
      subst hpe
      rcases tk_end t l nx ph m hph wr w.heap.size (w.heap.size + 2) HI.out HP.out with ht | ⟨ht, hv⟩
      · have HT := hid ht
        clear ht hit
        go_wp2_with (go_at_call 30; refine HT.out.mono ?_; rintro e w3 ⟨a3, k3, rfl, hk3, hb3⟩; have HB3 := hid hb3; have HK3 := hid hk3; have k1 : ((k3 : Int) == 0) = false := (by simp; omega); have k2 : ((k3 : Int) != 0) = true := (by simp; omega); clear hb3 hk3)
        go_ret3
        exact ⟨HB.out.trans HB3.out, .inl ⟨_, _, rfl, HK3.out⟩⟩
      · have HT := hid ht
        have HV := hid hv
        have HL8 := hid HI.out.len8
        clear ht hv hit
        go_wp2_with (go_at_call 30; refine HT.out.mono ?_; rintro e w3 ⟨rfl, ⟨v3, hh3, hown3, hb3', hB3'⟩, hb3, ho3⟩; have HB3 := hid hb3; obtain ⟨p3, c3, rfl, hc3, hg3⟩ := pg_own hown3; have x0 := (parts_cells hh3).1.1; have HG3 := hid hg3; have HC3 := hid hc3; clear hb3 ho3 hh3 hown3 hb3' hB3' hc3 hg3)
        go_ret3
        exact ⟨HB.out.trans HB3.out, .inr ⟨p3, c3, l, rfl, HC3.out, HL8.out, HG3.out, HV.out⟩⟩
end Go.Proofs.YtmnolfaejneomaaDoor
