/-
  Package tenementref02 over the reference's machine: the view in block U; New, Rest.
-/
import Derived.Test.YtgnihllnjaagcaaVRest
import Derived.Test.YtgnihllnjaagcaaVStr
import Derived.Deep.QuietTactic
import Derived.BigQuiet
set_option linter.unusedSimpArgs false
set_option linter.unusedVariables false
namespace Go.Proofs.Ytgnihllnjaagcaa
open Go.RowKit
set_option maxHeartbeats 4000000

def rvTop (b : Nat) (pa : Option Addr) (len cap : Nat) (n : Int) (k : Nat) : Value := if k = 0 then .pointer (some ⟨b, 0, none⟩) else if k = 1 then .slice pa len cap else .int .i64 n
/-- the reference's view in block U over the machine in block b, before read n -/
def RV (w : World) (U b : Nat) (pa : Option Addr) (len cap : Nat) (n : Int) : Prop := Row w U 57 3 (rvTop b pa len cap n)
section
variable {w : World} {U b : Nat} {pa : Option Addr} {len cap : Nat} {n : Int}
theorem RV.c0 (h : RV w U b pa len cap n) : w.cell? ⟨U, 0, none⟩ = some (.pointer (some ⟨b, 0, none⟩)) := Row.cell h (k := 0) (by omega)
theorem RV.c1 (h : RV w U b pa len cap n) : w.cell? ⟨U, 1, none⟩ = some (.slice pa len cap) := Row.cell h (k := 1) (by omega)
theorem RV.c2 (h : RV w U b pa len cap n) : w.cell? ⟨U, 2, none⟩ = some (.int .i64 n) := Row.cell h (k := 2) (by omega)
end
set_option maxRecDepth 100000 in
theorem rvNew_long (b : Nat) (pa : Option Addr) (len cap : Nat) (w : World) (h : 64 < len) : Calls Try.prog 21 #[.pointer (some ⟨b, 0, none⟩), .slice pa len cap] w fun e w' => e = .returned (.tuple #[.pointer none, .int .i64 2]) ∧ w = w' := by
  have h' : (64 : Int) < len := by omega
  go_enter Try.func21, Try.ntmps21
  go_wp2
  go_ret2
  exact ⟨rfl, rfl⟩
set_option maxRecDepth 100000 in
theorem rvNew (b : Nat) (pa : Option Addr) (len cap : Nat) (w : World) (h : len ≤ 64) : Calls Try.prog 21 #[.pointer (some ⟨b, 0, none⟩), .slice pa len cap] w fun e w' => e = .returned (.tuple #[.pointer (some ⟨w.heap.size, 0, none⟩), .int .i64 0]) ∧ RV w' w.heap.size b pa len cap 0 ∧ w.grownBy w' none := by
  have h' : (len : Int) ≤ 64 := by omega
  go_enter Try.func21, Try.ntmps21
  go_wp2
  go_ret2
  refine ⟨rfl, ⟨_, heap_alloc_new w _, by simp, fun k hk => by match k, hk with | 0, _ => rfl | 1, _ => rfl | 2, _ => rfl⟩, World.grownBy_alloc w _ none⟩
def cntT (l : List PokeV) (n : Nat) (k : Nat) : Nat := ((l.take k).filter fun p => decide ((n : Int) ≤ p.t)).length
theorem cntT_le (l : List PokeV) (n k : Nat) : cntT l n k ≤ k := Nat.le_trans (List.length_filter_le _ _) (by simp; omega)
theorem cntT_all (l : List PokeV) (n : Nat) : cntT l n l.length = restN l n := by simp [cntT, restN]
theorem cntT_yes (l : List PokeV) (n k : Nat) (h : k < l.length) (hy : (n : Int) ≤ l[k].t) : cntT l n (k + 1) = cntT l n k + 1 := by
  unfold cntT
  rw [List.take_add_one, List.getElem?_eq_getElem h, List.filter_append]
  simp [hy]
theorem cntT_no (l : List PokeV) (n k : Nat) (h : k < l.length) (hy : ¬ (n : Int) ≤ l[k].t) : cntT l n (k + 1) = cntT l n k := by
  unfold cntT
  rw [List.take_add_one, List.getElem?_eq_getElem h, List.filter_append]
  simp [hy]
set_option maxRecDepth 100000 in
theorem rvRest (U b : Nat) (pa : Option Addr) (cap : Nat) (l : List PokeV) (n : Nat) (w : World) (h : RV w U b pa l.length cap n) (hp : PokesIn w pa l) (hl : l.length ≤ 64) :
    Calls Try.prog 25 #[.pointer (some ⟨U, 0, none⟩)] w fun e w' => e = .returned (.int .i64 (restN l n)) ∧ w.grownBy w' none := by
  have H := hid h; have HP := hid hp
  clear h hp
  go_enter Try.func25, Try.ntmps25
  go_wp2
  go_loopw [3, 4] (fun c x wr => ∃ k : Nat, x = .int .i64 k ∧ k ≤ l.length ∧ c = .int .i64 (cntT l n k) ∧ RV wr U b pa l.length cap n ∧ PokesIn wr pa l ∧ w.grownBy wr none) (fun _ x _ => l.length - (intOf x).toNat)
  case atStart => exact ⟨0, rfl, by omega, by simp [cntT], H.out, HP.out, World.grownBy.refl _ _⟩
  case round =>
    obtain ⟨k, rfl, hk, rfl, hv, hp, hg⟩ := hrel
    have hc1 := hv.c1; have hc2 := hv.c2
    have HV := hid hv; have HPw := hid hp; have HG := hid hg
    clear hv hg H HP
    have hk0 : (0 : Int) ≤ k := by omega
    by_cases hkl : k < l.length
    · have hkl' : (k : Int) < l.length := by omega
      obtain ⟨pb, po, qa, qc, rfl, _, d0, _⟩ := hp k hkl
      have hb := cntT_le l n k
      by_cases hy : (n : Int) ≤ l[k].t
      · have HC := hid (cntT_yes l n k hkl hy)
        go_upto_region 5 with (fail)
        go_quiet (fail)
        go_wp2
        go_roundw
        case rel => exact ⟨k + 1, by go_num, by omega, by rw [HC.out]; go_num, Row.grown HV.out (grownBy_drewN _ _ none) (by simp), HPw.out.grown (grownBy_drewN _ _ none), HG.out.trans (grownBy_drewN _ _ none)⟩
        case measure => simp [intOf]; omega
      · have HC := hid (cntT_no l n k hkl hy)
        have hy' : l[k].t < (n : Int) := by omega
        go_upto_region 5 with (fail)
        go_quiet (fail)
        go_wp2
        go_roundw
        case rel => exact ⟨k + 1, by go_num, by omega, by rw [HC.out], Row.grown HV.out (grownBy_drewN _ _ none) (by simp), HPw.out.grown (grownBy_drewN _ _ none), HG.out.trans (grownBy_drewN _ _ none)⟩
        case measure => simp [intOf]; omega
    · obtain rfl : k = l.length := by omega
      have hge : ¬ (l.length : Int) < l.length := by omega
      clear hp
      go_wp2
      go_ret
      exact ⟨by rw [cntT_all]; rfl, HG.out⟩
end Go.Proofs.Ytgnihllnjaagcaa
