/-
  law08.slot: a request's bytes.
-/
import Derived.Test.YtgnihllnjaagcaaRgOne
import Derived.WalkSpells
import Derived.Laws.MakeOwn
set_option linter.unusedSimpArgs false
set_option linter.unusedVariables false
namespace Go.Proofs.Ytgnihllnjaagcaa
open Go.RowKit
set_option maxHeartbeats 1000000

/-- the first j bytes are laid, the others are 0 -/
def slotX (id j : Nat) (k : Nat) : Value := if k < j then .int .u8 ((id + k) % 256 : Nat) else .int .u8 0
theorem slot_make (W : World) (n : Nat) (hn : n ≤ 256) : ∃ cs : Array Value, (Instr.makeSlice 31 (.int .i64 n) (.int .i64 n)).run Try.prog W = .ok (.slice (some ⟨W.heap.size, 0, none⟩) n n) (W.alloc (.cells cs 5)) ∧ Row (W.alloc (.cells cs 5)) W.heap.size 5 n (slotX 0 0) := by
  obtain ⟨i0, hi, hz0, hz1, hz2⟩ := info_parts info_u8
  have hr := run_make W 31 5 i0 (.int .u8 0) Try.underlying31 hi hz0 .i64 .i64 n n (by omega) (by omega) (by rw [hz2]; omega) (by omega)
  rw [hz1] at hr
  simp only [Int.toNat_natCast, Nat.mul_one] at hr
  refine ⟨_, hr, _, heap_alloc_new W _, by rw [size_madeCells]; omega, fun k hk => ?_⟩
  simp [madeCells, hk, Nat.mod_one, slotX, Value.cells]
set_option maxRecDepth 100000 in
theorem sSlot (n id : Nat) (w : World) (hn : n ≤ 256) (hid' : id < 256) : Calls Try.prog 43 #[.int .i64 n, .int .u8 id] w fun e w' => ∃ g, w.heap.size ≤ g ∧ e = .returned (.slice (some ⟨g, 0, none⟩) n n) ∧ Row w' g 5 n (fun k => .int .u8 ((slotV n id).getD k 0).toNat) ∧ w.grownBy w' none := by
  obtain ⟨cs, hmk, hr⟩ := slot_make w n hn
  have HR := hid hr
  have hn0 : (0 : Int) ≤ n := by omega
  clear hr
  go_enter Try.func43, Try.ntmps43
  go_wp2
  obtain ⟨G, hG⟩ : ∃ G, w.heap.size = G := ⟨_, rfl⟩
  have HG := hid hG
  rw [hG]
  obtain ⟨W1, hW1⟩ : ∃ W1, w.alloc (.cells cs 5) = W1 := ⟨_, rfl⟩
  have g1 := hid (show w.grownBy W1 none from hW1 ▸ World.grownBy_alloc _ _ none)
  rw [hW1, hG] at HR
  rw [hW1]
  clear hmk hG hW1
  go_loopw [6] (fun i wr => ∃ k : Nat, i = .int .i64 k ∧ k ≤ n ∧ Row wr G 5 n (slotX id k) ∧ w.grownBy wr none) (fun i _ => n - (intOf i).toNat)
  case atStart => exact ⟨0, rfl, by omega, HR.out.congr fun k hk => by simp [slotX], g1.out⟩
  case round =>
    clear HR g1
    obtain ⟨k, rfl, hk, hr, hg⟩ := hrel
    have HR := hid hr
    have HGr := hid hg
    clear hg
    have hk0 : (0 : Int) ≤ k := by omega
    by_cases hkn : k < n
    · have hkn' : (k : Int) < n := by omega
      have c0 := hr.cell hkn
      have f0 := hr.frozen k
      have hb : IntKind.u8.wrap ((id : Int) + (k : Int)) = ((id + k) % 256 : Nat) := by simp only [IntKind.wrap, IntKind.bits, IntKind.signed]; simp
      have hx : slotX id k k = .int .u8 0 := by simp [slotX]
      rw [hx] at c0
      clear hr hx
      go_wp2
      go_roundw
      case rel =>
        refine ⟨k + 1, by go_num, by omega, HR.out.set (k := k) ?_ fun j hj hne => ?_, HGr.out.andThen (grownBy_setCell wr G k none _) fun j e => .inl (by cases e; have := HG.out; omega)⟩
        · unfold slotX
          rw [if_pos (by omega)]
          rfl
        · unfold slotX
          by_cases e : j < k
          · rw [if_pos e, if_pos (by omega)]
          · rw [if_neg e, if_neg (by omega)]
      case measure => simp [intOf]; omega
    · obtain rfl : k = n := by omega
      have hge : (k : Int) ≤ k := by omega
      go_wp2
      go_ret
      refine ⟨G, by have := HG.out; omega, rfl, HR.out.congr fun j hj => ?_, HGr.out⟩
      rw [slotV_get _ _ _ hj, UInt8.toNat_ofNat']
      simp only [slotX, if_pos hj]
      congr 1
      omega
end Go.Proofs.Ytgnihllnjaagcaa
