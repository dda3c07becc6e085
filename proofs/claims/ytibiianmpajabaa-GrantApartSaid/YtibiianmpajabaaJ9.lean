/-
  Package grant: Unpack of both sides, of any bytes.
-/
import Derived.Test.YtibiianmpajabaaGrE
import Derived.Test.YtibiianmpajabaaBytesIn
import Derived.Deep.RegionHeld3
import Derived.Deep.QuietTactic
import Derived.Deep.AppendLies
import Derived.Laws.IdiomStrings
set_option linter.unusedSimpArgs false
set_option linter.unusedVariables false
namespace Go.Proofs.Ytibiianmpajabaa
open Go.RowKit
set_option maxHeartbeats 4000000
theorem gWd {g o c : Nat} {b : Nat → Nat} {w : World} (h : B8 w g o b) : ∀ w', w.grownBy w' none → WdAt g o c 0 ((b 0 + 256 * b 1 : Nat) : Int) w' ∧ WdAt g o c 2 ((b 2 + 256 * b 3 : Nat) : Int) w' ∧ WdAt g o c 4 ((b 4 + 256 * b 5 : Nat) : Int) w' := fun w' hg => by
  have h' := h.grown hg
  have drew : ∀ n, w'.grownBy (w'.drewN n) none := fun n => grownBy_drewN w' n none
  exact ⟨(gWordAt0 g o c b w' h').mono fun e w2 ⟨he, n, hw⟩ => ⟨he, hw ▸ drew n⟩, (gWordAt2 g o c b w' h').mono fun e w2 ⟨he, n, hw⟩ => ⟨he, hw ▸ drew n⟩, (gWordAt4 g o c b w' h').mono fun e w2 ⟨he, n, hw⟩ => ⟨he, hw ▸ drew n⟩⟩
theorem gPn8 (g o c : Nat) (b : Nat → Nat) (w : World) (h : B8 w g o b) : Calls Try.prog 137 #[.slice (some ⟨g, o, none⟩) 8 c] w fun e w' => e = .returned (.tuple #[(unG b).1.val, .int .i64 (unG b).2]) ∧ w.grownBy w' none := by
  rw [unP b h.lt]
  have l0 := h.lt 0 (by omega); have l1 := h.lt 1 (by omega); have l6 := h.lt 6 (by omega); have l7 := h.lt 7 (by omega)
  have c6 := h.c 6 (by omega); have c7 := h.c 7 (by omega)
  have hf : b 0 + 256 * b 1 < 65536 := by omega
  have H0 := fun w' hg => ((gWd (c := c) h) w' hg).1
  have H2 := fun w' hg => ((gWd (c := c) h) w' hg).2.1
  have H4 := fun w' hg => ((gWd (c := c) h) w' hg).2.2
  have e3 := and3 _ hf
  have e4 := and4 _ hf
  have e8 := and8 _ hf
  have hpk := fun w' => gPacks (gpV b) w' (by unfold gpV; simp only; split <;> omega)
  cases hs : decide ((b 0 + 256 * b 1) / 8 % 2 = 1) with
  | false =>
    rw [hs] at e8
    have ev : (gpV b).val = .agg #[.int .i64 ((b 0 + 256 * b 1) % 4 : Nat), .bool (decide ((b 0 + 256 * b 1) / 4 % 2 = 1)), .bool false, .int .i64 (b 2 + 256 * b 3 : Nat), .int .i64 (b 4 + 256 * b 5 : Nat), .int .i64 0, .int .i64 256] := by unfold gpV GV.val; rw [hs]; rfl
    rw [ev] at hpk
    by_cases hb : 15 < b 0 + 256 * b 1
    · rw [if_pos (.inl hb)]
      exact gPn_all_big g o c _ _ _ _ _ w H0 H2 H4 e3 e4 e8 (by simp; omega)
    · cases hp : packV (gpV b) with
      | false =>
        rw [hp] at hpk
        rw [if_pos (.inr rfl)]
        exact gPn_all_bad g o c _ _ _ _ _ w H0 H2 H4 e3 e4 e8 (by simp; omega) hpk
      | true =>
        rw [hp] at hpk
        rw [if_neg (by simp; omega), ev]
        exact gPn_all_ok g o c _ _ _ _ _ w H0 H2 H4 e3 e4 e8 (by simp; omega) hpk
  | true =>
    rw [hs] at e8
    have ev : (gpV b).val = .agg #[.int .i64 ((b 0 + 256 * b 1) % 4 : Nat), .bool (decide ((b 0 + 256 * b 1) / 4 % 2 = 1)), .bool true, .int .i64 (b 2 + 256 * b 3 : Nat), .int .i64 (b 4 + 256 * b 5 : Nat), .int .i64 (b 6 : Nat), .int .i64 ((b 7 : Nat) + 1)] := by unfold gpV GV.val; rw [hs]; simp
    rw [ev] at hpk
    by_cases hb : 15 < b 0 + 256 * b 1
    · rw [if_pos (.inl hb)]
      exact gPn_sub_big g o c _ _ _ _ _ _ _ w H0 H2 H4 e3 e4 e8 (by simp; omega) c6 c7 l6 l7
    · cases hp : packV (gpV b) with
      | false =>
        rw [hp] at hpk
        rw [if_pos (.inr rfl)]
        exact gPn_sub_bad g o c _ _ _ _ _ _ _ w H0 H2 H4 e3 e4 e8 (by simp; omega) hpk c6 c7 l6 l7
      | true =>
        rw [hp] at hpk
        rw [if_neg (by simp; omega), ev]
        exact gPn_sub_ok g o c _ _ _ _ _ _ _ w H0 H2 H4 e3 e4 e8 (by simp; omega) hpk c6 c7 l6 l7
/-- bytes that lie somewhere -/
def BG (w : World) (p : Option Addr) (l : List UInt8) : Prop := ∀ k, k < l.length → ∃ g o, p = some ⟨g, o, none⟩ ∧ w.cell? ⟨g, o + k, none⟩ = some (.int .u8 (l.getD k 0).toNat)
theorem BG.grown {w w' : World} {p : Option Addr} {l : List UInt8} (h : BG w p l) (hg : w.grownBy w' none) : BG w' p l := fun k hk => by
  obtain ⟨g, o, e, hc⟩ := h k hk
  exact ⟨g, o, e, hg.cell hc (by simp)⟩
theorem BG.b8 {w : World} {p : Option Addr} {l : List UInt8} (h : BG w p l) (hl : l.length = 8) : ∃ g o, p = some ⟨g, o, none⟩ ∧ B8 w g o (fun k => (l.getD k 0).toNat) := by
  obtain ⟨g, o, rfl, _⟩ := h 0 (by omega)
  refine ⟨g, o, rfl, fun k hk => ?_, fun k _ => UInt8.toNat_lt _⟩
  obtain ⟨g', o', e, hc⟩ := h k (by omega)
  cases e
  exact hc
def unpG (l : List UInt8) : GV × Int := if l.length = 8 then unG (fun k => (l.getD k 0).toNat) else (g0, 1)
theorem gPn (l : List UInt8) (p : Option Addr) (c : Nat) (w : World) (h : BG w p l) : Calls Try.prog 137 #[.slice p l.length c] w fun e w' => e = .returned (.tuple #[(unpG l).1.val, .int .i64 (unpG l).2]) ∧ w.grownBy w' none := by
  unfold unpG
  by_cases hl : l.length = 8
  · obtain ⟨g, o, rfl, hb⟩ := h.b8 hl
    rw [if_pos hl, hl]
    exact gPn8 g o c _ w hb
  · rw [if_neg hl]
    exact gPn_len p l.length c w hl
theorem gUn (l : List UInt8) (p : Option Addr) (c : Nat) (w : World) (h : BG w p l) : Calls Try.prog 116 #[.slice p l.length c] w fun e w' => e = .returned (.tuple #[(unpG l).1.val, .int .i64 (unpG l).2]) ∧ w.grownBy w' none := by
  unfold unpG
  by_cases hl : l.length = 8
  · obtain ⟨g, o, rfl, hb⟩ := h.b8 hl
    rw [if_pos hl, hl]
    exact gUn8 g o c _ w hb
  · rw [if_neg hl]
    exact gUn_len p l.length c w hl
theorem unpG_e (l : List UInt8) : (unpG l).2 = 0 ∨ (unpG l).2 = 1 ∨ (unpG l).2 = 60 := by
  unfold unpG
  split
  · unfold unG
    split
    · exact .inr (.inr rfl)
    · split
      · split
        · exact .inr (.inr rfl)
        · exact .inl rfl
      · exact .inl rfl
  · exact .inr (.inl rfl)
theorem BG.of_in {w : World} {p : Option Addr} {l : List UInt8} (h : InBytes w p l) : BG w p l := fun k hk => by
  rcases h with rfl | ⟨b, o, rfl, _, hc⟩
  · cases hk
  · exact ⟨b, o, rfl, hc k hk⟩
theorem BG.of_own {W : World} {base : Nat} {v : Value} {l : List UInt8} (h : W.ownsRow base 5 1 v l.length (bcells l)) : ∃ p c, v = .slice p l.length c ∧ l.length ≤ c ∧ BG W p l := by
  have hh := h
  rcases h.2 with ⟨rfl, h0⟩ | ⟨g, cap, cur, rfl, hb, hg, hc, _⟩
  · have : l = [] := List.eq_nil_of_length_eq_zero h0
    subst this
    exact ⟨none, 0, rfl, Nat.le_refl _, fun k hk => by cases hk⟩
  · refine ⟨_, _, rfl, hc, fun k hk => ⟨g, 0, rfl, ?_⟩⟩
    rw [Nat.zero_add, hh.cellAt k (by omega), bcells_get]
    simp [List.getD, List.getElem?_eq_getElem hk]
end Go.Proofs.Ytibiianmpajabaa

/-
  Package grant: Pack.
-/
set_option linter.unusedSimpArgs false
set_option linter.unusedVariables false
namespace Go.Proofs.Ytibiianmpajabaa
open Go.RowKit
set_option maxHeartbeats 4000000
def le2 (n : Nat) : List UInt8 := [UInt8.ofNat (n % 256), UInt8.ofNat (n / 256)]
theorem info_u8' : (Try.prog.info? 5).map (fun i => (i.zero, i.size, i.bytes)) = some (some (.int .u8 0), 1, 1) := by kernel_rfl
theorem bcells_le2 (n : Nat) (hn : n < 65536) : bcells (le2 n) = [.int .u8 (n % 256 : Nat), .int .u8 (n / 256 : Nat)] := by
  have h1 : (n / 256) % 256 = n / 256 := by omega
  simp [bcells, le2]
  omega
def ByPost (n : Nat) (w : World) (e : Ending) (w' : World) : Prop := e = .returned (.slice (some ⟨w.heap.size, 0, none⟩) 2 2) ∧ w'.ownsRow w.heap.size 5 1 (.slice (some ⟨w.heap.size, 0, none⟩) 2 2) 2 (bcells (le2 n)) ∧ w.grownBy w' none
theorem gBytes (n : Nat) (hn : n < 65536) (w : World) : Calls Try.prog 121 #[.int .i64 n] w (ByPost n w) := by
  go_enter Try.func121, Try.ntmps121
  go_wp2
  go_ret
  refine ⟨rfl, ?_, World.grownBy_alloc _ _ _⟩
  rw [bcells_le2 n hn]
  exact ⟨rfl, .inr ⟨w.heap.size, 2, _, rfl, Nat.le_refl _, heap_alloc_new w _, Nat.le_refl _, by decide, rfl, rfl⟩⟩
theorem or4 (k : Nat) (h : k ≤ 2) : bits .or .i64 (k : Int) 4 = ((k + 4 : Nat) : Int) := by
  have : k = 0 ∨ k = 1 ∨ k = 2 := by omega
  rcases this with rfl | rfl | rfl <;> rfl
theorem or8 (k : Nat) (h : k ≤ 6) : bits .or .i64 (k : Int) 8 = ((k + 8 : Nat) : Int) := by
  have : k = 0 ∨ k = 1 ∨ k = 2 ∨ k = 3 ∨ k = 4 ∨ k = 5 ∨ k = 6 := by omega
  rcases this with rfl | rfl | rfl | rfl | rfl | rfl | rfl <;> rfl
end Go.Proofs.Ytibiianmpajabaa

/-
  Package grant: Pack of an entry that packs.
-/
set_option linter.unusedSimpArgs false
set_option linter.unusedVariables false
namespace Go.Proofs.Ytibiianmpajabaa
open Go.RowKit
set_option maxHeartbeats 4000000
theorem own_le {w : World} {B B' : Nat} {e : TypeId} {s n : Nat} {xs : List Value} {v : Value} (h : w.ownsRow B e s v n xs) (hb : B' ≤ B) : w.ownsRow B' e s v n xs := by
  refine ⟨h.1, ?_⟩
  rcases h.2 with h2 | ⟨g, cap, cur, rfl, hb', r⟩
  · exact .inl h2
  · exact .inr ⟨g, cap, cur, rfl, by omega, r⟩
theorem own_grown {w w' : World} {B : Nat} {e : TypeId} {s n : Nat} {xs : List Value} {v : Value} (h : w.ownsRow B e s v n xs) (hg : w.grownBy w' none) : w'.ownsRow B e s v n xs := by
  refine ⟨h.1, ?_⟩
  rcases h.2 with h2 | ⟨g, cap, cur, rfl, hb', hg', r⟩
  · exact .inl h2
  · exact .inr ⟨g, cap, cur, rfl, hb', (hg.block g (Array.getElem?_eq_some_iff.1 hg').1 (by simp)).trans hg', r⟩
theorem own_apart {w : World} {B k : Nat} {e : TypeId} {s n : Nat} {xs : List Value} {v : Value} (h : w.ownsRow B e s v n xs) (hk : k < B) : some k ≠ v.ownBlock := by
  rcases h.2 with ⟨rfl, _⟩ | ⟨g, cap, cur, rfl, hb', _⟩
  · simp [Value.ownBlock]
  · simp [Value.ownBlock]; omega
theorem own_news {w : World} {B g c n : Nat} {l : List UInt8} (h : w.ownsRow B 5 1 (.slice (some ⟨g, 0, none⟩) n c) n (bcells l)) : ∀ j u, (bcells l)[j]? = some u → w.cell? ((⟨g, 0, none⟩ : Addr).add j) = some u := fun j u hu => by
  have hj := (List.getElem?_eq_some_iff.1 hu).1
  have hn : (bcells l).length = n * 1 := h.1
  have e : (⟨g, 0, none⟩ : Addr).add j = ⟨g, j, none⟩ := by unfold Addr.add; split <;> simp_all
  rw [e, h.cellAt j (by omega)]
  exact hu
theorem bcells_app (a b : List UInt8) : bcells (a ++ b) = bcells a ++ bcells b := by simp [bcells]
theorem rowB (w : World) (v0 v1 v2 v3 v4 v5 v6 : Value) : Row (w.alloc (.cells #[v0, v1, v2, v3, v4, v5, v6] 77)) w.heap.size 77 7 (sevV v0 v1 v2 v3 v4 v5 v6) :=
  ⟨_, heap_alloc_new w _, by simp, fun k hk => by match k, hk with | 0, _ => rfl | 1, _ => rfl | 2, _ => rfl | 3, _ => rfl | 4, _ => rfl | 5, _ => rfl | 6, _ => rfl⟩
theorem grown_cell {w w' : World} {k o : Nat} {v : Value} {row : Option Nat} (hg : w.grownBy w' row) (hk : some k ≠ row) (h : w.cell? ⟨k, o, none⟩ = some v) : w'.cell? ⟨k, o, none⟩ = some v := by
  have hlt := World.block_lt_of_cell? w _ h
  rw [World.cell?_of_block (a := ⟨k, o, none⟩) (hg.block k hlt hk)]
  exact h
theorem own_some {w : World} {B : Nat} {e : TypeId} {s n : Nat} {xs : List Value} {v : Value} (h : w.ownsRow B e s v n xs) (hn : 0 < n) : ∃ g c, v = .slice (some ⟨g, 0, none⟩) n c := by
  rcases h.2 with ⟨_, h0⟩ | ⟨g, cap, cur, rfl, _⟩
  · omega
  · exact ⟨g, cap, rfl⟩
theorem grow_own {w X Y : World} {e : TypeId} {s n : Nat} {xs : List Value} {v : Value} (hg : w.grownBy X none) (h : X.ownsRow (w.heap.size + 1) e s v n xs) (hY : X.grownBy Y v.ownBlock) : w.grownBy Y none :=
  hg.andThen hY (fun j hj => .inl (Classical.byContradiction fun hlt => own_apart (k := j) h (by omega) hj.symm))
theorem bcells_two (a b : Nat) (ha : a < 256) (hb : b < 256) : bcells [UInt8.ofNat a, UInt8.ofNat b] = [.int .u8 a, .int .u8 b] := by
  simp [bcells]
  omega
theorem bcells_last : bcells [UInt8.ofNat 0, UInt8.ofNat 255] = [.int .u8 0, .int .u8 255] := by rw [bcells_two 0 255 (by decide) (by decide)]; rfl
def pkB (fl d p off ln1 : Nat) : List UInt8 := le2 fl ++ le2 d ++ le2 p ++ [UInt8.ofNat off, UInt8.ofNat ln1]
theorem pkB_len (fl d p off ln1 : Nat) : (pkB fl d p off ln1).length = 8 := rfl
def PkPost (l : List UInt8) (w : World) (e : Ending) (w' : World) : Prop := ∃ p c, e = .returned (.tuple #[.slice p l.length c, .int .i64 0]) ∧ w'.ownsRow (w.heap.size + 1) 5 1 (.slice p l.length c) l.length (bcells l) ∧ w.grownBy w' none
theorem gPk_no (k : Int) (ro sub : Bool) (d p off ln : Int) (w : World) (hp : ∀ w', Calls Try.prog 120 #[.agg #[.int .i64 k, .bool ro, .bool sub, .int .i64 d, .int .i64 p, .int .i64 off, .int .i64 ln]] w' fun e w'' => e = .returned (.bool false) ∧ w'.grownBy w'' none) :
    Calls Try.prog 57 #[.agg #[.int .i64 k, .bool ro, .bool sub, .int .i64 d, .int .i64 p, .int .i64 off, .int .i64 ln]] w fun e w' => e = .returned (.tuple #[.slice none 0 0, .int .i64 1]) ∧ w.grownBy w' none := by
  have HP := hid hp
  clear hp
  go_enter Try.func57, Try.ntmps57
  go_wp2_with (go_at_call 120; refine (HP.out _).mono ?_; rintro e w1 ⟨rfl, g1⟩; have HG1 := hid ((World.grownBy_alloc w _ none).trans g1); clear g1)
  go_ret2
  exact ⟨rfl, HG1.out⟩
set_option maxRecDepth 100000 in
theorem gPk_rs (k k1 fl d p off ln : Nat) (w : World) (hk : k ≤ 2) (hfl : fl < 16) (hd : d < 65536) (hpp : p < 65536) (hof : off < 256) (hl0 : 1 ≤ ln) (hl1 : ln ≤ 256) (e1 : bits .or .i64 (k : Int) 4 = (k1 : Int)) (e2 : bits .or .i64 (k1 : Int) 8 = (fl : Int)) 
    (hp : ∀ w', Calls Try.prog 120 #[.agg #[.int .i64 k, .bool true, .bool true, .int .i64 d, .int .i64 p, .int .i64 off, .int .i64 ln]] w' fun e w'' => e = .returned (.bool true) ∧ w'.grownBy w'' none) :
    Calls Try.prog 57 #[.agg #[.int .i64 k, .bool true, .bool true, .int .i64 d, .int .i64 p, .int .i64 off, .int .i64 ln]] w (PkPost (pkB fl d p off (ln - 1)) w) := by
  skip
  have HP := hid hp
  have HBf := hid fun w' => gBytes fl (by omega) w'
  have HBd := hid fun w' => gBytes d (by omega) w'
  have HBp := hid fun w' => gBytes p (by omega) w'
  obtain ⟨i0, hi, hz⟩ := Option.map_eq_some_iff.1 info_u8'
  simp only [Prod.mk.injEq] at hz
  have Hi := hid hi; have Hz0 := hid hz.1; have Hz1 := hid hz.2.1; have Hz2 := hid hz.2.2
  have HRB := hid (rowB w (.int .i64 k) (.bool true) (.bool true) (.int .i64 d) (.int .i64 p) (.int .i64 off) (.int .i64 ln))
  clear hp hi hz
  go_enter Try.func57, Try.ntmps57
  go_wp2_with (go_at_call 120; refine (HP.out _).mono ?_; rintro e w1 ⟨rfl, g1⟩; have HG1 := hid ((World.grownBy_alloc w _ none).trans g1); have R1 := hid (HRB.out.grown g1 (by simp)); have y0 := R1.out.cell (k := 0) (by omega); have y1 := R1.out.cell (k := 1) (by omega); have y2 := R1.out.cell (k := 2) (by omega); have y3 := R1.out.cell (k := 3) (by omega); have y4 := R1.out.cell (k := 4) (by omega); have y5 := R1.out.cell (k := 5) (by omega); have y6 := R1.out.cell (k := 6) (by omega); have yz := R1.out.frozen; simp only [sevV, List.getD_cons_zero, List.getD_cons_succ] at y0 y1 y2 y3 y4 y5 y6; clear g1)
  have HG2 := hid HG1.out
  clear y0 y1 y2 yz
  have HYS := hid (And.intro y4 (And.intro y5 y6))
  clear y4 y5 y6
  have hW0 := HG2.out.size
  have HW0 := hid (show w.heap.size + 1 ≤ w1.heap.size from World.block_lt_of_cell? w1 _ y3)
  clear hW0
  go_region_held3 (fun w' => w'.cell? ⟨w.heap.size, 3, none⟩ = some (.int .i64 d)) (first | assumption | go_keep)
    (first
     | (go_at_call 121; first
       | ((with_reducible refine (HBf.out _).mono ?_); rintro e wa ⟨rfl, oa, ga⟩; have GA := hid (show w1.grownBy wa none from (grownBy_drew w1 none).trans ga); have OA := hid (show wa.ownsRow (w.heap.size + 1) 5 1 (.slice (some ⟨w1.heap.size, 0, none⟩) 2 2) 2 (bcells (le2 fl)) from own_le oa HW0.out); have s3 := GA.out.cell y3 (by simp); clear oa ga)
       | ((with_reducible refine (HBd.out _).mono ?_); rintro e wb ⟨rfl, ob, gb⟩; have GB := hid gb; have OB := hid ob; have OA2 := hid (own_grown OA.out gb); have t3 := GB.out.cell s3 (by simp); have NW := hid (own_news OB.out); have LN := hid (show (bcells (le2 d)).length = 2 * 1 by rw [bcells_len]; rfl); have BZ := hid (show w.heap.size + 1 ≤ wb.heap.size from Nat.le_trans HW0.out (Nat.le_trans GA.out.size GB.out.size)); have ON := hid (bcells_one (le2 d)); clear s3 ob gb))
     | (refine step_append_lies wb (by rfl) _ _ 31 (by rfl) (w.heap.size + 1) 5 i0 (.int .u8 0) 1 1 Try.underlying31 Hi.out Hz0.out Hz1.out Hz2.out rfl (by decide) (.slice (some ⟨w1.heap.size, 0, none⟩) 2 2) 2 (bcells (le2 fl)) (by rfl) OA2.out ⟨wa.heap.size, 0, none⟩ 2 2 (bcells (le2 d)) (by rfl) LN.out NW.out ON.out (by omega) (by unfold maxLen; omega) (by omega) BZ.out wb.heap.size rfl ?_; intro g9 c9 Y9 ho9 hg9 hat9 hlt9; have HO9 := hid (show Y9.ownsRow (w.heap.size + 1) 5 1 (.slice (some ⟨g9, 0, none⟩) 4 c9) 4 (bcells (le2 fl ++ le2 d)) from by rw [bcells_app]; exact ho9); have HG9 := hid hg9; have AP9 := hid (own_apart OA2.out (Nat.lt_succ_self _)); have u3 := grown_cell hg9 (own_apart OA2.out (Nat.lt_succ_self _)) t3; clear ho9 hg9 hat9 hlt9))
  have r4 := grown_cell HG9.out AP9.out (GB.out.cell (GA.out.cell HYS.out.1 (by simp)) (by simp))
  have R5 := hid (grown_cell HG9.out AP9.out (GB.out.cell (GA.out.cell HYS.out.2.1 (by simp)) (by simp)))
  have R6 := hid (grown_cell HG9.out AP9.out (GB.out.cell (GA.out.cell HYS.out.2.2 (by simp)) (by simp)))
  have HGY := hid (show w.grownBy Y9 none from grow_own ((HG2.out.trans GA.out).trans GB.out) OA2.out HG9.out)
  have BY := hid (show w.heap.size + 1 ≤ Y9.heap.size from Nat.le_trans BZ.out HG9.out.size)
  clear t3
  go_wp2_with (first
    | (go_at_call 121; (with_reducible refine (HBp.out _).mono ?_); rintro e wd ⟨rfl, od, gd⟩; have GD := hid gd; have OD := hid od; have OD9 := hid (own_grown HO9.out gd); have ND := hid (own_news OD.out); have LD := hid (show (bcells (le2 p)).length = 2 * 1 by rw [bcells_len]; rfl); have BD := hid (Nat.le_trans BY.out gd.size); have ED := hid (bcells_one (le2 p)); have r5 := gd.cell R5.out (by simp); have r6 := gd.cell R6.out (by simp); clear od gd)
    | (at_builtin; refine wpList_append_own _ rfl _ _ 31 rfl (w.heap.size + 1) 5 i0 (.int .u8 0) 1 1 Try.underlying31 Hi.out Hz0.out Hz1.out Hz2.out rfl (by decide) _ _ _ rfl OD9.out ⟨Y9.heap.size, 0, none⟩ 2 2 (bcells (le2 p)) rfl LD.out ND.out ED.out (by unfold maxLen; omega) (by omega) BD.out ?_; intro v1 wf ho1 hg1 hn1; obtain ⟨gf, cf, rfl⟩ := own_some ho1 (by omega); have HOf := hid ho1; have HGf := hid hg1; have s5 := grown_cell hg1 (own_apart OD9.out (Nat.lt_succ_self _)) r5; have s6 := grown_cell hg1 (own_apart OD9.out (Nat.lt_succ_self _)) r6; have HGq := hid (grow_own (HGY.out.trans GD.out) OD9.out hg1); have OF2 := hid (own_grown HOf.out (World.grownBy_alloc wf (.cells #[Value.int .u8 (off : Nat), Value.int .u8 ((ln : Nat) - 1)] 5) none)); have NF := hid (World.news_of_block (heap_alloc_new wf (.cells #[Value.int .u8 (off : Nat), Value.int .u8 ((ln : Nat) - 1)] 5))); have BF := hid (show w.heap.size + 1 ≤ (wf.alloc (.cells #[Value.int .u8 (off : Nat), Value.int .u8 ((ln : Nat) - 1)] 5)).heap.size from Nat.le_trans (Nat.le_trans BD.out hg1.size) (World.grownBy_alloc wf _ none).size); clear ho1 hg1 hn1)
    | (at_builtin; refine wpList_append_own _ rfl _ _ 31 rfl (w.heap.size + 1) 5 i0 (.int .u8 0) 1 1 Try.underlying31 Hi.out Hz0.out Hz1.out Hz2.out rfl (by decide) _ _ _ rfl OF2.out ⟨wf.heap.size, 0, none⟩ 2 2 [Value.int .u8 (off : Nat), Value.int .u8 ((ln : Nat) - 1)] rfl rfl NF.out (by simp [Value.oneCell']) (by unfold maxLen; omega) (by omega) BF.out ?_; intro v2 wz ho2 hg2 hn2; obtain ⟨gz, cz, rfl⟩ := own_some ho2 (by omega); have HOz := hid ho2; have HGz := hid (grow_own (HGq.out.trans (World.grownBy_alloc wf _ none)) OF2.out hg2); clear ho2 hg2 hn2))
  go_ret2
  refine ⟨some ⟨gz, 0, none⟩, cz, by rw [pkB_len]; rfl, ?_, HGz.out⟩
  rw [pkB_len]
  have hz := HOz.out
  rw [show bcells (pkB fl d p off (ln - 1)) = (bcells (le2 fl ++ le2 d) ++ bcells (le2 p)) ++ [Value.int .u8 (off : Nat), Value.int .u8 ((ln : Nat) - 1)] by rw [pkB, bcells_app, bcells_app (le2 fl ++ le2 d), bcells_two off (ln - 1) hof (by omega), show ((ln - 1 : Nat) : Int) = (ln : Int) - 1 by omega]]
  exact hz

set_option maxRecDepth 100000 in
theorem gPk_ra (k fl d p off ln : Nat) (w : World) (hk : k ≤ 2) (hfl : fl < 16) (hd : d < 65536) (hpp : p < 65536) (hof : off < 256) (hl0 : 1 ≤ ln) (hl1 : ln ≤ 256) (e1 : bits .or .i64 (k : Int) 4 = (fl : Int)) 
    (hp : ∀ w', Calls Try.prog 120 #[.agg #[.int .i64 k, .bool true, .bool false, .int .i64 d, .int .i64 p, .int .i64 off, .int .i64 ln]] w' fun e w'' => e = .returned (.bool true) ∧ w'.grownBy w'' none) :
    Calls Try.prog 57 #[.agg #[.int .i64 k, .bool true, .bool false, .int .i64 d, .int .i64 p, .int .i64 off, .int .i64 ln]] w (PkPost (pkB fl d p 0 (255)) w) := by
  skip
  have HP := hid hp
  have HBf := hid fun w' => gBytes fl (by omega) w'
  have HBd := hid fun w' => gBytes d (by omega) w'
  have HBp := hid fun w' => gBytes p (by omega) w'
  obtain ⟨i0, hi, hz⟩ := Option.map_eq_some_iff.1 info_u8'
  simp only [Prod.mk.injEq] at hz
  have Hi := hid hi; have Hz0 := hid hz.1; have Hz1 := hid hz.2.1; have Hz2 := hid hz.2.2
  have HRB := hid (rowB w (.int .i64 k) (.bool true) (.bool false) (.int .i64 d) (.int .i64 p) (.int .i64 off) (.int .i64 ln))
  clear hp hi hz
  go_enter Try.func57, Try.ntmps57
  go_wp2_with (go_at_call 120; refine (HP.out _).mono ?_; rintro e w1 ⟨rfl, g1⟩; have HG1 := hid ((World.grownBy_alloc w _ none).trans g1); have R1 := hid (HRB.out.grown g1 (by simp)); have y0 := R1.out.cell (k := 0) (by omega); have y1 := R1.out.cell (k := 1) (by omega); have y2 := R1.out.cell (k := 2) (by omega); have y3 := R1.out.cell (k := 3) (by omega); have y4 := R1.out.cell (k := 4) (by omega); have y5 := R1.out.cell (k := 5) (by omega); have y6 := R1.out.cell (k := 6) (by omega); have yz := R1.out.frozen; simp only [sevV, List.getD_cons_zero, List.getD_cons_succ] at y0 y1 y2 y3 y4 y5 y6; clear g1)
  obtain ⟨W2, hW2⟩ : ∃ W2, (w1.setCell ⟨w.heap.size, 5, none⟩ (.int .i64 0)).setCell ⟨w.heap.size, 6, none⟩ (.int .i64 256) = W2 := ⟨_, rfl⟩
  have R2 := hid (show Row W2 w.heap.size 77 7 (sevV (.int .i64 k) (.bool true) (.bool false) (.int .i64 d) (.int .i64 p) (.int .i64 0) (.int .i64 256)) from hW2 ▸ (((R1.out.set (k := 5) (v := .int .i64 0) (X' := fun q => if q = 5 then .int .i64 0 else sevV (.int .i64 k) (.bool true) (.bool false) (.int .i64 d) (.int .i64 p) (.int .i64 off) (.int .i64 ln) q) rfl (fun j _ hj => by simp [hj])).set (k := 6) (v := .int .i64 256) (X' := fun q => if q = 6 then .int .i64 256 else if q = 5 then .int .i64 0 else sevV (.int .i64 k) (.bool true) (.bool false) (.int .i64 d) (.int .i64 p) (.int .i64 off) (.int .i64 ln) q) rfl (fun j _ hj => by simp [hj])).congr fun k hk => by match k, hk with | 0, _ => rfl | 1, _ => rfl | 2, _ => rfl | 3, _ => rfl | 4, _ => rfl | 5, _ => rfl | 6, _ => rfl))
  have HG2 := hid (show w.grownBy W2 none from hW2 ▸ (HG1.out.andThen ((grownBy_setCell w1 w.heap.size 5 none (.int .i64 0)).trans (grownBy_setCell _ w.heap.size 6 none (.int .i64 256))) (fun j e => .inl (by cases e; exact Nat.le_refl _))))
  rw [hW2]
  clear hW2 y0 y1 y2 y3 y4 y5 y6 yz
  have y3 := R2.out.cell (k := 3) (by omega); have y4 := R2.out.cell (k := 4) (by omega); have y5 := R2.out.cell (k := 5) (by omega); have y6 := R2.out.cell (k := 6) (by omega)
  simp only [sevV, List.getD_cons_zero, List.getD_cons_succ] at y3 y4 y5 y6
  have HYS := hid (And.intro y4 (And.intro y5 y6))
  clear y4 y5 y6
  have hW0 := HG2.out.size
  have HW0 := hid (show w.heap.size + 1 ≤ W2.heap.size from World.block_lt_of_cell? W2 _ y3)
  clear hW0
  go_region_held3 (fun w' => w'.cell? ⟨w.heap.size, 3, none⟩ = some (.int .i64 d)) (first | assumption | go_keep)
    (first
     | (go_at_call 121; first
       | ((with_reducible refine (HBf.out _).mono ?_); rintro e wa ⟨rfl, oa, ga⟩; have GA := hid (show W2.grownBy wa none from (grownBy_drew W2 none).trans ga); have OA := hid (show wa.ownsRow (w.heap.size + 1) 5 1 (.slice (some ⟨W2.heap.size, 0, none⟩) 2 2) 2 (bcells (le2 fl)) from own_le oa HW0.out); have s3 := GA.out.cell y3 (by simp); clear oa ga)
       | ((with_reducible refine (HBd.out _).mono ?_); rintro e wb ⟨rfl, ob, gb⟩; have GB := hid gb; have OB := hid ob; have OA2 := hid (own_grown OA.out gb); have t3 := GB.out.cell s3 (by simp); have NW := hid (own_news OB.out); have LN := hid (show (bcells (le2 d)).length = 2 * 1 by rw [bcells_len]; rfl); have BZ := hid (show w.heap.size + 1 ≤ wb.heap.size from Nat.le_trans HW0.out (Nat.le_trans GA.out.size GB.out.size)); have ON := hid (bcells_one (le2 d)); clear s3 ob gb))
     | (refine step_append_lies wb (by rfl) _ _ 31 (by rfl) (w.heap.size + 1) 5 i0 (.int .u8 0) 1 1 Try.underlying31 Hi.out Hz0.out Hz1.out Hz2.out rfl (by decide) (.slice (some ⟨W2.heap.size, 0, none⟩) 2 2) 2 (bcells (le2 fl)) (by rfl) OA2.out ⟨wa.heap.size, 0, none⟩ 2 2 (bcells (le2 d)) (by rfl) LN.out NW.out ON.out (by omega) (by unfold maxLen; omega) (by omega) BZ.out wb.heap.size rfl ?_; intro g9 c9 Y9 ho9 hg9 hat9 hlt9; have HO9 := hid (show Y9.ownsRow (w.heap.size + 1) 5 1 (.slice (some ⟨g9, 0, none⟩) 4 c9) 4 (bcells (le2 fl ++ le2 d)) from by rw [bcells_app]; exact ho9); have HG9 := hid hg9; have AP9 := hid (own_apart OA2.out (Nat.lt_succ_self _)); have u3 := grown_cell hg9 (own_apart OA2.out (Nat.lt_succ_self _)) t3; clear ho9 hg9 hat9 hlt9))
  have r4 := grown_cell HG9.out AP9.out (GB.out.cell (GA.out.cell HYS.out.1 (by simp)) (by simp))
  have R5 := hid (grown_cell HG9.out AP9.out (GB.out.cell (GA.out.cell HYS.out.2.1 (by simp)) (by simp)))
  have R6 := hid (grown_cell HG9.out AP9.out (GB.out.cell (GA.out.cell HYS.out.2.2 (by simp)) (by simp)))
  have HGY := hid (show w.grownBy Y9 none from grow_own ((HG2.out.trans GA.out).trans GB.out) OA2.out HG9.out)
  have BY := hid (show w.heap.size + 1 ≤ Y9.heap.size from Nat.le_trans BZ.out HG9.out.size)
  clear t3
  go_wp2_with (first
    | (go_at_call 121; (with_reducible refine (HBp.out _).mono ?_); rintro e wd ⟨rfl, od, gd⟩; have GD := hid gd; have OD := hid od; have OD9 := hid (own_grown HO9.out gd); have ND := hid (own_news OD.out); have LD := hid (show (bcells (le2 p)).length = 2 * 1 by rw [bcells_len]; rfl); have BD := hid (Nat.le_trans BY.out gd.size); have ED := hid (bcells_one (le2 p)); have r5 := gd.cell R5.out (by simp); have r6 := gd.cell R6.out (by simp); clear od gd)
    | (at_builtin; refine wpList_append_own _ rfl _ _ 31 rfl (w.heap.size + 1) 5 i0 (.int .u8 0) 1 1 Try.underlying31 Hi.out Hz0.out Hz1.out Hz2.out rfl (by decide) _ _ _ rfl OD9.out ⟨Y9.heap.size, 0, none⟩ 2 2 (bcells (le2 p)) rfl LD.out ND.out ED.out (by unfold maxLen; omega) (by omega) BD.out ?_; intro v1 wf ho1 hg1 hn1; obtain ⟨gf, cf, rfl⟩ := own_some ho1 (by omega); have HOf := hid ho1; have HGf := hid hg1; have s5 := grown_cell hg1 (own_apart OD9.out (Nat.lt_succ_self _)) r5; have s6 := grown_cell hg1 (own_apart OD9.out (Nat.lt_succ_self _)) r6; have HGq := hid (grow_own (HGY.out.trans GD.out) OD9.out hg1); have OF2 := hid (own_grown HOf.out (World.grownBy_alloc wf (.cells #[Value.int .u8 0, Value.int .u8 255] 5) none)); have NF := hid (World.news_of_block (heap_alloc_new wf (.cells #[Value.int .u8 0, Value.int .u8 255] 5))); have BF := hid (show w.heap.size + 1 ≤ (wf.alloc (.cells #[Value.int .u8 0, Value.int .u8 255] 5)).heap.size from Nat.le_trans (Nat.le_trans BD.out hg1.size) (World.grownBy_alloc wf _ none).size); clear ho1 hg1 hn1)
    | (at_builtin; refine wpList_append_own _ rfl _ _ 31 rfl (w.heap.size + 1) 5 i0 (.int .u8 0) 1 1 Try.underlying31 Hi.out Hz0.out Hz1.out Hz2.out rfl (by decide) _ _ _ rfl OF2.out ⟨wf.heap.size, 0, none⟩ 2 2 [Value.int .u8 0, Value.int .u8 255] rfl rfl NF.out (by simp [Value.oneCell']) (by unfold maxLen; omega) (by omega) BF.out ?_; intro v2 wz ho2 hg2 hn2; obtain ⟨gz, cz, rfl⟩ := own_some ho2 (by omega); have HOz := hid ho2; have HGz := hid (grow_own (HGq.out.trans (World.grownBy_alloc wf _ none)) OF2.out hg2); clear ho2 hg2 hn2))
  go_ret2
  refine ⟨some ⟨gz, 0, none⟩, cz, by rw [pkB_len]; rfl, ?_, HGz.out⟩
  rw [pkB_len]
  have hz := HOz.out
  rw [show bcells (pkB fl d p 0 (255)) = (bcells (le2 fl ++ le2 d) ++ bcells (le2 p)) ++ [Value.int .u8 0, Value.int .u8 255] by rw [pkB, bcells_app, bcells_app (le2 fl ++ le2 d), bcells_last]]
  exact hz

set_option maxRecDepth 100000 in
theorem gPk_ns (k fl d p off ln : Nat) (w : World) (hk : k ≤ 2) (hfl : fl < 16) (hd : d < 65536) (hpp : p < 65536) (hof : off < 256) (hl0 : 1 ≤ ln) (hl1 : ln ≤ 256) (e2 : bits .or .i64 (k : Int) 8 = (fl : Int)) 
    (hp : ∀ w', Calls Try.prog 120 #[.agg #[.int .i64 k, .bool false, .bool true, .int .i64 d, .int .i64 p, .int .i64 off, .int .i64 ln]] w' fun e w'' => e = .returned (.bool true) ∧ w'.grownBy w'' none) :
    Calls Try.prog 57 #[.agg #[.int .i64 k, .bool false, .bool true, .int .i64 d, .int .i64 p, .int .i64 off, .int .i64 ln]] w (PkPost (pkB fl d p off (ln - 1)) w) := by
  skip
  have HP := hid hp
  have HBf := hid fun w' => gBytes fl (by omega) w'
  have HBd := hid fun w' => gBytes d (by omega) w'
  have HBp := hid fun w' => gBytes p (by omega) w'
  obtain ⟨i0, hi, hz⟩ := Option.map_eq_some_iff.1 info_u8'
  simp only [Prod.mk.injEq] at hz
  have Hi := hid hi; have Hz0 := hid hz.1; have Hz1 := hid hz.2.1; have Hz2 := hid hz.2.2
  have HRB := hid (rowB w (.int .i64 k) (.bool false) (.bool true) (.int .i64 d) (.int .i64 p) (.int .i64 off) (.int .i64 ln))
  clear hp hi hz
  go_enter Try.func57, Try.ntmps57
  go_wp2_with (go_at_call 120; refine (HP.out _).mono ?_; rintro e w1 ⟨rfl, g1⟩; have HG1 := hid ((World.grownBy_alloc w _ none).trans g1); have R1 := hid (HRB.out.grown g1 (by simp)); have y0 := R1.out.cell (k := 0) (by omega); have y1 := R1.out.cell (k := 1) (by omega); have y2 := R1.out.cell (k := 2) (by omega); have y3 := R1.out.cell (k := 3) (by omega); have y4 := R1.out.cell (k := 4) (by omega); have y5 := R1.out.cell (k := 5) (by omega); have y6 := R1.out.cell (k := 6) (by omega); have yz := R1.out.frozen; simp only [sevV, List.getD_cons_zero, List.getD_cons_succ] at y0 y1 y2 y3 y4 y5 y6; clear g1)
  have HG2 := hid HG1.out
  clear y0 y1 y2 yz
  have HYS := hid (And.intro y4 (And.intro y5 y6))
  clear y4 y5 y6
  have hW0 := HG2.out.size
  have HW0 := hid (show w.heap.size + 1 ≤ w1.heap.size from World.block_lt_of_cell? w1 _ y3)
  clear hW0
  go_region_held3 (fun w' => w'.cell? ⟨w.heap.size, 3, none⟩ = some (.int .i64 d)) (first | assumption | go_keep)
    (first
     | (go_at_call 121; first
       | ((with_reducible refine (HBf.out _).mono ?_); rintro e wa ⟨rfl, oa, ga⟩; have GA := hid (show w1.grownBy wa none from (grownBy_drew w1 none).trans ga); have OA := hid (show wa.ownsRow (w.heap.size + 1) 5 1 (.slice (some ⟨w1.heap.size, 0, none⟩) 2 2) 2 (bcells (le2 fl)) from own_le oa HW0.out); have s3 := GA.out.cell y3 (by simp); clear oa ga)
       | ((with_reducible refine (HBd.out _).mono ?_); rintro e wb ⟨rfl, ob, gb⟩; have GB := hid gb; have OB := hid ob; have OA2 := hid (own_grown OA.out gb); have t3 := GB.out.cell s3 (by simp); have NW := hid (own_news OB.out); have LN := hid (show (bcells (le2 d)).length = 2 * 1 by rw [bcells_len]; rfl); have BZ := hid (show w.heap.size + 1 ≤ wb.heap.size from Nat.le_trans HW0.out (Nat.le_trans GA.out.size GB.out.size)); have ON := hid (bcells_one (le2 d)); clear s3 ob gb))
     | (refine step_append_lies wb (by rfl) _ _ 31 (by rfl) (w.heap.size + 1) 5 i0 (.int .u8 0) 1 1 Try.underlying31 Hi.out Hz0.out Hz1.out Hz2.out rfl (by decide) (.slice (some ⟨w1.heap.size, 0, none⟩) 2 2) 2 (bcells (le2 fl)) (by rfl) OA2.out ⟨wa.heap.size, 0, none⟩ 2 2 (bcells (le2 d)) (by rfl) LN.out NW.out ON.out (by omega) (by unfold maxLen; omega) (by omega) BZ.out wb.heap.size rfl ?_; intro g9 c9 Y9 ho9 hg9 hat9 hlt9; have HO9 := hid (show Y9.ownsRow (w.heap.size + 1) 5 1 (.slice (some ⟨g9, 0, none⟩) 4 c9) 4 (bcells (le2 fl ++ le2 d)) from by rw [bcells_app]; exact ho9); have HG9 := hid hg9; have AP9 := hid (own_apart OA2.out (Nat.lt_succ_self _)); have u3 := grown_cell hg9 (own_apart OA2.out (Nat.lt_succ_self _)) t3; clear ho9 hg9 hat9 hlt9))
  have r4 := grown_cell HG9.out AP9.out (GB.out.cell (GA.out.cell HYS.out.1 (by simp)) (by simp))
  have R5 := hid (grown_cell HG9.out AP9.out (GB.out.cell (GA.out.cell HYS.out.2.1 (by simp)) (by simp)))
  have R6 := hid (grown_cell HG9.out AP9.out (GB.out.cell (GA.out.cell HYS.out.2.2 (by simp)) (by simp)))
  have HGY := hid (show w.grownBy Y9 none from grow_own ((HG2.out.trans GA.out).trans GB.out) OA2.out HG9.out)
  have BY := hid (show w.heap.size + 1 ≤ Y9.heap.size from Nat.le_trans BZ.out HG9.out.size)
  clear t3
  go_wp2_with (first
    | (go_at_call 121; (with_reducible refine (HBp.out _).mono ?_); rintro e wd ⟨rfl, od, gd⟩; have GD := hid gd; have OD := hid od; have OD9 := hid (own_grown HO9.out gd); have ND := hid (own_news OD.out); have LD := hid (show (bcells (le2 p)).length = 2 * 1 by rw [bcells_len]; rfl); have BD := hid (Nat.le_trans BY.out gd.size); have ED := hid (bcells_one (le2 p)); have r5 := gd.cell R5.out (by simp); have r6 := gd.cell R6.out (by simp); clear od gd)
    | (at_builtin; refine wpList_append_own _ rfl _ _ 31 rfl (w.heap.size + 1) 5 i0 (.int .u8 0) 1 1 Try.underlying31 Hi.out Hz0.out Hz1.out Hz2.out rfl (by decide) _ _ _ rfl OD9.out ⟨Y9.heap.size, 0, none⟩ 2 2 (bcells (le2 p)) rfl LD.out ND.out ED.out (by unfold maxLen; omega) (by omega) BD.out ?_; intro v1 wf ho1 hg1 hn1; obtain ⟨gf, cf, rfl⟩ := own_some ho1 (by omega); have HOf := hid ho1; have HGf := hid hg1; have s5 := grown_cell hg1 (own_apart OD9.out (Nat.lt_succ_self _)) r5; have s6 := grown_cell hg1 (own_apart OD9.out (Nat.lt_succ_self _)) r6; have HGq := hid (grow_own (HGY.out.trans GD.out) OD9.out hg1); have OF2 := hid (own_grown HOf.out (World.grownBy_alloc wf (.cells #[Value.int .u8 (off : Nat), Value.int .u8 ((ln : Nat) - 1)] 5) none)); have NF := hid (World.news_of_block (heap_alloc_new wf (.cells #[Value.int .u8 (off : Nat), Value.int .u8 ((ln : Nat) - 1)] 5))); have BF := hid (show w.heap.size + 1 ≤ (wf.alloc (.cells #[Value.int .u8 (off : Nat), Value.int .u8 ((ln : Nat) - 1)] 5)).heap.size from Nat.le_trans (Nat.le_trans BD.out hg1.size) (World.grownBy_alloc wf _ none).size); clear ho1 hg1 hn1)
    | (at_builtin; refine wpList_append_own _ rfl _ _ 31 rfl (w.heap.size + 1) 5 i0 (.int .u8 0) 1 1 Try.underlying31 Hi.out Hz0.out Hz1.out Hz2.out rfl (by decide) _ _ _ rfl OF2.out ⟨wf.heap.size, 0, none⟩ 2 2 [Value.int .u8 (off : Nat), Value.int .u8 ((ln : Nat) - 1)] rfl rfl NF.out (by simp [Value.oneCell']) (by unfold maxLen; omega) (by omega) BF.out ?_; intro v2 wz ho2 hg2 hn2; obtain ⟨gz, cz, rfl⟩ := own_some ho2 (by omega); have HOz := hid ho2; have HGz := hid (grow_own (HGq.out.trans (World.grownBy_alloc wf _ none)) OF2.out hg2); clear ho2 hg2 hn2))
  go_ret2
  refine ⟨some ⟨gz, 0, none⟩, cz, by rw [pkB_len]; rfl, ?_, HGz.out⟩
  rw [pkB_len]
  have hz := HOz.out
  rw [show bcells (pkB fl d p off (ln - 1)) = (bcells (le2 fl ++ le2 d) ++ bcells (le2 p)) ++ [Value.int .u8 (off : Nat), Value.int .u8 ((ln : Nat) - 1)] by rw [pkB, bcells_app, bcells_app (le2 fl ++ le2 d), bcells_two off (ln - 1) hof (by omega), show ((ln - 1 : Nat) : Int) = (ln : Int) - 1 by omega]]
  exact hz

set_option maxRecDepth 100000 in
theorem gPk_na (k fl d p off ln : Nat) (w : World) (hk : k ≤ 2) (hfl : fl < 16) (hd : d < 65536) (hpp : p < 65536) (hof : off < 256) (hl0 : 1 ≤ ln) (hl1 : ln ≤ 256) (e0 : k = fl) 
    (hp : ∀ w', Calls Try.prog 120 #[.agg #[.int .i64 k, .bool false, .bool false, .int .i64 d, .int .i64 p, .int .i64 off, .int .i64 ln]] w' fun e w'' => e = .returned (.bool true) ∧ w'.grownBy w'' none) :
    Calls Try.prog 57 #[.agg #[.int .i64 k, .bool false, .bool false, .int .i64 d, .int .i64 p, .int .i64 off, .int .i64 ln]] w (PkPost (pkB fl d p 0 (255)) w) := by
  subst e0
  have HP := hid hp
  have HBf := hid fun w' => gBytes k (by omega) w'
  have HBd := hid fun w' => gBytes d (by omega) w'
  have HBp := hid fun w' => gBytes p (by omega) w'
  obtain ⟨i0, hi, hz⟩ := Option.map_eq_some_iff.1 info_u8'
  simp only [Prod.mk.injEq] at hz
  have Hi := hid hi; have Hz0 := hid hz.1; have Hz1 := hid hz.2.1; have Hz2 := hid hz.2.2
  have HRB := hid (rowB w (.int .i64 k) (.bool false) (.bool false) (.int .i64 d) (.int .i64 p) (.int .i64 off) (.int .i64 ln))
  clear hp hi hz
  go_enter Try.func57, Try.ntmps57
  go_wp2_with (go_at_call 120; refine (HP.out _).mono ?_; rintro e w1 ⟨rfl, g1⟩; have HG1 := hid ((World.grownBy_alloc w _ none).trans g1); have R1 := hid (HRB.out.grown g1 (by simp)); have y0 := R1.out.cell (k := 0) (by omega); have y1 := R1.out.cell (k := 1) (by omega); have y2 := R1.out.cell (k := 2) (by omega); have y3 := R1.out.cell (k := 3) (by omega); have y4 := R1.out.cell (k := 4) (by omega); have y5 := R1.out.cell (k := 5) (by omega); have y6 := R1.out.cell (k := 6) (by omega); have yz := R1.out.frozen; simp only [sevV, List.getD_cons_zero, List.getD_cons_succ] at y0 y1 y2 y3 y4 y5 y6; clear g1)
  obtain ⟨W2, hW2⟩ : ∃ W2, (w1.setCell ⟨w.heap.size, 5, none⟩ (.int .i64 0)).setCell ⟨w.heap.size, 6, none⟩ (.int .i64 256) = W2 := ⟨_, rfl⟩
  have R2 := hid (show Row W2 w.heap.size 77 7 (sevV (.int .i64 k) (.bool false) (.bool false) (.int .i64 d) (.int .i64 p) (.int .i64 0) (.int .i64 256)) from hW2 ▸ (((R1.out.set (k := 5) (v := .int .i64 0) (X' := fun q => if q = 5 then .int .i64 0 else sevV (.int .i64 k) (.bool false) (.bool false) (.int .i64 d) (.int .i64 p) (.int .i64 off) (.int .i64 ln) q) rfl (fun j _ hj => by simp [hj])).set (k := 6) (v := .int .i64 256) (X' := fun q => if q = 6 then .int .i64 256 else if q = 5 then .int .i64 0 else sevV (.int .i64 k) (.bool false) (.bool false) (.int .i64 d) (.int .i64 p) (.int .i64 off) (.int .i64 ln) q) rfl (fun j _ hj => by simp [hj])).congr fun k hk => by match k, hk with | 0, _ => rfl | 1, _ => rfl | 2, _ => rfl | 3, _ => rfl | 4, _ => rfl | 5, _ => rfl | 6, _ => rfl))
  have HG2 := hid (show w.grownBy W2 none from hW2 ▸ (HG1.out.andThen ((grownBy_setCell w1 w.heap.size 5 none (.int .i64 0)).trans (grownBy_setCell _ w.heap.size 6 none (.int .i64 256))) (fun j e => .inl (by cases e; exact Nat.le_refl _))))
  rw [hW2]
  clear hW2 y0 y1 y2 y3 y4 y5 y6 yz
  have y3 := R2.out.cell (k := 3) (by omega); have y4 := R2.out.cell (k := 4) (by omega); have y5 := R2.out.cell (k := 5) (by omega); have y6 := R2.out.cell (k := 6) (by omega)
  simp only [sevV, List.getD_cons_zero, List.getD_cons_succ] at y3 y4 y5 y6
  have HYS := hid (And.intro y4 (And.intro y5 y6))
  clear y4 y5 y6
  have hW0 := HG2.out.size
  have HW0 := hid (show w.heap.size + 1 ≤ W2.heap.size from World.block_lt_of_cell? W2 _ y3)
  clear hW0
  go_region_held3 (fun w' => w'.cell? ⟨w.heap.size, 3, none⟩ = some (.int .i64 d)) (first | assumption | go_keep)
    (first
     | (go_at_call 121; first
       | ((with_reducible refine (HBf.out _).mono ?_); rintro e wa ⟨rfl, oa, ga⟩; have GA := hid (show W2.grownBy wa none from (grownBy_drew W2 none).trans ga); have OA := hid (show wa.ownsRow (w.heap.size + 1) 5 1 (.slice (some ⟨W2.heap.size, 0, none⟩) 2 2) 2 (bcells (le2 k)) from own_le oa HW0.out); have s3 := GA.out.cell y3 (by simp); clear oa ga)
       | ((with_reducible refine (HBd.out _).mono ?_); rintro e wb ⟨rfl, ob, gb⟩; have GB := hid gb; have OB := hid ob; have OA2 := hid (own_grown OA.out gb); have t3 := GB.out.cell s3 (by simp); have NW := hid (own_news OB.out); have LN := hid (show (bcells (le2 d)).length = 2 * 1 by rw [bcells_len]; rfl); have BZ := hid (show w.heap.size + 1 ≤ wb.heap.size from Nat.le_trans HW0.out (Nat.le_trans GA.out.size GB.out.size)); have ON := hid (bcells_one (le2 d)); clear s3 ob gb))
     | (refine step_append_lies wb (by rfl) _ _ 31 (by rfl) (w.heap.size + 1) 5 i0 (.int .u8 0) 1 1 Try.underlying31 Hi.out Hz0.out Hz1.out Hz2.out rfl (by decide) (.slice (some ⟨W2.heap.size, 0, none⟩) 2 2) 2 (bcells (le2 k)) (by rfl) OA2.out ⟨wa.heap.size, 0, none⟩ 2 2 (bcells (le2 d)) (by rfl) LN.out NW.out ON.out (by omega) (by unfold maxLen; omega) (by omega) BZ.out wb.heap.size rfl ?_; intro g9 c9 Y9 ho9 hg9 hat9 hlt9; have HO9 := hid (show Y9.ownsRow (w.heap.size + 1) 5 1 (.slice (some ⟨g9, 0, none⟩) 4 c9) 4 (bcells (le2 k ++ le2 d)) from by rw [bcells_app]; exact ho9); have HG9 := hid hg9; have AP9 := hid (own_apart OA2.out (Nat.lt_succ_self _)); have u3 := grown_cell hg9 (own_apart OA2.out (Nat.lt_succ_self _)) t3; clear ho9 hg9 hat9 hlt9))
  have r4 := grown_cell HG9.out AP9.out (GB.out.cell (GA.out.cell HYS.out.1 (by simp)) (by simp))
  have R5 := hid (grown_cell HG9.out AP9.out (GB.out.cell (GA.out.cell HYS.out.2.1 (by simp)) (by simp)))
  have R6 := hid (grown_cell HG9.out AP9.out (GB.out.cell (GA.out.cell HYS.out.2.2 (by simp)) (by simp)))
  have HGY := hid (show w.grownBy Y9 none from grow_own ((HG2.out.trans GA.out).trans GB.out) OA2.out HG9.out)
  have BY := hid (show w.heap.size + 1 ≤ Y9.heap.size from Nat.le_trans BZ.out HG9.out.size)
  clear t3
  go_wp2_with (first
    | (go_at_call 121; (with_reducible refine (HBp.out _).mono ?_); rintro e wd ⟨rfl, od, gd⟩; have GD := hid gd; have OD := hid od; have OD9 := hid (own_grown HO9.out gd); have ND := hid (own_news OD.out); have LD := hid (show (bcells (le2 p)).length = 2 * 1 by rw [bcells_len]; rfl); have BD := hid (Nat.le_trans BY.out gd.size); have ED := hid (bcells_one (le2 p)); have r5 := gd.cell R5.out (by simp); have r6 := gd.cell R6.out (by simp); clear od gd)
    | (at_builtin; refine wpList_append_own _ rfl _ _ 31 rfl (w.heap.size + 1) 5 i0 (.int .u8 0) 1 1 Try.underlying31 Hi.out Hz0.out Hz1.out Hz2.out rfl (by decide) _ _ _ rfl OD9.out ⟨Y9.heap.size, 0, none⟩ 2 2 (bcells (le2 p)) rfl LD.out ND.out ED.out (by unfold maxLen; omega) (by omega) BD.out ?_; intro v1 wf ho1 hg1 hn1; obtain ⟨gf, cf, rfl⟩ := own_some ho1 (by omega); have HOf := hid ho1; have HGf := hid hg1; have s5 := grown_cell hg1 (own_apart OD9.out (Nat.lt_succ_self _)) r5; have s6 := grown_cell hg1 (own_apart OD9.out (Nat.lt_succ_self _)) r6; have HGq := hid (grow_own (HGY.out.trans GD.out) OD9.out hg1); have OF2 := hid (own_grown HOf.out (World.grownBy_alloc wf (.cells #[Value.int .u8 0, Value.int .u8 255] 5) none)); have NF := hid (World.news_of_block (heap_alloc_new wf (.cells #[Value.int .u8 0, Value.int .u8 255] 5))); have BF := hid (show w.heap.size + 1 ≤ (wf.alloc (.cells #[Value.int .u8 0, Value.int .u8 255] 5)).heap.size from Nat.le_trans (Nat.le_trans BD.out hg1.size) (World.grownBy_alloc wf _ none).size); clear ho1 hg1 hn1)
    | (at_builtin; refine wpList_append_own _ rfl _ _ 31 rfl (w.heap.size + 1) 5 i0 (.int .u8 0) 1 1 Try.underlying31 Hi.out Hz0.out Hz1.out Hz2.out rfl (by decide) _ _ _ rfl OF2.out ⟨wf.heap.size, 0, none⟩ 2 2 [Value.int .u8 0, Value.int .u8 255] rfl rfl NF.out (by simp [Value.oneCell']) (by unfold maxLen; omega) (by omega) BF.out ?_; intro v2 wz ho2 hg2 hn2; obtain ⟨gz, cz, rfl⟩ := own_some ho2 (by omega); have HOz := hid ho2; have HGz := hid (grow_own (HGq.out.trans (World.grownBy_alloc wf _ none)) OF2.out hg2); clear ho2 hg2 hn2))
  go_ret2
  refine ⟨some ⟨gz, 0, none⟩, cz, by rw [pkB_len]; rfl, ?_, HGz.out⟩
  rw [pkB_len]
  have hz := HOz.out
  rw [show bcells (pkB k d p 0 (255)) = (bcells (le2 k ++ le2 d) ++ bcells (le2 p)) ++ [Value.int .u8 0, Value.int .u8 255] by rw [pkB, bcells_app, bcells_app (le2 k ++ le2 d), bcells_last]]
  exact hz

end Go.Proofs.Ytibiianmpajabaa


/-
  Package tenementref06: Pack.
-/
set_option linter.unusedSimpArgs false
set_option linter.unusedVariables false
namespace Go.Proofs.Ytibiianmpajabaa
open Go.RowKit
set_option maxHeartbeats 4000000
theorem pkB_cells (fl d p off l : Nat) (h0 : fl < 16) (hd : d < 65536) (hp : p < 65536) (ho : off < 256) (hl : l < 256) : bcells (pkB fl d p off l) = [.int .u8 fl, .int .u8 0, .int .u8 (d % 256 : Nat), .int .u8 (d / 256 : Nat), .int .u8 (p % 256 : Nat), .int .u8 (p / 256 : Nat), .int .u8 off, .int .u8 l] := by
  rw [pkB, bcells_app, bcells_app, bcells_app, bcells_le2 fl (by omega), bcells_le2 d hd, bcells_le2 p hp, bcells_two off l ho hl, show fl % 256 = fl by omega, show fl / 256 = 0 by omega]
  rfl
theorem pk_post {w : World} {fl d p off l : Nat} {cs : Array Value} (h0 : fl < 16) (hd : d < 65536) (hp : p < 65536) (ho : off < 256) (hl : l < 256) {W : World} (hW : W.heap.size = w.heap.size + 1) (hg : w.grownBy W none)
    (hc : cs = #[.int .u8 fl, .int .u8 0, .int .u8 (d % 256 : Nat), .int .u8 (d / 256 : Nat), .int .u8 (p % 256 : Nat), .int .u8 (p / 256 : Nat), .int .u8 off, .int .u8 l]) :
    PkPost (pkB fl d p off l) w (.returned (.tuple #[.slice (some ⟨w.heap.size + 1, 0, none⟩) 8 8, .int .i64 0])) (W.alloc (.cells cs 5)) := by
  subst hc
  refine ⟨some ⟨w.heap.size + 1, 0, none⟩, 8, by rw [pkB_len], ?_, hg.trans (World.grownBy_alloc _ _ _)⟩
  rw [pkB_len, pkB_cells fl d p off l h0 hd hp ho hl]
  exact ⟨rfl, .inr ⟨w.heap.size + 1, 8, _, rfl, Nat.le_refl _, hW ▸ heap_alloc_new W _, Nat.le_refl _, by decide, rfl, rfl⟩⟩
theorem rPk_no (k : Int) (ro sub : Bool) (d p off ln : Int) (w : World) (hp : packV ⟨k, ro, sub, d, p, off, ln⟩ = false) :
    Calls Try.prog 56 #[.agg #[.int .i64 k, .bool ro, .bool sub, .int .i64 d, .int .i64 p, .int .i64 off, .int .i64 ln]] w fun e w' => e = .returned (.tuple #[.slice none 0 0, .int .i64 1]) ∧ w.grownBy w' none := by
  have HP := hid hp
  clear hp

  cases c0 : decide (k < 0)
  case' true =>
    go_enter Try.func56, Try.ntmps56
    go_wp2
    go_ret2
    exact ⟨rfl, World.grownBy_alloc _ _ _⟩
  cases c1 : decide (2 < k)
  case' true =>
    go_enter Try.func56, Try.ntmps56
    go_wp2
    go_ret2
    exact ⟨rfl, World.grownBy_alloc _ _ _⟩
  cases c2 : decide (d < 0)
  case' true =>
    go_enter Try.func56, Try.ntmps56
    go_wp2
    go_ret2
    exact ⟨rfl, World.grownBy_alloc _ _ _⟩
  cases c3 : decide (65536 ≤ d)
  case' true =>
    go_enter Try.func56, Try.ntmps56
    go_wp2
    go_ret2
    exact ⟨rfl, World.grownBy_alloc _ _ _⟩
  cases c4 : decide (p < 0)
  case' true =>
    go_enter Try.func56, Try.ntmps56
    go_wp2
    go_ret2
    exact ⟨rfl, World.grownBy_alloc _ _ _⟩
  cases c5 : decide (65536 ≤ p)
  case' true =>
    go_enter Try.func56, Try.ntmps56
    go_wp2
    go_ret2
    exact ⟨rfl, World.grownBy_alloc _ _ _⟩
  cases c6 : decide (off < 0)
  case' true =>
    go_enter Try.func56, Try.ntmps56
    go_wp2
    go_ret2
    exact ⟨rfl, World.grownBy_alloc _ _ _⟩
  cases c7 : decide (255 < off)
  case' true =>
    go_enter Try.func56, Try.ntmps56
    go_wp2
    go_ret2
    exact ⟨rfl, World.grownBy_alloc _ _ _⟩
  cases c8 : decide (ln < 1)
  case' true =>
    go_enter Try.func56, Try.ntmps56
    go_wp2
    go_ret2
    exact ⟨rfl, World.grownBy_alloc _ _ _⟩
  cases c9 : decide (256 < ln)
  case' true =>
    go_enter Try.func56, Try.ntmps56
    go_wp2
    go_ret2
    exact ⟨rfl, World.grownBy_alloc _ _ _⟩
  have b6 : 0 ≤ off := by simpa using c6
  have b7 : off ≤ 255 := by simpa using c7
  have b8 : 1 ≤ ln := by simpa using c8
  have b9 : ln ≤ 256 := by simpa using c9
  cases c10 : decide (256 < off + ln)
  case' true =>
    go_enter Try.func56, Try.ntmps56
    go_wp2
    go_ret2
    exact ⟨rfl, World.grownBy_alloc _ _ _⟩
  exfalso
  have hp := HP.out
  simp [packV, wV, pgV] at hp c0 c1 c2 c3 c4 c5 c6 c7 c8 c9 c10
  omega
set_option maxRecDepth 100000 in
theorem rPk_rs (k d p off ln : Nat) (w : World) (hk : k ≤ 2) (hd : d < 65536) (hpp : p < 65536) (hof : off < 256) (hl0 : 1 ≤ ln) (hl1 : off + ln ≤ 256) :
    Calls Try.prog 56 #[.agg #[.int .i64 k, .bool true, .bool true, .int .i64 d, .int .i64 p, .int .i64 off, .int .i64 ln]] w (PkPost (pkB (k + 4 + 8) d p off (ln - 1)) w) := by
  have b0 : decide ((k : Int) < 0) = false := by simp
  have b1 : decide (2 < (k : Int)) = false := by simp; omega
  have b2 : decide ((d : Int) < 0) = false := by simp
  have b3 : decide (65536 ≤ (d : Int)) = false := by simp; omega
  have b4 : decide ((p : Int) < 0) = false := by simp
  have b5 : decide (65536 ≤ (p : Int)) = false := by simp; omega
  have b6 : decide ((off : Int) < 0) = false := by simp
  have b7 : decide (255 < (off : Int)) = false := by simp; omega
  have b8 : decide ((ln : Int) < 1) = false := by simp; omega
  have b9 : decide (256 < (ln : Int)) = false := by simp; omega
  have b10 : decide (256 < (off : Int) + (ln : Int)) = false := by simp; omega
  go_enter Try.func56, Try.ntmps56
  go_wp2
  go_ret2
  exact pk_post (by omega) hd hpp (by omega) (by omega) (by simp) (World.grownBy_alloc _ _ _) (by simp <;> omega)
set_option maxRecDepth 100000 in
theorem rPk_ra (k d p off ln : Nat) (w : World) (hk : k ≤ 2) (hd : d < 65536) (hpp : p < 65536) (hof : off < 256) (hl0 : 1 ≤ ln) (hl1 : off + ln ≤ 256) :
    Calls Try.prog 56 #[.agg #[.int .i64 k, .bool true, .bool false, .int .i64 d, .int .i64 p, .int .i64 off, .int .i64 ln]] w (PkPost (pkB (k + 4) d p 0 255) w) := by
  have b0 : decide ((k : Int) < 0) = false := by simp
  have b1 : decide (2 < (k : Int)) = false := by simp; omega
  have b2 : decide ((d : Int) < 0) = false := by simp
  have b3 : decide (65536 ≤ (d : Int)) = false := by simp; omega
  have b4 : decide ((p : Int) < 0) = false := by simp
  have b5 : decide (65536 ≤ (p : Int)) = false := by simp; omega
  have b6 : decide ((off : Int) < 0) = false := by simp
  have b7 : decide (255 < (off : Int)) = false := by simp; omega
  have b8 : decide ((ln : Int) < 1) = false := by simp; omega
  have b9 : decide (256 < (ln : Int)) = false := by simp; omega
  have b10 : decide (256 < (off : Int) + (ln : Int)) = false := by simp; omega
  go_enter Try.func56, Try.ntmps56
  go_wp2
  go_ret2
  exact pk_post (by omega) hd hpp (by omega) (by omega) (by simp) (World.grownBy_alloc _ _ _) (by simp <;> omega)
set_option maxRecDepth 100000 in
theorem rPk_ns (k d p off ln : Nat) (w : World) (hk : k ≤ 2) (hd : d < 65536) (hpp : p < 65536) (hof : off < 256) (hl0 : 1 ≤ ln) (hl1 : off + ln ≤ 256) :
    Calls Try.prog 56 #[.agg #[.int .i64 k, .bool false, .bool true, .int .i64 d, .int .i64 p, .int .i64 off, .int .i64 ln]] w (PkPost (pkB (k + 8) d p off (ln - 1)) w) := by
  have b0 : decide ((k : Int) < 0) = false := by simp
  have b1 : decide (2 < (k : Int)) = false := by simp; omega
  have b2 : decide ((d : Int) < 0) = false := by simp
  have b3 : decide (65536 ≤ (d : Int)) = false := by simp; omega
  have b4 : decide ((p : Int) < 0) = false := by simp
  have b5 : decide (65536 ≤ (p : Int)) = false := by simp; omega
  have b6 : decide ((off : Int) < 0) = false := by simp
  have b7 : decide (255 < (off : Int)) = false := by simp; omega
  have b8 : decide ((ln : Int) < 1) = false := by simp; omega
  have b9 : decide (256 < (ln : Int)) = false := by simp; omega
  have b10 : decide (256 < (off : Int) + (ln : Int)) = false := by simp; omega
  go_enter Try.func56, Try.ntmps56
  go_wp2
  go_ret2
  exact pk_post (by omega) hd hpp (by omega) (by omega) (by simp) (World.grownBy_alloc _ _ _) (by simp <;> omega)
set_option maxRecDepth 100000 in
theorem rPk_na (k d p off ln : Nat) (w : World) (hk : k ≤ 2) (hd : d < 65536) (hpp : p < 65536) (hof : off < 256) (hl0 : 1 ≤ ln) (hl1 : off + ln ≤ 256) :
    Calls Try.prog 56 #[.agg #[.int .i64 k, .bool false, .bool false, .int .i64 d, .int .i64 p, .int .i64 off, .int .i64 ln]] w (PkPost (pkB (k) d p 0 255) w) := by
  have b0 : decide ((k : Int) < 0) = false := by simp
  have b1 : decide (2 < (k : Int)) = false := by simp; omega
  have b2 : decide ((d : Int) < 0) = false := by simp
  have b3 : decide (65536 ≤ (d : Int)) = false := by simp; omega
  have b4 : decide ((p : Int) < 0) = false := by simp
  have b5 : decide (65536 ≤ (p : Int)) = false := by simp; omega
  have b6 : decide ((off : Int) < 0) = false := by simp
  have b7 : decide (255 < (off : Int)) = false := by simp; omega
  have b8 : decide ((ln : Int) < 1) = false := by simp; omega
  have b9 : decide (256 < (ln : Int)) = false := by simp; omega
  have b10 : decide (256 < (off : Int) + (ln : Int)) = false := by simp; omega
  go_enter Try.func56, Try.ntmps56
  go_wp2
  go_ret2
  exact pk_post (by omega) hd hpp (by omega) (by omega) (by simp) (World.grownBy_alloc _ _ _) (by simp <;> omega)
end Go.Proofs.Ytibiianmpajabaa


/-
  Package grant: Pack of both sides, of any entry; what was packed is unpacked as itself.
-/
set_option linter.unusedSimpArgs false
set_option linter.unusedVariables false
namespace Go.Proofs.Ytibiianmpajabaa
open Go.RowKit
set_option maxHeartbeats 4000000
def flG (k : Nat) (ro sub : Bool) : Nat := k + (if ro = true then 4 else 0) + (if sub = true then 8 else 0)
def pkL (g : GV) : List UInt8 := pkB (flG g.k.toNat g.ro g.sub) g.dom.toNat g.gpfn.toNat (if g.sub = true then g.off.toNat else 0) (if g.sub = true then g.len.toNat - 1 else 255)
theorem pkL_len (g : GV) : (pkL g).length = 8 := rfl
theorem pack_nats {g : GV} (h : packV g = true) : ∃ k d p off ln : Nat, g = ⟨k, g.ro, g.sub, d, p, off, ln⟩ ∧ k ≤ 2 ∧ d < 65536 ∧ p < 65536 ∧ off < 256 ∧ 1 ≤ ln ∧ off + ln ≤ 256 := by
  obtain ⟨k, ro, sub, d, p, off, ln⟩ := g
  simp [packV, wV, pgV] at h
  refine ⟨k.toNat, d.toNat, p.toNat, off.toNat, ln.toNat, ?_, by omega, by omega, by omega, by omega, by omega, by omega⟩
  simp only [GV.mk.injEq]
  refine ⟨by omega, trivial, trivial, by omega, by omega, by omega, by omega⟩
theorem gPk_yes (g : GV) (w : World) (h : packV g = true) : Calls Try.prog 57 #[g.val] w (PkPost (pkL g) w) := by
  have hpk := fun w' => gPacks g w' (by obtain ⟨k, d, p, off, ln, e, _, _, _, ho, _⟩ := pack_nats h; rw [e]; show (off : Int) ≤ _; omega)
  rw [h] at hpk
  obtain ⟨k, d, p, off, ln, e, hk, hd, hp, ho, hl, hol⟩ := pack_nats h
  obtain ⟨_, ro, sub, _, _, _, _⟩ := g
  rw [e] at hpk ⊢
  clear e h
  cases ro <;> cases sub
  · exact gPk_na k k d p off ln w hk (by omega) hd hp ho hl (by omega) rfl hpk
  · exact gPk_ns k (k + 8) d p off ln w hk (by omega) hd hp ho hl (by omega) (or8 k (by omega)) hpk
  · exact gPk_ra k (k + 4) d p off ln w hk (by omega) hd hp ho hl (by omega) (or4 k hk) hpk
  · exact gPk_rs k (k + 4) (k + 4 + 8) d p off ln w hk (by omega) hd hp ho hl (by omega) (or4 k hk) (or8 (k + 4) (by omega)) hpk
theorem rPk_yes (g : GV) (w : World) (h : packV g = true) : Calls Try.prog 56 #[g.val] w (PkPost (pkL g) w) := by
  obtain ⟨k, d, p, off, ln, e, hk, hd, hp, ho, hl, hol⟩ := pack_nats h
  obtain ⟨_, ro, sub, _, _, _, _⟩ := g
  rw [e]
  clear e h
  cases ro <;> cases sub
  · exact rPk_na k d p off ln w hk hd hp ho hl hol
  · exact rPk_ns k d p off ln w hk hd hp ho hl hol
  · exact rPk_ra k d p off ln w hk hd hp ho hl hol
  · exact rPk_rs k d p off ln w hk hd hp ho hl hol
def wantG (g : GV) : GV := if g.sub = true then g else ⟨g.k, g.ro, g.sub, g.dom, g.gpfn, 0, 256⟩
theorem b_of {n : Nat} (h : n < 256) : (UInt8.ofNat n).toNat = n := UInt8.toNat_ofNat_of_lt' h
theorem unp_pk (g : GV) (h : packV g = true) : unpG (pkL g) = (wantG g, 0) := by
  obtain ⟨k, d, p, off, ln, e, hk, hd, hp, ho, hl, hol⟩ := pack_nats h
  obtain ⟨_, ro, sub, _, _, _, _⟩ := g
  rw [e]
  clear e h
  have hfl : flG k ro sub < 16 := by unfold flG; split <;> split <;> omega
  have hx : ∀ x y : Nat, pkB (flG k ro sub) d p x y = [UInt8.ofNat (flG k ro sub % 256), UInt8.ofNat (flG k ro sub / 256), UInt8.ofNat (d % 256), UInt8.ofNat (d / 256), UInt8.ofNat (p % 256), UInt8.ofNat (p / 256), UInt8.ofNat x, UInt8.ofNat y] := fun x y => rfl
  unfold unpG
  rw [if_pos (pkL_len _)]
  unfold unG pkL
  simp only [Int.toNat_natCast]
  rw [hx]
  simp only [List.getD_cons_zero, List.getD_cons_succ, b_of (show flG k ro sub % 256 < 256 by omega), b_of (show flG k ro sub / 256 < 256 by omega), b_of (show d % 256 < 256 by omega), b_of (show d / 256 < 256 by omega), b_of (show p % 256 < 256 by omega), b_of (show p / 256 < 256 by omega)]
  have e1 : d % 256 + 256 * (d / 256) = d := by omega
  have e2 : p % 256 + 256 * (p / 256) = p := by omega
  rw [e1, e2]
  have hb : ¬ (16 ≤ flG k ro sub % 256 ∨ flG k ro sub / 256 ≠ 0 ∨ flG k ro sub % 256 % 4 = 3) := by
    have h4 : flG k ro sub % 4 = k := by unfold flG; split <;> split <;> omega
    omega
  rw [if_neg hb]
  cases sub with
  | true =>
    have h8 : flG k ro true % 256 / 8 = 1 := by unfold flG; simp; split <;> omega
    have h4 : flG k ro true % 256 % 4 = k := by unfold flG; simp; split <;> omega
    have h2 : decide (flG k ro true % 256 / 4 % 2 = 1) = ro := by unfold flG; cases ro <;> simp <;> omega
    have eo : (UInt8.ofNat off).toNat = off := b_of ho
    have el : (UInt8.ofNat (ln - 1)).toNat = ln - 1 := b_of (by omega)
    rw [if_pos h8]
    simp only [if_true, h4, h2, eo, el, wantG]
    rw [if_neg (by omega), show ln - 1 + 1 = ln by omega]
  | false =>
    have h8 : ¬ flG k ro false % 256 / 8 = 1 := by unfold flG; simp; split <;> omega
    have h4 : flG k ro false % 256 % 4 = k := by unfold flG; simp; split <;> omega
    have h2 : decide (flG k ro false % 256 / 4 % 2 = 1) = ro := by unfold flG; cases ro <;> simp <;> omega
    rw [if_neg h8]
    simp [h4, h2, wantG]
end Go.Proofs.Ytibiianmpajabaa
