/-
  Package image: pick, Dirty, Need.
-/
import Derived.Test.YtpjlhiagifoogaaGreatImS
set_option linter.unusedSimpArgs false
set_option linter.unusedVariables false
namespace Go.Proofs.YtpjlhiagifoogaaGreat.Imx
open Go.RowKit Gen CM
set_option maxHeartbeats 1000000

def icells (l : List Nat) : List Value := l.map fun k : Nat => .int .i64 (k : Int)
theorem icells_len (l : List Nat) : (icells l).length = l.length := by simp [icells]
theorem icells_app (l l' : List Nat) : icells (l ++ l') = icells l ++ icells l' := by simp [icells]
theorem icells_get (l : List Nat) (k : Nat) : (icells l)[k]? = l[k]?.map fun k : Nat => .int .i64 (k : Int) := by simp [icells]
attribute [irreducible] icells
theorem icells_one (k : Nat) : icells [k] = [.int .i64 (k : Int)] := by unfold icells; rfl
theorem info_int : (Tryz.prog.info? 3).map (fun i => (i.zero, i.size, i.bytes)) = some (some (.int .i64 0), 1, 8) := by kernel_rfl
/-- a slice of ints of its own -/
def NewI (w : World) (l : List Nat) (v : Value) (w' : World) : Prop := w'.ownsRow w.heap.size 3 1 v l.length (icells l) ∧ w.grownBy w' none
theorem NewI.first {w0 w w' : World} {l : List Nat} {v : Value} (hg : w0.grownBy w none) (h : NewI w l v w') : NewI w0 l v w' := ⟨own_lower h.1 hg.size, hg.trans h.2⟩
section
variable {w : World} {b g m : Nat} {I : Im}
/-- Need's closure -/
theorem ineed1 (h : PI w b g m I) (hok : I.ok) (k : Nat) (hk : k < I.n) (f q a : Nat) (x y : Int) (hx : 0 ≤ x) (hy : 0 ≤ y) (hxy : x + y ≤ I.n) (hf : w.cell? ⟨f, 0, none⟩ = some (.int .i64 x)) (hq : w.cell? ⟨q, 0, none⟩ = some (.int .i64 y)) (ha : w.cell? ⟨a, 0, none⟩ = some (.pointer (some ⟨b, 0, none⟩))) :
    Calls Tryz.prog 210 #[.int .i64 k, .pointer (some ⟨f, 0, none⟩), .pointer (some ⟨q, 0, none⟩), .pointer (some ⟨a, 0, none⟩)] w fun e w' => e = .returned (.bool (I.bare x y k)) ∧ w.grownBy w' none := by
  have hn := hok.n256
  have HX := hid (ihas h hok k (I64.of (by omega) (by omega)))
  clear h hok
  by_cases h1 : x ≤ k
  · by_cases h2 : (k : Int) < x + y
    · have e : I.bare x y k = !I.has k := by unfold Im.bare; simp [h1, h2]
      rw [e]
      clear e
      go_enter Tryz.func210, Tryz.ntmps210
      go_wp2_with (go_at_call 211; refine HX.out.mono ?_; rintro e w1 ⟨rfl, g1⟩; have G1 := hid g1; clear g1)
      go_ret
      exact ⟨rfl, G1.out⟩
    · have e : I.bare x y k = false := by unfold Im.bare; simp [h2]
      rw [e]
      clear e
      go_enter Tryz.func210, Tryz.ntmps210
      go_wp2
      go_ret
      exact ⟨rfl, grownBy_refl _ _⟩
  · have e : I.bare x y k = false := by unfold Im.bare; simp [h1]
    rw [e]
    clear e
    go_enter Tryz.func210, Tryz.ntmps210
    go_wp2
    go_ret
    exact ⟨rfl, grownBy_refl _ _⟩
set_option maxRecDepth 100000 in
theorem ipickN (h : PI w b g m I) (hok : I.ok) (f q a : Nat) (x y : Int) (hx : 0 ≤ x) (hy : 0 ≤ y) (hxy : x + y ≤ I.n) (hf : w.cell? ⟨f, 0, none⟩ = some (.int .i64 x)) (hq : w.cell? ⟨q, 0, none⟩ = some (.int .i64 y)) (ha : w.cell? ⟨a, 0, none⟩ = some (.pointer (some ⟨b, 0, none⟩))) :
    Calls Tryz.prog 209 #[.pointer (some ⟨b, 0, none⟩), .func (.func 210) #[] #[.pointer (some ⟨f, 0, none⟩), .pointer (some ⟨q, 0, none⟩), .pointer (some ⟨a, 0, none⟩)]] w fun e w' => ∃ v, e = .returned v ∧ NewI w (pickL (I.bare x y) I.n) v w' := by
  obtain ⟨i0, hi, hz0, hz1, hz2⟩ := info_parts info_int
  have Hi := hid hi; have Hz0 := hid hz0; have Hz1 := hid hz1; have Hz2 := hid hz2
  clear hi hz0 hz1 hz2
  have hn := hok.n256
  have HH := hid h
  have HS := hid (iSectors h)
  have HD := hid (fun (w' : World) (hg : w.grownBy w' none) (k : Nat) (hk : k < I.n) => ineed1 (h.grown hg) hok k hk f q a x y hx hy hxy (hg.cell hf (by simp)) (hg.cell hq (by simp)) (hg.cell ha (by simp)))
  clear h hok ha hf hq hx hy hxy
  go_enter Tryz.func209, Tryz.ntmps209
  go_wp2_with (go_at_call 35; refine HS.out.mono ?_; rintro e w' ⟨rfl, rfl⟩)
  go_loopw [5, 9] (fun v i wr => ∃ k : Nat, i = .int .i64 k ∧ k ≤ I.n ∧ wr.ownsRow w.heap.size 3 1 v (pickL (I.bare x y) k).length (icells (pickL (I.bare x y) k)) ∧ w.grownBy wr none) (fun _ i _ => I.n - (intOf i).toNat)
  case atStart => exact ⟨0, rfl, by omega, by have := World.ownsRow_nil w w.heap.size 3 1; simpa [pickL, icells] using this, grownBy_refl _ _⟩
  case round =>
    obtain ⟨k, rfl, hk, hrow, hg⟩ := hrel
    obtain ⟨pv, cv, hv⟩ := ownsRow_slice hrow
    have HO := hid hrow
    have HG := hid hg
    clear hrow hg
    subst hv
    have hk0 : (0 : Int) ≤ k := by omega
    by_cases hlt : k < I.n
    · have hlt' : (k : Int) < I.n := by omega
      have hl := pickL_len (I.bare x y) k
      cases hs : I.bare x y k with
      | false =>
        have e3 := hid (pickL_no (p := I.bare x y) hs)
        have HD1 := hid (HD.out wr HG.out k hlt)
        rw [hs] at HD1
        clear hs
        go_wp2_with (go_at_call 210; refine HD1.out.mono ?_; rintro e w1 ⟨rfl, g1⟩; have G1 := hid g1; clear g1)
        go_roundw
        case rel => exact ⟨k + 1, by go_num, by omega, by rw [e3.out]; exact HO.out.kept G1.out (none_row' _), HG.out.trans G1.out⟩
        case measure => simp [intOf]; omega
      | true =>
        have e3 := hid (pickL_yes (p := I.bare x y) hs)
        have HD1 := hid (HD.out wr HG.out k hlt)
        rw [hs] at HD1
        clear hs
        go_wp2_with (first
          | (go_at_call 210; refine HD1.out.mono ?_; rintro e w1 ⟨rfl, g1⟩; have HO2 := hid (HO.out.kept g1 (none_row' _)); have HG2 := hid (HG.out.trans g1); clear g1)
          | (at_builtin; refine wpList_append_own _ rfl _ _ 275 rfl w.heap.size 3 i0 (.int .i64 0) 1 8 Tryz.underlying275 Hi.out Hz0.out Hz1.out Hz2.out rfl (by decide) _ _ _ rfl (HO2.out.alloc _) ⟨w1.heap.size, 0, none⟩ 1 1 [.int .i64 k] rfl rfl (World.news_of_block (heap_alloc_new w1 _)) (by simp [Value.oneCell']) (by unfold maxLen; omega) (by omega) (by have := HG2.out.size; simp; omega) ?_; intro v' w2 hown' hgrow hnil; clear hnil; have HO3 := hid hown'; have HG3 := hid ((HG2.out.trans (World.grownBy_alloc w1 _ none)).andThen hgrow (fun j hj => .inl (HO2.out.lt j hj).1)); clear hown' hgrow))
        go_roundw
        case rel => exact ⟨k + 1, by go_num, by omega, by rw [e3.out, icells_app, List.length_append, icells_one]; exact HO3.out, HG3.out⟩
        case measure => simp [intOf]; omega
    · obtain rfl : k = I.n := by omega
      have hge : (I.n : Int) ≤ I.n := by omega
      go_wp2
      go_ret
      exact ⟨_, rfl, HO.out, HG.out⟩
theorem ipick_no (p : Option Addr) (fn : Value) (w : World) (h : NoI w p) : Calls Tryz.prog 209 #[.pointer p, fn] w fun e w' => e = .returned (.slice none 0 0) ∧ w = w' := by
  have HS := hid (iSectors_no p w h)
  clear h
  go_enter Tryz.func209, Tryz.ntmps209
  go_wp2_with (go_at_call 35; refine HS.out.mono ?_; rintro e w' ⟨rfl, rfl⟩)
  go_loop [5, 9] (fun v i => v = .slice none 0 0 ∧ i = .int .i64 0) (fun _ _ => 0)
  case atStart => exact ⟨rfl, rfl⟩
  case round =>
    obtain ⟨rfl, rfl⟩ := hrel
    go_wp2
    go_ret
    exact ⟨rfl, rfl⟩
end
end Go.Proofs.YtpjlhiagifoogaaGreat.Imx
