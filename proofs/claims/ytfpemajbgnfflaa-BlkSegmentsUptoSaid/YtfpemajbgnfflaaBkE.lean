/-
  Package blk: segments in memory; the reference's Segments; isBackwards.
-/
import Derived.Test.YtfpemajbgnfflaaBkC
set_option linter.unusedSimpArgs false
set_option linter.unusedVariables false
namespace Go.Proofs.Ytfpemajbgnfflaa.Bk
open Go.RowKit Gen
set_option maxHeartbeats 4000000

def Seg.val (s : Seg) : Value := .agg #[.int .i64 s.ref, .int .i64 s.first, .int .i64 s.last]
/-- segments as cells -/
def scells : List Seg → List Value
  | [] => []
  | s :: l => .int .i64 s.ref :: .int .i64 s.first :: .int .i64 s.last :: scells l
theorem scells_len (l : List Seg) : (scells l).length = l.length * 3 := by
  induction l with
  | nil => rfl
  | cons s l ih => simp [scells, ih]; omega
theorem scells_app (a b : List Seg) : scells (a ++ b) = scells a ++ scells b := by
  induction a with
  | nil => rfl
  | cons s a ih => simp [scells, ih]
theorem scells_get : ∀ (l : List Seg) (k : Nat) (s : Seg), l[k]? = some s → (scells l)[k * 3]? = some (.int .i64 s.ref) ∧ (scells l)[k * 3 + 1]? = some (.int .i64 s.first) ∧ (scells l)[k * 3 + 2]? = some (.int .i64 s.last)
  | [], k, s, h => by simp at h
  | x :: l, 0, s, h => by simp at h; subst h; exact ⟨rfl, rfl, rfl⟩
  | x :: l, k + 1, s, h => by
    simp only [List.getElem?_cons_succ] at h
    obtain ⟨h1, h2, h3⟩ := scells_get l k s h
    rw [show (k + 1) * 3 = k * 3 + 3 by omega]
    exact ⟨h1, h2, h3⟩
theorem scells_one (l : List Seg) : ∀ v ∈ scells l, v.oneCell' = true := by
  induction l with
  | nil => intro v h; cases h
  | cons s l ih =>
    intro v h
    simp only [scells, List.mem_cons] at h
    rcases h with rfl | rfl | rfl | h
    · rfl
    · rfl
    · rfl
    · exact ih v h
theorem info_seg : (Try.prog.info? 37).map (fun i => (i.zero, i.size, i.bytes)) = some (some (.agg #[.int .i64 0, .int .i64 0, .int .i64 0]), 3, 24) := by kernel_rfl
abbrev OwnS (w : World) (base : Nat) (v : Value) (l : List Seg) : Prop := w.ownsRow base 37 3 v l.length (scells l)
theorem ownS_nil (w : World) (base : Nat) : OwnS w base (.slice none 0 0) [] := World.ownsRow_nil w base 37 3
/-- what Segments leaves -/
def SegsPost (w : World) (l : List UInt8) (e : Ending) (w' : World) : Prop := ∃ v, e = .returned (.tuple #[v, .int .i64 (segsR l).2]) ∧ OwnS w' w.heap.size v (segsR l).1 ∧ w.grownBy w' none
theorem bBack (s : Seg) (w : World) : Calls Try.prog 10 #[s.val] w fun e w' => e = .returned (.bool s.back) ∧ w.grownBy w' none := by
  obtain ⟨r, f, l⟩ := s
  simp only [Seg.val, Seg.back]
  go_enter Try.func10, Try.ntmps10
  go_wp2
  go_ret
  exact ⟨rfl, World.grownBy_alloc _ _ _⟩
theorem rowS0 (w : World) : Row (w.alloc (.cells #[.int .i64 0, .int .i64 0, .int .i64 0] 37)) w.heap.size 37 3 (fun _ => .int .i64 0) :=
  ⟨_, heap_alloc_new w _, by simp, fun k hk => by match k, hk with | 0, _ => rfl | 1, _ => rfl | 2, _ => rfl⟩
theorem segsR_odd {l : List UInt8} (h : l.length % 2 = 1) : segsR l = ([], 1) := by unfold segsR; rw [if_pos h]
theorem segsR_ok {l : List UInt8} (h : l.length % 2 = 0) (hk : segsOk l = true) : segsR l = (segsV l, 0) := by unfold segsR; rw [if_neg (by omega), if_pos hk]
theorem segsR_bad {l : List UInt8} (h : l.length % 2 = 0) (hk : segsOk l = false) : segsR l = ([], 4) := by unfold segsR; rw [if_neg (by omega), if_neg (by simp [hk])]
theorem rSegs_odd (l : List UInt8) (p : Option Addr) (c : Nat) (w : World) (hl : l.length ≤ 140737488351232) (ho : l.length % 2 = 1) : Calls Try.prog 5 #[.slice p l.length c] w (SegsPost w l) := by
  unfold SegsPost
  rw [segsR_odd ho]
  have e1 : ((l.length : Int).tmod 2) = 1 := by rw [Int.tmod_eq_emod_of_nonneg (by omega)]; omega
  have e2 : (((l.length : Int).tmod 2) != 0) = true := by rw [e1]; rfl
  generalize l.length = n at *
  go_enter Try.func5, Try.ntmps5
  go_wp2
  go_ret2
  exact ⟨_, rfl, ownS_nil _ _, grownBy_refl _ _⟩
theorem take_all {l : List Seg} {k : Nat} (h : l.length ≤ k) : l.take k = l := List.take_of_length_le h
theorem bad_at {l : List UInt8} {k : Nat} {s : Seg} (h : (segsV l)[k]? = some s) (hg : segGood s = false) : segsOk l = false := by
  unfold segsOk
  rw [List.all_eq_false]
  exact ⟨s, List.mem_of_getElem? h, by simp [hg]⟩
theorem take_next {l : List Seg} {k : Nat} {s : Seg} (h : l[k]? = some s) : l.take (k + 1) = l.take k ++ [s] := by
  rw [List.take_add_one, h]; rfl
theorem all_next {l : List Seg} {k : Nat} {s : Seg} (h : l[k]? = some s) (ha : (l.take k).all segGood = true) (hs : segGood s = true) : (l.take (k + 1)).all segGood = true := by
  rw [take_next h, List.all_append, ha]; simp [hs]
set_option maxRecDepth 100000 in
theorem rSegs (l : List UInt8) (b o c : Nat) (w : World) (hl : l.length ≤ 16777216) (ho : l.length % 2 = 0) (h : BA w (some ⟨b, o, none⟩) l) : Calls Try.prog 5 #[.slice (some ⟨b, o, none⟩) l.length c] w (SegsPost w l) := by
  unfold SegsPost
  have e1 : ((l.length : Int).tmod 2) = 0 := by rw [Int.tmod_eq_emod_of_nonneg (by omega)]; omega
  have e2 : (((l.length : Int).tmod 2) != 0) = false := by rw [e1]; rfl
  obtain ⟨i0, hi, hz0, hz1, hz2⟩ := info_parts info_seg
  have Hi := hid hi; have Hz0 := hid hz0; have Hz1 := hid hz1; have Hz2 := hid hz2
  have HO := hid ho
  have H := hid h
  have HL := hid (segsV_len l)
  obtain ⟨n, hn⟩ : ∃ n, l.length = n := ⟨_, rfl⟩
  have HN := hid hn
  clear hi hz0 hz1 hz2 ho h
  rw [hn] at e1 e2 hl
  rw [hn]
  clear hn
  go_enter Try.func5, Try.ntmps5
  go_wp2
  go_loopw [4, 5] (fun v i wr => ∃ k : Nat, i = .int .i64 ((2 * k : Nat) : Int) ∧ 2 * k ≤ n ∧ Hid (((segsV l).take k).all segGood = true) ∧ Hid (OwnS wr w.heap.size v ((segsV l).take k)) ∧ Hid (w.grownBy wr none)) (fun _ i _ => n - (intOf i).toNat)
  case atStart => exact ⟨0, rfl, by omega, hid rfl, hid (ownS_nil _ _), hid (grownBy_refl _ _)⟩
  case round =>
    obtain ⟨k, rfl, hk, HA, HR, HG⟩ := hrel
    have hkl : k ≤ (segsV l).length := by have := HL.out; have := HN.out; omega
    have HTl := hid (show ((segsV l).take k).length = k by rw [List.length_take]; omega)
    clear hkl
    by_cases hlt : 2 * k < n
    · have hk2 : 2 * k + 1 < l.length := by have := HO.out; have := HN.out; omega
      have hs := segsV_get l k hk2
      have c0 := H.out.grown HG.out |>.at (k := 2 * k) (by omega)
      have c1 := H.out.grown HG.out |>.at (k := 2 * k + 1) (by omega)
      have hx := UInt8.toNat_lt (l.getD (2 * k) 0)
      have hy := UInt8.toNat_lt (l.getD (2 * k + 1) 0)
      have hsx : segOf (l.getD (2 * k) 0) (l.getD (2 * k + 1) 0) = ⟨((l.getD (2 * k) 0).toNat : Int), ((l.getD (2 * k + 1) 0).toNat % 4 : Nat), ((l.getD (2 * k + 1) 0).toNat / 4 : Nat)⟩ := rfl
      rw [hsx] at hs
      have HS := hid hs
      clear hs hsx
      generalize (l.getD (2 * k) 0).toNat = x at *
      generalize (l.getD (2 * k + 1) 0).toNat = y at *
      obtain ⟨j, hj⟩ : ∃ j, 2 * k = j := ⟨_, rfl⟩
      have HJ := hid hj
      have hj2 : j + 2 ≤ n := by have := HO.out; have := HN.out; omega
      rw [hj] at c0 c1 hlt hk
      rw [hj]
      clear hj
      have t1 : ((j : Int) + 1).toNat = j + 1 := by omega
      have t2 : wrap64 ((j : Int) + 1) = (j : Int) + 1 := by unfold wrap64; omega
      have t3 : IntKind.i64.wrap ((j : Int) + 1) = (j : Int) + 1 := by rw [IntKind.wrap_i64]; omega
      have t4 : (j : Int) + 1 < n := by omega
      have t5 : (0 : Int) ≤ (j : Int) + 1 := by omega
      have t6 : (j : Int) < n := by omega
      obtain ⟨T, hT⟩ : ∃ T, (segsV l).take k = T := ⟨_, rfl⟩
      have HT := hid hT
      have hTl := HTl.out
      rw [hT] at hTl HR HA
      have hR := HR.out
      unfold OwnS at hR
      rw [hTl] at hR
      obtain ⟨pv, cv, hv⟩ := ownsRow_slice hR
      subst hv
      have HR2 := hid hR
      have HTL := hid hTl
      clear HR hR hT hTl HTl
      go_wp2
      have N0 := World.new_ne wr ⟨b, o + j, none⟩ c0
      have N1 := World.new_ne wr ⟨b, o + (j + 1), none⟩ c1
      have r7 := rowS0 wr.drew
      have v0 := r7.cell (k := 0) (by omega); have v1 := r7.cell (k := 1) (by omega); have v2 := r7.cell (k := 2) (by omega); have vz := r7.frozen
      clear r7
      go_region_held3 (fun w' => w'.cell? ⟨b, o + j, none⟩ = some (.int .u8 x) ∧ w'.cell? ⟨b, o + (j + 1), none⟩ = some (.int .u8 y)) (first | exact ⟨by assumption, by assumption⟩ | go_keep) (fail)
      rw [show IntKind.i64.wrap ((y : Int).tmod 4) = ((y % 4 : Nat) : Int) by rw [Int.tmod_eq_emod_of_nonneg (by omega), IntKind.wrap_i64]; omega,
        show IntKind.i64.wrap (IntKind.u8.wrap ((y : Int) / 4)) = ((y / 4 : Nat) : Int) by rw [IntKind.wrap_u8, IntKind.wrap_i64]; omega,
        show IntKind.i64.wrap (x : Int) = (x : Int) by rw [IntKind.wrap_i64]; omega]
      obtain ⟨f, hf⟩ : ∃ f, y % 4 = f := ⟨_, rfl⟩
      obtain ⟨g, hg⟩ : ∃ g, y / 4 = g := ⟨_, rfl⟩
      have hf4 : f < 4 := by omega
      have hg64 : g < 64 := by omega
      rw [hf, hg] at HS
      rw [hf, hg]
      clear v0 v1 v2 vz N0 N1 c0 c1 hf hg t1 t2 t3 t4 t5 t6 e1 e2
      obtain ⟨W2, hW2⟩ : ∃ W2, (wr.alloc (.cells #[.int .i64 x, .int .i64 f, .int .i64 g] 37)).drew = W2 := ⟨_, rfl⟩
      have HG2 := hid (show wr.grownBy W2 none by rw [← hW2]; exact (World.grownBy_alloc _ _ none).trans (grownBy_drew _ none))
      have f0 : W2.cell? ⟨wr.heap.size, 0, none⟩ = some (.int .i64 x) := by rw [← hW2]; simp [go_sem]
      have f1 : W2.cell? ⟨wr.heap.size, 1, none⟩ = some (.int .i64 f) := by rw [← hW2]; simp [go_sem]
      have f2 : W2.cell? ⟨wr.heap.size, 2, none⟩ = some (.int .i64 g) := by rw [← hW2]; simp [go_sem]
      rw [hW2]
      clear hW2
      have wf : W2.heap.size = W2.heap.size := rfl
      by_cases hgood : g ≤ 3 ∧ f ≤ g
      · obtain ⟨q1, q2⟩ := hgood
        have q1' : decide ((3 : Int) < g) = false := by simp; omega
        have q2' : decide ((g : Int) < f) = false := by simp; omega
        have HGd := hid (show segGood ⟨(x : Int), (f : Int), (g : Int)⟩ = true by simp [segGood]; omega)
        have HR3 := hid (own_grown HR2.out HG2.out)
        have hkb : k ≤ 16777216 := by have := HJ.out; omega
        go_wp2_with (at_builtin; refine wpList_append_own _ rfl _ _ 23 rfl w.heap.size 37 i0 (.agg #[.int .i64 0, .int .i64 0, .int .i64 0]) 3 24 Try.underlying23 Hi.out Hz0.out Hz1.out Hz2.out rfl (by decide) _ _ _ rfl (HR3.out.alloc _) ⟨W2.heap.size, 0, none⟩ 1 1 [.int .i64 x, .int .i64 f, .int .i64 g] rfl rfl (World.news_of_block (heap_alloc_new W2 _)) (by simp [Value.oneCell']) (by unfold maxLen; omega) (by omega) (by have := HG.out.size; have := HG2.out.size; simp; omega) ?_; intro v' w2 hown' hgrow hnil; clear hnil; have HO3 := hid hown'; have HG3 := hid ((HG.out.trans (HG2.out.trans (World.grownBy_alloc W2 _ none))).andThen hgrow (fun j hj => .inl (HR3.out.lt j hj).1)); clear hown' hgrow)
        go_roundw
        case rel => exact ⟨k + 1, by have := HJ.out; go_num, by have := HJ.out; omega, hid (all_next HS.out (HT.out ▸ HA.out) HGd.out), hid (by have h2 := HO3.out; unfold OwnS; rw [take_next HS.out, HT.out, List.length_append, scells_app, HTL.out]; exact h2), HG3⟩
        case measure => simp [intOf]; omega
      · have HBd := hid (bad_at HS.out (by simp [segGood]; omega))
        have HG4 := hid (HG.out.trans HG2.out)
        by_cases h3 : g ≤ 3
        · have q1' : decide ((3 : Int) < g) = false := by simp; omega
          have q2' : decide ((g : Int) < f) = true := by simp; omega
          go_wp2
          go_ret2
          rw [segsR_bad HO.out HBd.out]
          exact ⟨_, rfl, ownS_nil _ _, HG4.out⟩
        · have q1' : decide ((3 : Int) < g) = true := by simp; omega
          go_wp2
          go_ret2
          rw [segsR_bad HO.out HBd.out]
          exact ⟨_, rfl, ownS_nil _ _, HG4.out⟩
    · have hge : ¬ (((2 * k : Nat) : Int) < n) := by omega
      have HK := hid (show k = n / 2 by omega)
      have hT : (segsV l).take k = segsV l := by
        have := HL.out
        have := HN.out
        rw [List.take_of_length_le (by omega)]
      rw [hT] at HA HR
      have HA2 := hid (show segsOk l = true from HA.out)
      obtain ⟨pv, cv, hv⟩ := ownsRow_slice HR.out
      subst hv
      have hm : (segsV l).length = (segsV l).length := rfl
      obtain ⟨m, hm⟩ : ∃ m, (segsV l).length = m := ⟨_, rfl⟩
      have HM := hid hm
      rw [hm]
      clear HTl hT HK hm
      obtain ⟨j, hj⟩ : ∃ j, 2 * k = j := ⟨_, rfl⟩
      rw [hj] at hge hlt hk
      rw [hj]
      clear hj
      go_wp2
      go_ret2
      rw [segsR_ok HO.out HA2.out]
      have h2 := HR.out
      exact ⟨_, rfl, by rw [HM.out] at h2; unfold OwnS; rw [HM.out]; unfold OwnS at h2; rw [HM.out] at h2; exact h2, HG.out⟩
end Go.Proofs.Ytfpemajbgnfflaa.Bk
