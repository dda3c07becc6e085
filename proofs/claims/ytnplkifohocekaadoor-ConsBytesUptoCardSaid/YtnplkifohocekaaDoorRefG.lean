/-
  Contracts of package tenementref01: Read, Write.
-/
import Derived.Test.YtnplkifohocekaaDoorRefF
set_option linter.unusedSimpArgs false
set_option linter.unusedVariables false
namespace Go.Proofs.YtnplkifohocekaaDoor
open Go.RowKit
set_option maxHeartbeats 400000

/-- bytes in memory of their own -/
def OutBytes (w : World) (l : List UInt8) (v : Value) (w' : World) : Prop := ∃ p c, v = .slice p l.length c ∧ InBytes w' p l ∧ w.grownBy w' none
theorem info_u8 : (Tryd.prog.info? 5).map (fun i => (i.zero, i.size, i.bytes)) = some (some (.int .u8 0), 1, 1) := by kernel_rfl

theorem outBytes_of {w w' : World} {base n : Nat} {v : Value} {l : List UInt8} (h : w'.ownsRow base 5 1 v n (bcells l)) (hn : l.length = n) (hg : w.grownBy w' none) : OutBytes w l v w' := by
  subst hn
  obtain ⟨p, c, rfl⟩ := ownsRow_slice h
  refine ⟨p, c, rfl, ?_, hg⟩
  by_cases hl : l = []
  · exact .inl hl
  · obtain ⟨m, hm⟩ : ∃ m, l.length = m + 1 := ⟨l.length - 1, by have := List.length_pos_iff.2 hl; omega⟩
    have h' := h
    rw [hm] at h'
    obtain ⟨g, cap, e⟩ := ownsRow_succ h'
    cases e
    have hb := (h.lt g rfl).2
    refine .inr ⟨g, 0, rfl, hb, fun k hk => ?_⟩
    rw [Nat.zero_add, h'.cellAt k (by omega), bcells_get, List.getElem?_eq_getElem hk]
    simp [List.getD, List.getElem?_eq_getElem hk]
theorem part_cells {w : World} {b : Nat} {M : Mach} {L : Lay} (h : RM w b M L) {j off n : Nat} (hj : j < L.n) (hp : off + n ≤ 256) (k : Nat) (u : Value) (hu : (bcells ((M.fr j).part off n))[k]? = some u) :
    w.cell? ((⟨L.g j, off, none⟩ : Addr).add k) = some u := by
  rw [bcells_get, Fr.part_get] at hu
  split at hu
  · cases hu
    have e : (⟨L.g j, off, none⟩ : Addr).add k = ⟨L.g j, off + k, none⟩ := by unfold Addr.add; split <;> simp_all
    rw [e]
    exact h.byte hj (by omega)
  · cases hu

theorem rRead_no (b : Nat) (i off n : Int) (w : World) (M : Mach) (L : Lay) (h : RM w b M L) (hn : n ≤ 9223372036854775807) (hi : M.is i = false ∨ inP off n = false) :
    Calls Tryd.prog 82 #[.pointer (some ⟨b, 0, none⟩), .int .i64 i, .int .i64 off, .int .i64 n] w fun e w' => e = .returned (.tuple #[.slice none 0 0, .int .i64 1]) ∧ w = w' := by
  go_enter Tryd.func82, Tryd.ntmps82
  go_wp2_with (go_at_call 66; refine (In_no _ _ _ _ _ _ _ h hn hi).mono ?_; rintro e w' ⟨rfl, rfl⟩)
  go_ret2
  exact ⟨rfl, rfl⟩
theorem rRead_yes (b j off n : Nat) (w : World) (M : Mach) (L : Lay) (h : RM w b M L) (hj : j < L.n) (hp : off + n ≤ 256) :
    Calls Tryd.prog 82 #[.pointer (some ⟨b, 0, none⟩), .int .i64 j, .int .i64 off, .int .i64 n] w fun e w' => ∃ v, e = .returned (.tuple #[v, .int .i64 0]) ∧ OutBytes w ((M.fr j).part off n) v w' := by
  have HM := hid h
  have hcg := h.cap j hj
  have c0 := h.slB; have c1 := h.sl hj
  have hj' : (j : Int) < L.n := by omega
  have hj0 : (0 : Int) ≤ j := by omega
  have h0 : (0 : Int) ≤ off := by omega
  have h1 : (0 : Int) ≤ n := by omega
  have h2 : (off : Int) + n ≤ 256 := by omega
  have h3 : (off : Int) + n ≤ L.cg j := by omega
  obtain ⟨i0, hi, hz0, hz1, hz2⟩ := info_parts info_u8
  have Hi := hid hi; have Hz0 := hid hz0; have Hz1 := hid hz1; have Hz2 := hid hz2
  clear hi hz0 hz1 hz2 h
  have HM2 := hid (HM.out.grown (World.grownBy_alloc w (.cells #[] 5) none))
  have c0' := HM2.out.slB; have c1' := HM2.out.sl hj
  by_cases he : L.cg j = off
  · obtain rfl : off = 256 := by omega
    obtain rfl : n = 0 := by omega
    go_enter Tryd.func82, Tryd.ntmps82
    go_wp2_with (first
      | (go_at_call 66; refine (In_yes _ _ _ _ _ _ _ HM.out hj hp).mono ?_; rintro e w' ⟨rfl, rfl⟩)
      | (at_builtin; refine wpList_append_own _ rfl _ _ 22 rfl w.heap.size 5 i0 (.int .u8 0) 1 1 Tryd.underlying22 Hi.out Hz0.out Hz1.out Hz2.out rfl (by decide) _ 0 [] rfl (World.ownsRow_made w #[] 0 (Nat.le_refl _) (by unfold maxLen; omega) (by simp)) _ 0 _ (bcells ((M.fr j).part 256 0)) rfl (by rw [bcells_len, part_len]) (fun k u hu => by rw [bcells_get] at hu; simp [Fr.part] at hu) (bcells_one _) (by unfold maxLen; omega) (by omega) (by simp) ?_; intro v' w2 hown' hgrow hnil; simp only [Nat.zero_add, List.nil_append] at hown'; have HO := hid hown'; have HG := hid ((World.grownBy_alloc w (.cells #[] 5) none).andThen hgrow (fun j hj => by cases hj; exact .inl (Nat.le_refl _))); clear hown' hgrow hnil))
    go_ret2
    exact ⟨_, rfl, outBytes_of HO.out (part_len _ _ _) HG.out⟩
  · go_enter Tryd.func82, Tryd.ntmps82
    go_wp2_with (first
      | (go_at_call 66; refine (In_yes _ _ _ _ _ _ _ HM.out hj hp).mono ?_; rintro e w' ⟨rfl, rfl⟩)
      | (at_builtin; refine wpList_append_own _ rfl _ _ 22 rfl w.heap.size 5 i0 (.int .u8 0) 1 1 Tryd.underlying22 Hi.out Hz0.out Hz1.out Hz2.out rfl (by decide) _ 0 [] rfl (World.ownsRow_made w #[] 0 (Nat.le_refl _) (by unfold maxLen; omega) (by simp)) ⟨L.g j, off, none⟩ (off + n - off) _ (bcells ((M.fr j).part off n)) rfl (by simp [bcells_len, part_len]) (fun k u hu => part_cells HM2.out hj hp k u hu) (bcells_one _) (by unfold maxLen; omega) (by omega) (by simp) ?_; intro v' w2 hown' hgrow hnil; simp only [Nat.zero_add, List.nil_append] at hown'; have HO := hid hown'; have HG := hid ((World.grownBy_alloc w (.cells #[] 5) none).andThen hgrow (fun j hj => by cases hj; exact .inl (Nat.le_refl _))); clear hown' hgrow hnil))
    go_ret2
    exact ⟨_, rfl, outBytes_of HO.out (by rw [part_len]; omega) HG.out⟩
end Go.Proofs.YtnplkifohocekaaDoor
