/-
  Package image: Clone of bytes, Base, Read, Trim.
-/
import Derived.Test.YtpjlhiagifoogaaGreatImN
set_option linter.unusedSimpArgs false
set_option linter.unusedVariables false
namespace Go.Proofs.YtpjlhiagifoogaaGreat.Imx
open Go.RowKit Gen CM
set_option maxHeartbeats 1000000

/-- the bytes l stand from p on -/
def BA (w : World) (p : Option Addr) (l : List UInt8) : Prop := ∀ k, k < l.length → ∃ b o, p = some ⟨b, o, none⟩ ∧ w.cell? ⟨b, o + k, none⟩ = some (.int .u8 (l.getD k 0).toNat)
theorem BA.grown {w w' : World} {p : Option Addr} {l : List UInt8} (h : BA w p l) (hg : w.grownBy w' none) : BA w' p l := fun k hk => by
  obtain ⟨b, o, e, hc⟩ := h k hk
  exact ⟨b, o, e, hg.cell hc (by simp)⟩
theorem BA.nil (w : World) (p : Option Addr) : BA w p [] := fun k hk => by simp at hk
theorem BlkAt.ba {w : World} {g : Nat} {l : List UInt8} (h : BlkAt w g l) : BA w (some ⟨g, 0, none⟩) l := fun k hk => ⟨g, 0, rfl, by rw [Nat.zero_add]; exact h.cell (by have := h.2; omega)⟩
/-- a slice of bytes of its own -/
def NewB (w : World) (l : List UInt8) (v : Value) (w' : World) : Prop := w'.ownsRow w.heap.size 5 1 v l.length (bcells l) ∧ w.grownBy w' none
theorem NewB.ba {w w' : World} {l : List UInt8} {v : Value} (h : NewB w l v w') : ∃ p c, v = .slice p l.length c ∧ BA w' p l ∧ (∀ a, p = some a → w.heap.size ≤ a.block) ∧ l.length ≤ c ∧ (p = none → c = 0) := by
  have hh := h.1
  rcases hh.2 with ⟨rfl, h0⟩ | ⟨g, cap, cur, rfl, hb, hg, hc, _⟩
  · have : l = [] := List.eq_nil_of_length_eq_zero h0
    subst this
    exact ⟨none, 0, rfl, BA.nil _ _, (fun a e => by cases e), Nat.le_refl _, fun _ => rfl⟩
  · refine ⟨_, _, rfl, fun k hk => ⟨g, 0, rfl, ?_⟩, (fun a e => by cases e; exact hb), hc, (fun e => by cases e)⟩
    rw [Nat.zero_add, h.1.cellAt k (by omega), bcells_at hk]
theorem own_lower {base base' : Nat} {W : World} {e : TypeId} {size n : Nat} {v : Value} {xs : List Value} (h : W.ownsRow base e size v n xs) (hb : base' ≤ base) : W.ownsRow base' e size v n xs := by
  obtain ⟨h1, h2⟩ := h
  refine ⟨h1, ?_⟩
  rcases h2 with h2 | ⟨g, cap, cur, e1, h3, r⟩
  · exact .inl h2
  · exact .inr ⟨g, cap, cur, e1, Nat.le_trans hb h3, r⟩
theorem NewB.first {w0 w w' : World} {l : List UInt8} {v : Value} (hg : w0.grownBy w none) (h : NewB w l v w') : NewB w0 l v w' := ⟨own_lower h.1 hg.size, hg.trans h.2⟩
theorem info_u8 : (Tryz.prog.info? 5).map (fun i => (i.zero, i.size, i.bytes)) = some (some (.int .u8 0), 1, 1) := by kernel_rfl
set_option maxRecDepth 100000 in
theorem iClone (pa : Option Addr) (cap : Nat) (l : List UInt8) (w : World) (h : BA w pa l) (hl : l.length ≤ 140737488351232) :
    Calls Tryz.prog 111 #[.slice pa l.length cap] w fun e w' => ∃ v, e = .returned v ∧ NewB w l v w' := by
  have hq := fun w => Lib.run_eql_slice_nil (P := Tryz.prog) w 30 _ pa l.length cap 0 0 Tryz.underlying30
  cases pa with
  | none =>
    have hz : l = [] := by
      cases l with
      | nil => rfl
      | cons x l => obtain ⟨_, _, e, _⟩ := h 0 (by simp); cases e
    subst hz
    clear h
    have hq0 := fun w => Lib.run_eql_slice_nil (P := Tryz.prog) w 30 _ none 0 cap 0 0 Tryz.underlying30
    simp only [List.length_nil]
    clear hq
    go_enter Tryz.func111, Tryz.ntmps111
    go_wp2
    go_ret
    refine ⟨_, rfl, ?_, World.grownBy.refl _ _⟩
    have := World.ownsRow_nil w w.heap.size 5 1
    simpa [bcells] using this
  | some a =>
    obtain ⟨i0, hi, hz0, hz1, hz2⟩ := info_parts info_u8
    have Hi := hid hi; have Hz0 := hid hz0; have Hz1 := hid hz1; have Hz2 := hid hz2
    clear hi hz0 hz1 hz2
    have HG0 := hid (World.grownBy_alloc w (.cells #[] 5) none)
    have HOn := hid (World.ownsRow_made (base := w.heap.size) (e := 5) (size := 1) w #[] 0 (Nat.le_refl _) (by unfold maxLen; omega) (by simp))
    have HNw := hid (show ∀ j u, (bcells l)[j]? = some u → (w.alloc (.cells #[] 5)).cell? (a.add j) = some u from fun j u hu => by
      have hj := (List.getElem?_eq_some_iff.1 hu).1
      rw [bcells_len] at hj
      obtain ⟨b, o, e, hc⟩ := h j hj
      cases e
      have e : (⟨b, o, none⟩ : Addr).add j = ⟨b, o + j, none⟩ := by unfold Addr.add; split <;> simp_all
      rw [bcells_at hj] at hu
      cases hu
      rw [e]
      exact HG0.out.cell hc (by simp))
    have HL := hid (bcells_len l)
    clear h
    go_enter Tryz.func111, Tryz.ntmps111
    go_wp2_with (at_builtin; refine wpList_append_own _ rfl _ _ 30 rfl w.heap.size 5 i0 (.int .u8 0) 1 1 Tryz.underlying30 Hi.out Hz0.out Hz1.out Hz2.out rfl (by decide) _ 0 [] rfl HOn.out a l.length cap (bcells l) rfl (by rw [HL.out, Nat.mul_one]) HNw.out (bcells_one l) (by unfold maxLen; omega) (by omega) (by simp) ?_; intro v' w1 hown' hgrow hnil; clear hnil; simp only [Nat.zero_add, List.nil_append] at hown'; have HO1 := hid hown'; have HG1 := hid (HG0.out.andThen hgrow (fun j hj => .inl (HOn.out.lt j hj).1)); clear hown' hgrow)
    go_ret
    exact ⟨_, rfl, HO1.out, HG1.out⟩
section
variable {w : World} {b g m : Nat} {I : Im}
theorem iBase_none (p : Option Addr) (s : Int) (w : World) (h : NoI w p) : Calls Tryz.prog 36 #[.pointer p, .int .i64 s] w fun e w' => e = .returned (.tuple #[.slice none 0 0, .int .i64 7]) ∧ w = w' := by
  have H := hid h
  clear h
  go_enter Tryz.func36, Tryz.ntmps36
  go_wp2_with (go_at_call 110; refine (ilook_none _ _ _ H.out).mono ?_; rintro e w' ⟨rfl, rfl⟩)
  go_ret2
  exact ⟨rfl, rfl⟩
theorem iBase_no (h : PI w b g m I) (s : Int) (hs : I.is s = false) : Calls Tryz.prog 36 #[.pointer (some ⟨b, 0, none⟩), .int .i64 s] w fun e w' => e = .returned (.tuple #[.slice none 0 0, .int .i64 1]) ∧ w = w' := by
  have H := hid h
  have HS := hid hs
  clear h hs
  go_enter Tryz.func36, Tryz.ntmps36
  go_wp2_with (go_at_call 110; refine (ilook_no H.out _ HS.out).mono ?_; rintro e w' ⟨rfl, rfl⟩)
  go_ret2
  exact ⟨rfl, rfl⟩
theorem PI.base_ba (h : PI w b g m I) (hok : I.ok) {s : Int} (hs : I.is s = true) : BA w (some ⟨g, s.toNat * 64, none⟩) (I.base s) := fun k hk => by
  have hl := Im.base_len hok hs
  obtain ⟨h0, h1⟩ := Im.is_yes.1 hs
  rw [hl] at hk
  refine ⟨g, s.toNat * 64, rfl, ?_⟩
  have hlt : s.toNat < I.n := by omega
  rw [h.base.cell (by omega)]
  congr 4
  unfold Im.base
  simp [List.getD, List.getElem?_take, hk]
theorem iBase_yes (h : PI w b g m I) (hok : I.ok) (s : Int) (hs : I.is s = true) :
    Calls Tryz.prog 36 #[.pointer (some ⟨b, 0, none⟩), .int .i64 s] w fun e w' => ∃ v, e = .returned (.tuple #[v, .int .i64 0]) ∧ NewB w (I.base s) v w' := by
  have H := hid h
  have HS := hid hs
  have c0 := h.c0
  obtain ⟨h0, h1⟩ := Im.is_yes.1 hs
  have hn := hok.n256
  have HB := hid (h.base_ba hok hs)
  have HL := hid (Im.base_len hok hs)
  have hC := hid (iClone (some ⟨g, s.toNat * 64, none⟩) 64 (I.base s) w HB.out (by rw [HL.out]; omega))
  rw [HL.out] at hC
  clear h hs hok
  go_enter Tryz.func36, Tryz.ntmps36
  go_wp2_with (first
    | (go_at_call 110; refine (ilook_yes H.out _ HS.out).mono ?_; rintro e w' ⟨rfl, rfl⟩)
    | (refine wpList_slice_blk rfl (.tmp 18) rfl g (s.toNat * 64) rfl ?_)
    | (go_at_call 111; refine hC.out.mono ?_; rintro e w1 ⟨v, rfl, hv⟩; have HV := hid hv; clear hv))
  go_ret2
  exact ⟨v, rfl, HV.out⟩
end
end Go.Proofs.YtpjlhiagifoogaaGreat.Imx
