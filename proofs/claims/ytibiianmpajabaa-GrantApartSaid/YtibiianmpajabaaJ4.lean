/-
  Both sides of law06: the two writes of an entry.
-/
import Derived.Test.YtibiianmpajabaaJ3
import Derived.Deep.RegionHeld3
import Derived.BigQuiet
import Derived.IntWalk
import Derived.Laws.BitsAllLaws
set_option linter.unusedSimpArgs false
set_option linter.unusedVariables false
namespace Go.Proofs.Ytibiianmpajabaa
open Go.RowKit KM
set_option maxHeartbeats 4000000
set_option maxRecDepth 100000

section
variable {w w' w0 w1 : World} {t X B G : Nat} {pm : Nat → Nat × Nat × Nat} {n1 n2 np nq : Nat} {sa sb s' : Gs} {T T' : Nat} {Y R D c : Nat} {qb : Nat → Nat} {ql : Nat → RL} {L L' : Lay} {vp vq : Value}
theorem BO.write (h : BO w0 w t X B G pm n1 sa T Y R D c qb ql n2 L sb vp vq np nq) {K : Int} (hok : sa.M.ok K) (i off : Int) (ho : off ≤ 9223372036854775807) {gq cq : Nat} {l : List UInt8} (hl : l.length = 8) (hk : KeptBytes w (fun k => k = gq) (some ⟨gq, 0, none⟩) l) (hB : gq ≠ B) :
    Calls Try.prog 15 #[.pointer (some ⟨B, 0, none⟩), .int .i64 i, .int .i64 off, .slice (some ⟨gq, 0, none⟩) 8 cq] w fun e w' => e = .returned (.int .i64 (sa.M.write i off l).1) ∧ BO w0 w' t X B G pm n1 (sa.setM (sa.M.write i off l).2) T Y R D c qb ql n2 L sb vp vq np nq ∧ KeptBytes w' (fun k => k = gq) (some ⟨gq, 0, none⟩) l ∧ w.grownBy w' (some B) := by
  have hb := KeptBytes.is hk cq B (fun e => hB e.symm)
  rw [hl] at hb
  refine (Write_any B i off (.slice (some ⟨gq, 0, none⟩) 8 cq) l w sa.M K h.a.m hok ho hb (by omega)).mono fun e w' ⟨he, hm, hg⟩ => ⟨he, h.left ((GL.same h.a).mach hm hg), ?_, hg⟩
  exact hk.chg (S' := fun k => k = B) (Chg.of hg fun j e => .inl (Option.some.inj e).symm) fun k e e' => hB (e ▸ e')
theorem BO.rwrite (h : BO w0 w t X B G pm n1 sa T Y R D c qb ql n2 L sb vp vq np nq) (i off : Int) {gq cq : Nat} {l : List UInt8} (hl : l.length = 8) (hk : KeptBytes w (fun k => k = gq) (some ⟨gq, 0, none⟩) l) (hR : ¬ L.foot R gq) :
    Calls Try.prog 74 #[.pointer (some ⟨R, 0, none⟩), .int .i64 i, .int .i64 off, .slice (some ⟨gq, 0, none⟩) 8 cq] w fun e w' => e = .returned (.int .i64 (sb.M.write i off l).1) ∧ (∃ L', BO w0 w' t X B G pm n1 sa T Y R D c qb ql n2 L' (sb.setM (sb.M.write i off l).2) vp vq np nq) ∧ Chg (L.foot R) w w' := by
  have ha : Apart w L R (some ⟨gq, 0, none⟩) l := fun k hkl => by
    rcases hk with e | ⟨g, e, hg, hc⟩
    · rw [e] at hkl; simp at hkl
    · refine ⟨gq, 0, rfl, hR, ?_⟩
      cases e
      simpa using hc k hkl
  have := rWrite R i off (some ⟨gq, 0, none⟩) cq l w sb.M L h.b.m (by omega) ha
  rw [hl] at this
  exact this.mono fun e w' ⟨he, L', hm, _, hc, hf⟩ => ⟨he, ⟨L', h.rleft (h.b.mach hm hc) hc (fun _ e => .inr (.inr (.inl e))) hf⟩, hc⟩
end
theorem tyOf_lt {w : World} {k : Nat} {e : TypeId} (h : tyOf w k = some e) : k < w.heap.size := by
  unfold tyOf at h
  cases hk : w.heap[k]? with
  | none => rw [hk] at h; cases h
  | some o => exact (Array.getElem?_eq_some_iff.1 hk).1
/-- a block that came later is written -/
theorem BO.fresh {we w w0 : World} {t X B G : Nat} {pm : Nat → Nat × Nat × Nat} {n1 n2 np nq : Nat} {sa sb : Gs} {T : Nat} {Y R D c : Nat} {qb : Nat → Nat} {ql : Nat → RL} {L : Lay} {vp vq : Value} (he : BO w0 we t X B G pm n1 sa T Y R D c qb ql n2 L sb vp vq np nq) (h : BO w0 w t X B G pm n1 sa T Y R D c qb ql n2 L sb vp vq np nq) {q : Nat} (hq : we.heap.size ≤ q) (k : Nat) (v : Value) : BO w0 (w.setCell ⟨q, k, none⟩ v) t X B G pm n1 sa T Y R D c qb ql n2 L sb vp vq np nq := by
  have hc := chgT w q k v
  exact ⟨h.row.chg hc (fun e => by have := he.row.lt; omega), h.a.chg hc (fun j hj e => by have := he.a.lt hj; omega), h.b.chg hc (fun j hj e => by have := he.b.lt hj; omega), owns_chg h.p hc (fun j hj e => by have := tyOf_lt (owns_ty he.p hj).1; omega), owns_chg h.q hc (fun j hj e => by have := tyOf_lt (owns_ty he.q hj).1; omega), h.fa, h.fb, h.ft, hc.grownR h.g (fun j e => by have := he.g.size; omega)⟩
/-- the bytes of an entry, its flags turned -/
def entL (g : GV) (fl : UInt8) : List UInt8 := ((pkL g).getD 0 0 ^^^ fl) :: (pkL g).drop 1
theorem entL_len (g : GV) (fl : UInt8) : (entL g fl).length = 8 := rfl
theorem row8_kept {w : World} {gq : Nat} {g : GV} {fl : UInt8} (h : Row w gq 5 8 (fun k => .int .u8 ((pkL g).getD k 0).toNat)) :
    KeptBytes (w.setCell ⟨gq, 0, none⟩ (.int .u8 ((pkL g).getD 0 0 ^^^ fl).toNat)) (fun k => k = gq) (some ⟨gq, 0, none⟩) (entL g fl) := by
  have h' := h.set (k := 0) (v := .int .u8 ((pkL g).getD 0 0 ^^^ fl).toNat) (X' := fun k => .int .u8 ((entL g fl).getD k 0).toNat) rfl fun j hj hne => by
    obtain ⟨k, rfl⟩ : ∃ k, j = k + 1 := ⟨j - 1, by omega⟩
    show Value.int .u8 (((pkL g).drop 1).getD k 0).toNat = _
    simp only [List.getD, List.getElem?_drop, Nat.add_comm 1 k]
  exact .inr ⟨gq, rfl, rfl, fun k hk => h'.cell (k := k) (by rw [entL_len] at hk; exact hk)⟩
theorem pk_row {l : List UInt8} {w : World} {e : Ending} {w' : World} (hl : l.length = 8) (h : PkPost l w e w') : ∃ gq c, e = .returned (.tuple #[.slice (some ⟨gq, 0, none⟩) 8 c, .int .i64 0]) ∧ Row w' gq 5 8 (fun k => .int .u8 (l.getD k 0).toNat) ∧ w.heap.size < gq ∧ w.grownBy w' none := by
  obtain ⟨p, c, rfl, ho, hg⟩ := h
  rw [hl] at ho ⊢
  obtain ⟨g, c', e, hb, hr⟩ := ownsRow_row (n := 7) ho
  cases e
  refine ⟨g, _, rfl, hr.congr fun k hk => ?_, by omega, hg⟩
  have hk' : k < l.length := by omega
  simp only [List.getD, bcells_get, List.getElem?_eq_getElem hk']
  rfl
end Go.Proofs.Ytibiianmpajabaa

/-
  law06.lay: an entry that packs, of one of the three domains.
-/
set_option linter.unusedSimpArgs false
set_option linter.unusedVariables false
namespace Go.Proofs.Ytibiianmpajabaa
open Go.RowKit KM
set_option maxHeartbeats 4000000
set_option maxRecDepth 100000

def entV10 (d r : Int) (g : GV) (fl : UInt8) (k : Nat) : Value := [Value.int .i64 d, .int .i64 r, .int .i64 g.k, .bool g.ro, .bool g.sub, .int .i64 g.dom, .int .i64 g.gpfn, .int .i64 g.off, .int .i64 g.len, .int .u8 fl.toNat].getD k undef
theorem ent_row (w : World) (d r : Int) (g : GV) (fl : UInt8) {W : World} (hW : w.alloc (.cells #[.int .i64 d, .int .i64 r, .int .i64 g.k, .bool g.ro, .bool g.sub, .int .i64 g.dom, .int .i64 g.gpfn, .int .i64 g.off, .int .i64 g.len, .int .u8 fl.toNat] 79) = W) : Row W w.heap.size 79 10 (entV10 d r g fl) :=
  hW ▸ Gen.Row.new w _ _ _ _ (by simp) fun k hk => by match k, hk with | 0, _ => rfl | 1, _ => rfl | 2, _ => rfl | 3, _ => rfl | 4, _ => rfl | 5, _ => rfl | 6, _ => rfl | 7, _ => rfl | 8, _ => rfl | 9, _ => rfl
section
variable {w w' w0 w1 : World} {t X B G : Nat} {pm : Nat → Nat × Nat × Nat} {n1 n2 np nq : Nat} {sa sb s' : Gs} {T T' : Nat} {Y R D c : Nat} {qb : Nat → Nat} {ql : Nat → RL} {L L' : Lay} {vp vq : Value}
theorem lay_yes (h : BO w0 w t X B G pm n1 sa T Y R D c qb ql n2 L sb vp vq np nq) {K : Int} (hok : sa.M.ok K) (d r : Nat) (hd : d ≤ 2) (hr : r < 32) (g : GV) (hp : packV g = true) (fl : UInt8) :
    Calls Try.prog 36 #[.pointer (some ⟨t, 0, none⟩), .agg #[.int .i64 d, .int .i64 r, .int .i64 g.k, .bool g.ro, .bool g.sub, .int .i64 g.dom, .int .i64 g.gpfn, .int .i64 g.off, .int .i64 g.len, .int .u8 fl.toNat]] w fun e w' => e = .returned (.tuple #[]) ∧ ∃ L', BO w0 w' t X B G pm n1 (sa.setM (sa.M.write (4 * (d : Int)) (8 * (r : Int)) (entL g fl)).2) T Y R D c qb ql n2 L' (sb.setM (sb.M.write (4 * (d : Int)) (8 * (r : Int)) (entL g fl)).2) vp vq np nq := by
  obtain ⟨W0, hW0⟩ : ∃ W, w.alloc (.cells #[.int .i64 (d : Int), .int .i64 (r : Int), .int .i64 g.k, .bool g.ro, .bool g.sub, .int .i64 g.dom, .int .i64 g.gpfn, .int .i64 g.off, .int .i64 g.len, .int .u8 fl.toNat] 79) = W := ⟨_, rfl⟩
  have HE := hid (ent_row w d r g fl hW0)
  have HO := hid (h.grown (hW0 ▸ World.grownBy_alloc _ _ none))
  have hs0 : W0.heap.size = w.heap.size + 1 := by rw [← hW0]; simp
  have hlt := fun k (hk : L.foot R k) => h.b.m.lt hk
  have hBlt := h.a.m.lt
  have HLt := hid hlt
  have HP := hid (rPk_yes g W0 hp)
  simp only [GV.val] at HP
  clear h hlt hp
  have q0 : W0.cell? ⟨w.heap.size, 0, none⟩ = some (.int .i64 d) := HE.out.cell (k := 0) (by omega)
  have q1 : W0.cell? ⟨w.heap.size, 1, none⟩ = some (.int .i64 r) := HE.out.cell (k := 1) (by omega)
  have q2 : W0.cell? ⟨w.heap.size, 2, none⟩ = some (.int .i64 g.k) := HE.out.cell (k := 2) (by omega)
  have q3 : W0.cell? ⟨w.heap.size, 3, none⟩ = some (.bool g.ro) := HE.out.cell (k := 3) (by omega)
  have q4 : W0.cell? ⟨w.heap.size, 4, none⟩ = some (.bool g.sub) := HE.out.cell (k := 4) (by omega)
  have q5 : W0.cell? ⟨w.heap.size, 5, none⟩ = some (.int .i64 g.dom) := HE.out.cell (k := 5) (by omega)
  have q6 : W0.cell? ⟨w.heap.size, 6, none⟩ = some (.int .i64 g.gpfn) := HE.out.cell (k := 6) (by omega)
  have q7 : W0.cell? ⟨w.heap.size, 7, none⟩ = some (.int .i64 g.off) := HE.out.cell (k := 7) (by omega)
  have q8 : W0.cell? ⟨w.heap.size, 8, none⟩ = some (.int .i64 g.len) := HE.out.cell (k := 8) (by omega)
  have d0 : (0 : Int) ≤ d := by omega
  have d2 : (d : Int) ≤ 2 := by omega
  have r0 : (0 : Int) ≤ r := by omega
  have r1 : (r : Int) < 32 := by omega
  go_enter Try.func36, Try.ntmps36
  go_wp2_with (go_at_call 56; (refine HP.out.mono ?_); intro e w3 h3; obtain ⟨gq, cq, rfl, hr3, hg3, g3⟩ := pk_row (pkL_len g) h3; have HE3 := hid (Row.grown HE.out g3 (by simp)); have HO3 := hid (HO.out.grown g3); have HR3 := hid hr3; have HQ3 := hid hg3; have e0 : w3.cell? ⟨w.heap.size, 0, none⟩ = some (.int .i64 d) := HE3.out.cell (k := 0) (by omega); have e1 : w3.cell? ⟨w.heap.size, 1, none⟩ = some (.int .i64 r) := HE3.out.cell (k := 1) (by omega); have e9 : w3.cell? ⟨w.heap.size, 9, none⟩ = some (.int .u8 fl.toNat) := HE3.out.cell (k := 9) (by omega); have b0 := HR3.out.cell (k := 0) (by omega); have f0 := HR3.out.frozen 0; clear h3 hr3 hg3 g3)
  clear q0 q1 q2 q3 q4 q5 q6 q7 q8 hW0
  obtain ⟨x0, hx0⟩ : ∃ x, (pkL g).getD 0 0 = x := ⟨_, rfl⟩
  have b0' : w3.cell? ⟨gq, 0, none⟩ = some (.int .u8 x0.toNat) := by rw [b0, hx0]
  have hxr : bits .xor .u8 (x0.toNat : Int) (fl.toNat : Int) = ((x0.toNat ^^^ fl.toNat : Nat) : Int) := u8_xor_nat _ _ (UInt8.toNat_lt x0) (UInt8.toNat_lt fl)
  clear b0
  go_region
  have HK := hid (row8_kept (fl := fl) HR3.out)
  rw [hx0, UInt8.toNat_xor] at HK
  have hq := HQ3.out
  have HO4 := hid ((BO.fresh HO.out HO3.out (q := gq) (by omega) 0 (.int .u8 ((x0.toNat ^^^ fl.toNat : Nat) : Int))).grown (grownBy_drew _ none))
  have HK4 := hid (HK.out.chg (S' := fun _ => False) (Chg.of0 (grownBy_drew _ none)) (fun _ _ e => e))
  have HE4 := hid (((HE3.out.setOther ⟨gq, 0, none⟩ (by simp; omega) (.int .u8 ((x0.toNat ^^^ fl.toNat : Nat) : Int)))).grown (grownBy_drew _ none) (by simp))
  have hgR := HLt.out gq
  have hgB : gq ≠ B := by omega
  have HwR := hid (show ¬ L.foot R w.heap.size from fun e => by have := HLt.out _ e; omega)
  have HgR := hid (show ¬ L.foot R gq from fun e => by have := hgR e; omega)
  clear HK HO3 HE3 HR3 b0' f0 hxr HLt hgR hx0 e0 e1 e9 HQ3
  generalize (w3.setCell ⟨gq, 0, none⟩ (.int .u8 ((x0.toNat ^^^ fl.toNat : Nat) : Int))).drew = Wa at *
  have HO5 := hid (HO4.out.grown (grownBy_drew Wa none))
  have HK5 := hid (HK4.out.chg (S' := fun _ => False) (Chg.of0 (grownBy_drew Wa none)) (fun _ _ e => e))
  have HE5 := hid (HE4.out.grown (grownBy_drew Wa none) (by simp))
  clear HO4 HK4 HE4
  have a0 : Wa.drew.cell? ⟨w.heap.size, 0, none⟩ = some (.int .i64 d) := HE5.out.cell (k := 0) (by omega)
  have a1 : Wa.drew.cell? ⟨w.heap.size, 1, none⟩ = some (.int .i64 r) := HE5.out.cell (k := 1) (by omega)
  have a2 := HO5.out.c0
  have hw4 : IntKind.i64.wrap (4 * (d : Int)) = 4 * (d : Int) := IntWalk.i64_in _ (by omega)
  have hw8 : IntKind.i64.wrap (8 * (r : Int)) = 8 * (r : Int) := IntWalk.i64_in _ (by omega)
  have HW := hid (HO5.out.write hok (4 * (d : Int)) (8 * (r : Int)) (by omega) (cq := cq) (entL_len g fl) HK5.out hgB)
  have hBne : B ≠ w.heap.size := by omega
  go_wp2_with fail
  go_region_held3 (fun w' => w'.cell? ⟨t, 0, none⟩ = some (.pointer (some ⟨B, 0, none⟩)) ∧ w'.cell? ⟨w.heap.size, 0, none⟩ = some (.int .i64 d) ∧ w'.cell? ⟨w.heap.size, 1, none⟩ = some (.int .i64 r)) (first | exact ⟨by assumption, by assumption, by assumption⟩ | go_keep)
    (first
      | (go_at_call 15; (with_reducible refine HW.out.mono ?_); rintro e w5 ⟨rfl, h5, k5, g5⟩; have HO6 := hid h5; have HK6 := hid k5; have HE6 := hid (HE5.out.grown g5 (fun e => hBne (Option.some.inj e).symm)); have k0 := HO6.out.c0; have k1 : w5.cell? ⟨w.heap.size, 0, none⟩ = some (.int .i64 d) := HE6.out.cell (k := 0) (by omega); have k2 : w5.cell? ⟨w.heap.size, 1, none⟩ = some (.int .i64 r) := HE6.out.cell (k := 1) (by omega); clear h5 k5 g5))
  clear a0 a1 a2 HW HO5 HK5 HE5
  have HO7 := hid (HO6.out.grown (grownBy_drew w5 none))
  have HK7 := hid (HK6.out.chg (S' := fun _ => False) (Chg.of0 (grownBy_drew w5 none)) (fun _ _ e => e))
  have HE7 := hid (HE6.out.grown (grownBy_drew w5 none) (by simp))
  have a0 : w5.drew.cell? ⟨w.heap.size, 0, none⟩ = some (.int .i64 d) := HE7.out.cell (k := 0) (by omega)
  have a1 : w5.drew.cell? ⟨w.heap.size, 1, none⟩ = some (.int .i64 r) := HE7.out.cell (k := 1) (by omega)
  have a3 := HO7.out.c3
  have HW := hid (HO7.out.rwrite (4 * (d : Int)) (8 * (r : Int)) (cq := cq) (entL_len g fl) HK7.out HgR.out)
  go_wp2_with fail
  clear k0 k1 k2
  go_region_held3 (fun w' => w'.cell? ⟨t, 3, none⟩ = some (.pointer (some ⟨R, 0, none⟩)) ∧ w'.cell? ⟨w.heap.size, 0, none⟩ = some (.int .i64 d) ∧ w'.cell? ⟨w.heap.size, 1, none⟩ = some (.int .i64 r)) (first | exact ⟨by assumption, by assumption, by assumption⟩ | go_keep)
    (first
      | (go_at_call 74; (with_reducible refine HW.out.mono ?_); rintro e w6 ⟨rfl, ⟨L2, h6⟩, c6⟩; have HO8 := hid h6; have k3 := HO8.out.c3; have HE8 := HE7.out.chg c6 HwR.out; have k1 : w6.cell? ⟨w.heap.size, 0, none⟩ = some (.int .i64 d) := HE8.cell (k := 0) (by omega); have k2 : w6.cell? ⟨w.heap.size, 1, none⟩ = some (.int .i64 r) := HE8.cell (k := 1) (by omega); clear h6 c6 HE8))
  clear k1 k2 k3 a0 a1 a3 HW
  go_wp2_with fail
  go_end0
  exact ⟨rfl, L2, HO8.out⟩
end
end Go.Proofs.Ytibiianmpajabaa

/-
  law06.lay: an entry that does not pack, or of another domain, or of no slot: nothing turns.
-/
set_option linter.unusedSimpArgs false
set_option linter.unusedVariables false
namespace Go.Proofs.Ytibiianmpajabaa
open Go.RowKit KM
set_option maxHeartbeats 4000000
set_option maxRecDepth 100000

section
variable {w w' w0 w1 : World} {t X B G : Nat} {pm : Nat → Nat × Nat × Nat} {n1 n2 np nq : Nat} {sa sb s' : Gs} {T T' : Nat} {Y R D c : Nat} {qb : Nat → Nat} {ql : Nat → RL} {L L' : Lay} {vp vq : Value}
theorem lay_nopack (h : BO w0 w t X B G pm n1 sa T Y R D c qb ql n2 L sb vp vq np nq) (d r : Int) (g : GV) (hp : packV g = false) (fl : UInt8) :
    Calls Try.prog 36 #[.pointer (some ⟨t, 0, none⟩), .agg #[.int .i64 d, .int .i64 r, .int .i64 g.k, .bool g.ro, .bool g.sub, .int .i64 g.dom, .int .i64 g.gpfn, .int .i64 g.off, .int .i64 g.len, .int .u8 fl.toNat]] w fun e w' => e = .returned (.tuple #[]) ∧ BO w0 w' t X B G pm n1 sa T Y R D c qb ql n2 L sb vp vq np nq := by
  obtain ⟨W0, hW0⟩ : ∃ W, w.alloc (.cells #[.int .i64 d, .int .i64 r, .int .i64 g.k, .bool g.ro, .bool g.sub, .int .i64 g.dom, .int .i64 g.gpfn, .int .i64 g.off, .int .i64 g.len, .int .u8 fl.toNat] 79) = W := ⟨_, rfl⟩
  have HE := hid (ent_row w d r g fl hW0)
  have HO := hid (h.grown (hW0 ▸ World.grownBy_alloc _ _ none))
  have HP := hid (rPk_no g.k g.ro g.sub g.dom g.gpfn g.off g.len W0 hp)
  clear hp
  clear h
  have q0 : W0.cell? ⟨w.heap.size, 0, none⟩ = some (.int .i64 d) := HE.out.cell (k := 0) (by omega)
  have q1 : W0.cell? ⟨w.heap.size, 1, none⟩ = some (.int .i64 r) := HE.out.cell (k := 1) (by omega)
  have q2 : W0.cell? ⟨w.heap.size, 2, none⟩ = some (.int .i64 g.k) := HE.out.cell (k := 2) (by omega)
  have q3 : W0.cell? ⟨w.heap.size, 3, none⟩ = some (.bool g.ro) := HE.out.cell (k := 3) (by omega)
  have q4 : W0.cell? ⟨w.heap.size, 4, none⟩ = some (.bool g.sub) := HE.out.cell (k := 4) (by omega)
  have q5 : W0.cell? ⟨w.heap.size, 5, none⟩ = some (.int .i64 g.dom) := HE.out.cell (k := 5) (by omega)
  have q6 : W0.cell? ⟨w.heap.size, 6, none⟩ = some (.int .i64 g.gpfn) := HE.out.cell (k := 6) (by omega)
  have q7 : W0.cell? ⟨w.heap.size, 7, none⟩ = some (.int .i64 g.off) := HE.out.cell (k := 7) (by omega)
  have q8 : W0.cell? ⟨w.heap.size, 8, none⟩ = some (.int .i64 g.len) := HE.out.cell (k := 8) (by omega)
  go_enter Try.func36, Try.ntmps36
  go_wp2_with (go_at_call 56; (refine HP.out.mono ?_); rintro e w3 ⟨rfl, g3⟩; have HO3 := hid (HO.out.grown g3); clear g3)
  first | go_end0 | ((try simp only [Exit.inBlock, Exit.then]); refine bodyPost_ret (results_none rfl _ _ _) rfl ?_)
  exact ⟨rfl, HO3.out⟩
theorem lay_norange (h : BO w0 w t X B G pm n1 sa T Y R D c qb ql n2 L sb vp vq np nq) (d r : Int) (g : GV) (hp : packV g = true) (hb : d < 0 ∨ (0 ≤ d ∧ 2 < d) ∨ (0 ≤ d ∧ d ≤ 2 ∧ r < 0) ∨ (0 ≤ d ∧ d ≤ 2 ∧ 0 ≤ r ∧ 32 ≤ r)) (fl : UInt8) :
    Calls Try.prog 36 #[.pointer (some ⟨t, 0, none⟩), .agg #[.int .i64 d, .int .i64 r, .int .i64 g.k, .bool g.ro, .bool g.sub, .int .i64 g.dom, .int .i64 g.gpfn, .int .i64 g.off, .int .i64 g.len, .int .u8 fl.toNat]] w fun e w' => e = .returned (.tuple #[]) ∧ BO w0 w' t X B G pm n1 sa T Y R D c qb ql n2 L sb vp vq np nq := by
  obtain ⟨W0, hW0⟩ : ∃ W, w.alloc (.cells #[.int .i64 d, .int .i64 r, .int .i64 g.k, .bool g.ro, .bool g.sub, .int .i64 g.dom, .int .i64 g.gpfn, .int .i64 g.off, .int .i64 g.len, .int .u8 fl.toNat] 79) = W := ⟨_, rfl⟩
  have HE := hid (ent_row w d r g fl hW0)
  have HO := hid (h.grown (hW0 ▸ World.grownBy_alloc _ _ none))
  have HP := hid (rPk_yes g W0 hp)
  simp only [GV.val] at HP
  clear hp
  clear h
  have q0 : W0.cell? ⟨w.heap.size, 0, none⟩ = some (.int .i64 d) := HE.out.cell (k := 0) (by omega)
  have q1 : W0.cell? ⟨w.heap.size, 1, none⟩ = some (.int .i64 r) := HE.out.cell (k := 1) (by omega)
  have q2 : W0.cell? ⟨w.heap.size, 2, none⟩ = some (.int .i64 g.k) := HE.out.cell (k := 2) (by omega)
  have q3 : W0.cell? ⟨w.heap.size, 3, none⟩ = some (.bool g.ro) := HE.out.cell (k := 3) (by omega)
  have q4 : W0.cell? ⟨w.heap.size, 4, none⟩ = some (.bool g.sub) := HE.out.cell (k := 4) (by omega)
  have q5 : W0.cell? ⟨w.heap.size, 5, none⟩ = some (.int .i64 g.dom) := HE.out.cell (k := 5) (by omega)
  have q6 : W0.cell? ⟨w.heap.size, 6, none⟩ = some (.int .i64 g.gpfn) := HE.out.cell (k := 6) (by omega)
  have q7 : W0.cell? ⟨w.heap.size, 7, none⟩ = some (.int .i64 g.off) := HE.out.cell (k := 7) (by omega)
  have q8 : W0.cell? ⟨w.heap.size, 8, none⟩ = some (.int .i64 g.len) := HE.out.cell (k := 8) (by omega)
  rcases hb with b0 | ⟨b0, b1⟩ | ⟨b0, b1, b2⟩ | ⟨b0, b1, b2, b3⟩
  all_goals
    go_enter Try.func36, Try.ntmps36
    go_wp2_with (go_at_call 56; (refine HP.out.mono ?_); intro e w3 h3; obtain ⟨gq, cq, rfl, hr3, hg3, g3⟩ := pk_row (pkL_len g) h3; have HE3 := hid (Row.grown HE.out g3 (by simp)); have HO3 := hid (HO.out.grown g3); have e0 : w3.cell? ⟨w.heap.size, 0, none⟩ = some (.int .i64 d) := HE3.out.cell (k := 0) (by omega); have e1 : w3.cell? ⟨w.heap.size, 1, none⟩ = some (.int .i64 r) := HE3.out.cell (k := 1) (by omega); clear h3 hr3 hg3 g3)
    first | go_end0 | ((try simp only [Exit.inBlock, Exit.then]); refine bodyPost_ret (results_none rfl _ _ _) rfl ?_)
    exact ⟨rfl, HO3.out⟩
end
end Go.Proofs.Ytibiianmpajabaa

/-
  law06.begin without entries: the walk.
-/
set_option linter.unusedSimpArgs false
set_option linter.unusedVariables false
namespace Go.Proofs.Ytibiianmpajabaa
open Go.RowKit KM
set_option maxHeartbeats 8000000
set_option maxRecDepth 100000

theorem cell_one_at {W : World} {n : Nat} (v : Value) (t : TypeId) (hn : n = W.heap.size) : ∀ (j : Nat) (u : Value), [v][j]? = some u → (W.alloc (.cells #[v] t)).cell? ((⟨n, 0, none⟩ : Addr).add j) = some u := by
  subst hn; exact cell_one_new W v t
theorem begin_nil (w : World) : Calls Try.prog 35 #[.slice none 0 0] w (BeginP w) := by
  obtain ⟨i0, hi, hz0, hz1, hz2⟩ := info_parts info_pp
  have Hi := hid hi; have Hz0 := hid hz0; have Hz1 := hid hz1; have Hz2 := hid hz2
  clear hi hz0 hz1 hz2
  obtain ⟨j0, hi, hz0, hz1, hz2⟩ := info_parts info_pq
  have Ji := hid hi; have Jz0 := hid hz0; have Jz1 := hid hz1; have Jz2 := hid hz2
  clear hi hz0 hz1 hz2
  go_enter Try.func35, Try.ntmps35
  go_wp2_with (first
    | (go_at_call 11; refine (New_yes 13 _ (by omega) (by omega)).mono ?_; rintro e w1 ⟨v, rfl, B, rfl, hB, hM, hg1⟩; have HT1 := hid (bt_row w hg1); have HM1 := hid hM; have HB1 := hid (show w.heap.size ≤ B by simp at hB; omega); have HG1 := hid ((World.grownBy_alloc w _ none).trans hg1); have f0 := HT1.out.frozen 0; have d0 : w1.cell? ⟨w.heap.size, 0, none⟩ = some (.pointer none) := HT1.out.cell (k := 0) (by omega); clear hM hB hg1)
    | (go_at_call 12; refine (rNew_yes 13 _ (by omega) (by omega)).mono ?_; rintro e w2 ⟨v, rfl, R, L, rfl, hR, hg2, hf2⟩; have HP2 := hid (BP.of (w0 := w) HT1.out HM1.out HB1.out (Nat.le_refl _) HG1.out hg2 hR hf2); clear HT1 HM1 HB1 HG1 f0 d0 hR hg2 hf2; have f3 := HP2.out.row.frozen 3; have d3 := HP2.out.c3; have HP3 := hid (HP2.out.s3 (.pointer (some ⟨R, 0, none⟩))); have e0 := HP3.out.c0)
    | (go_at_call 50; refine (HP3.out.gNew).mono ?_; rintro e w3 ⟨X, G, rfl, hn⟩; obtain ⟨d1, f1, e3⟩ := HP3.out.row3 hn; have HN := hid hn; clear hn)
    | (go_at_call 101; refine (rgNew R (fun _ => 0) _).mono ?_; intro e w4 hn; obtain ⟨Y, D, c, rfl, d4, f4, ho⟩ := BO.start (pm := fun _ => (0, 0, 0)) (ql := fun _ => ⟨none, 0, 0⟩) HP3.out HN.out hn; have HO := hid ho; clear ho hn HN HP3 HP2))
  obtain ⟨w0, hw0⟩ : ∃ x, x = w := ⟨_, rfl⟩
  go_loopw [5] (fun i wr => ∃ (d : Nat) (pm : Nat → Nat × Nat × Nat) (qb : Nat → Nat) (ql : Nat → RL) (L : Lay) (vp vq : Value), i = .int .i64 d ∧ d ≤ 3 ∧ BO w wr w.heap.size X B G pm d (bst d) (4 * d) Y R D c qb ql d L (bst d) vp vq d d) (fun i _ => 3 - (intOf i).toNat)
  case atStart => exact ⟨0, _, _, _, _, _, _, rfl, by omega, HO.out⟩
  case round =>
    obtain ⟨d, pm, qb, ql, L, vp, vq, rfl, hd, ho⟩ := hrel
    have HS1 := hid ho
    clear ho HO
    have hd0 : (0 : Int) ≤ d := by omega
    by_cases hlt : d < 3
    · have hlt' : (d : Int) < 3 := by omega
      have HJ := hid (bst_j d hlt)
      have HOk := hid (bst_ok d)
      go_wp2_with (first
        | (go_at_call 28; refine (pNew_yes 8 _ (by omega)).mono ?_; rintro e w5 ⟨v, rfl, b, f, p, rfl, hP, g5, hf⟩; have HS2 := hid (HS1.out.add (Nat.le_refl _) (fun e t i h => (bst_mem d (by omega) e t i h).2) hP (Nat.zero_le _) g5 hf); clear hP g5 hf)
        | (go_at_call 29; refine (r3New_yes 8 _ (by omega)).mono ?_; rintro e w6 ⟨v, rfl, b2, l2, rfl, hQ, g6, hf6⟩; have HS3 := hid (HS2.out.radd (Nat.le_refl _) (fun e t i h => (bst_mem d (by omega) e t i h).2) hQ (by show 1 ≤ 8; omega) g6 hf6); clear hQ g6 hf6; have q1 := HS3.out.c1))
      go_loopw [10] (fun i wx => ∃ (j : Nat) (L : Lay), i = .int .i64 j ∧ j ≤ 4 ∧ BO w wx w.heap.size X B G (upPm pm d (b, f, p)) (d + 1) (inn (bst d) d j) (4 * d + j) Y R D c (upN qb d b2) (upN ql d l2) (d + 1) L (inn (bst d) d j) vp vq d d) (fun i _ => 4 - (intOf i).toNat)
      case atStart => exact ⟨0, _, rfl, by omega, HS3.out⟩
      case round =>
        obtain ⟨j, L, rfl, hj, ho⟩ := hrel
        have HS4 := hid ho
        clear ho HS3 HS2 HS1 q1
        have hj0 : (0 : Int) ≤ j := by omega
        have q0 := HS4.out.c0
        by_cases hlj : j < 4
        · have hlj' : (j : Int) < 4 := by omega
          go_wp2_with (first
            | (go_at_call 16; (with_reducible refine (HS4.out.alloc (inn_ok HOk.out d j) (d : Int)).mono ?_); rintro e w7 ⟨rfl, h5⟩; have HS5 := hid h5; clear h5; have q3 := HS5.out.c3)
            | (go_at_call 65; (with_reducible refine (HS5.out.ralloc (inn_ok HOk.out d j).n2 (d : Int)).mono ?_); rintro e w8 ⟨rfl, L2, h6⟩; have HS6 := hid h6; clear h6)
            | (go_at_call 89; (with_reducible refine (HS6.out.set (i := d) (b := b) (by unfold maxLen; omega) (by omega) (by rw [upPm_same]) (j : Int) (4 * (d : Int) + j) (I64.of (by omega) (by omega)) (I64.of (by omega) (by omega))).mono ?_); rintro e w9 ⟨rfl, h7⟩; have HS7 := hid h7; clear h7)
            | (go_at_call 90; (refine (HS7.out.rset (i := d) (b := b2) (by omega) (by rw [upN_same]) (inn_P (bst d) d j) (j : Int) (4 * (d : Int) + j)).mono ?_); rintro e w10 ⟨rfl, h8⟩; have HS8 := hid h8; clear h8))
          go_roundw
          case rel => exact ⟨j + 1, _, by go_num, by omega, HS8.out⟩
          case measure => simp [intOf]; omega
        · obtain rfl : j = 4 := by omega
          clear hlj hj hj0
          obtain ⟨pv, cv, rfl⟩ := ownsRow_slice HS4.out.p
          obtain ⟨pw, cw, rfl⟩ := ownsRow_slice HS4.out.q
          have q2 := HS4.out.c2
          have hsz := HS4.out.g.size
          have HMb := hid (bst_mem d (by omega))
          go_wp2_with (first
            | (at_builtin; refine wpList_append_own _ rfl _ _ 81 rfl w.heap.size 60 i0 (.pointer none) 1 8 Try.underlying81 Hi.out Hz0.out Hz1.out Hz2.out rfl (by decide) _ _ _ rfl (HS4.out.p.alloc _) ⟨wr.heap.size, 0, none⟩ 1 1 [.pointer (some ⟨b, 0, none⟩)] rfl rfl (cell_one_new _ _ _) (by simp [Value.oneCell']) (by unfold maxLen; omega) (by omega) (by simp; omega) ?_; intro v' w5 hown' hgrow hnil; clear hnil; obtain ⟨pv', cv', rfl⟩ := ownsRow_slice hown'; have HS5 := hid ((HS4.out.grown (World.grownBy_alloc wr _ none)).appP (b := b) (by rw [upPm_same]) hgrow hown'); obtain ⟨d5, f5⟩ := (HS4.out.grown (World.grownBy_alloc wr _ none)).preP hgrow; have q5 := HS5.out.c5; have hs5 := HS5.out.g.size; clear hown' hgrow)
            | (at_builtin; refine wpList_append_own _ rfl _ _ 83 rfl w.heap.size 63 j0 (.pointer none) 1 8 Try.underlying83 Ji.out Jz0.out Jz1.out Jz2.out rfl (by decide) _ _ _ rfl (HS5.out.q.alloc _) ⟨w5.heap.size, 0, none⟩ 1 1 [.pointer (some ⟨b2, 0, none⟩)] rfl rfl (cell_one_at _ _ (by simp)) (by simp [Value.oneCell']) (by unfold maxLen; omega) (by omega) (by simp at hs5 ⊢; omega) ?_; intro v' w6 hown' hgrow hnil; clear hnil; obtain ⟨pw', cw', rfl⟩ := ownsRow_slice hown'; have HS6 := hid ((HS5.out.grown (World.grownBy_alloc _ _ none)).appQ (b := b2) (by rw [upN_same]) hgrow hown'); obtain ⟨d6, f6⟩ := (HS5.out.grown (World.grownBy_alloc _ _ none)).preQ hgrow; have q6 := HS6.out.c1; clear hown' hgrow)
            | (go_at_call 52; (refine (HS6.out.join (i := d) (b := b) (inn_ok HOk.out d 4) (by omega) (by omega) (by rw [upPm_same]) (d : Int) (4 * (d : Int))).mono ?_); rintro e w7 ⟨he, h7⟩; rw [HJ.out] at he; subst he; have HS7 := hid h7; clear h7; have q7 := HS7.out.c4)
            | (go_at_call 102; (refine (HS7.out.rjoin (i := d) (b := b2) (fun e t i h => (HMb.out e t i (by rw [inn_g] at h; exact h)).1) (inn_ok HOk.out d 4) (by omega) (by rw [upN_same]) (d : Int) (4 * (d : Int))).mono ?_); rintro e w8 ⟨he, L8, h8⟩; rw [HJ.out] at he; subst he; have HS8 := hid h8; clear h8))
          go_roundw
          case rel => exact ⟨d + 1, _, _, _, _, _, _, by go_num, by omega, HS8.out⟩
          case measure => simp [intOf]; omega
    · obtain rfl : d = 3 := by omega
      clear hlt hd hd0
      obtain ⟨wz, hwz⟩ : ∃ x, x = wr := ⟨_, rfl⟩
      subst hwz
      go_wp2
      go_loopw [11] (fun i wx => i = .int .i64 0 ∧ wx = wz) (fun _ _ => 0)
      case atStart => exact ⟨rfl, rfl⟩
      case round =>
        obtain ⟨rfl, rfl⟩ := hrel
        go_wp2
        go_ret2
        exact ⟨_, _, _, _, _, _, _, _, _, _, _, _, _, _, rfl, HS1.out⟩
end Go.Proofs.Ytibiianmpajabaa

/-
  law06.lay as one contract; entries in memory; begin over them.
-/
set_option linter.unusedSimpArgs false
set_option linter.unusedVariables false
namespace Go.Proofs.Ytibiianmpajabaa
open Go.RowKit KM
set_option maxHeartbeats 8000000
set_option maxRecDepth 100000

structure Ent where
  d : Int
  r : Int
  g : GV
  fl : UInt8
def Ent.val (e : Ent) : Value := .agg #[.int .i64 e.d, .int .i64 e.r, .int .i64 e.g.k, .bool e.g.ro, .bool e.g.sub, .int .i64 e.g.dom, .int .i64 e.g.gpfn, .int .i64 e.g.off, .int .i64 e.g.len, .int .u8 e.fl.toNat]
def Ent.good (e : Ent) : Bool := packV e.g && decide (0 ≤ e.d ∧ e.d ≤ 2 ∧ 0 ≤ e.r ∧ e.r < 32)
def layM (M : Mach) (e : Ent) : Mach := if e.good = true then (M.write (4 * e.d) (8 * e.r) (entL e.g e.fl)).2 else M
def layS (s : Gs) (e : Ent) : Gs := s.setM (layM s.M e)
theorem layM_ok {M : Mach} {K : Int} (h : M.ok K) (e : Ent) : (layM M e).ok K := by
  unfold layM
  split
  · exact Mach.write_ok h _ _ _
  · exact h
section
variable {w w' w0 w1 : World} {t X B G : Nat} {pm : Nat → Nat × Nat × Nat} {n1 n2 np nq : Nat} {sa sb s' : Gs} {T T' : Nat} {Y R D c : Nat} {qb : Nat → Nat} {ql : Nat → RL} {L L' : Lay} {vp vq : Value}
theorem lay_any (h : BO w0 w t X B G pm n1 sa T Y R D c qb ql n2 L sb vp vq np nq) {K : Int} (hok : sa.M.ok K) (e : Ent) :
    Calls Try.prog 36 #[.pointer (some ⟨t, 0, none⟩), e.val] w fun r w' => r = .returned (.tuple #[]) ∧ ∃ L', BO w0 w' t X B G pm n1 (layS sa e) T Y R D c qb ql n2 L' (layS sb e) vp vq np nq := by
  obtain ⟨d, r, g, fl⟩ := e
  cases hg : Ent.good ⟨d, r, g, fl⟩ with
  | true =>
    have e1 : ∀ s : Gs, layS s ⟨d, r, g, fl⟩ = s.setM (s.M.write (4 * d) (8 * r) (entL g fl)).2 := fun s => by unfold layS layM; rw [if_pos hg]
    simp only [Ent.good, Bool.and_eq_true, decide_eq_true_eq] at hg
    obtain ⟨hp, h0, h1, h2, h3⟩ := hg
    obtain ⟨dn, rfl⟩ := Int.eq_ofNat_of_zero_le h0
    obtain ⟨rn, rfl⟩ := Int.eq_ofNat_of_zero_le h2
    rw [e1, e1]
    exact lay_yes h hok dn rn (by omega) (by omega) g hp fl
  | false =>
    have e1 : ∀ s : Gs, layS s ⟨d, r, g, fl⟩ = s := fun s => by unfold layS layM; rw [if_neg (by rw [hg]; simp)]; rfl
    rw [e1, e1]
    cases hp : packV g with
    | false => exact (lay_nopack h d r g hp fl).mono fun _ _ ⟨a, b⟩ => ⟨a, L, b⟩
    | true =>
      have hb : d < 0 ∨ (0 ≤ d ∧ 2 < d) ∨ (0 ≤ d ∧ d ≤ 2 ∧ r < 0) ∨ (0 ≤ d ∧ d ≤ 2 ∧ 0 ≤ r ∧ 32 ≤ r) := by
        simp only [Ent.good, hp, Bool.true_and, decide_eq_false_iff_not] at hg
        omega
      exact (lay_norange h d r g hp hb fl).mono fun _ _ ⟨a, b⟩ => ⟨a, L, b⟩
end
/-- entries in memory -/
def Ents (w : World) (pa : Option Addr) (l : List Ent) : Prop := ∀ i (h : i < l.length), ∃ b off, pa = some ⟨b, off, none⟩ ∧ b < w.heap.size ∧
  w.cell? ⟨b, off + i * 10, none⟩ = some (.int .i64 l[i].d) ∧ w.cell? ⟨b, off + i * 10 + 1, none⟩ = some (.int .i64 l[i].r) ∧ w.cell? ⟨b, off + i * 10 + 2, none⟩ = some (.int .i64 l[i].g.k) ∧ w.cell? ⟨b, off + i * 10 + 3, none⟩ = some (.bool l[i].g.ro) ∧
  w.cell? ⟨b, off + i * 10 + 4, none⟩ = some (.bool l[i].g.sub) ∧ w.cell? ⟨b, off + i * 10 + 5, none⟩ = some (.int .i64 l[i].g.dom) ∧ w.cell? ⟨b, off + i * 10 + 6, none⟩ = some (.int .i64 l[i].g.gpfn) ∧ w.cell? ⟨b, off + i * 10 + 7, none⟩ = some (.int .i64 l[i].g.off) ∧
  w.cell? ⟨b, off + i * 10 + 8, none⟩ = some (.int .i64 l[i].g.len) ∧ w.cell? ⟨b, off + i * 10 + 9, none⟩ = some (.int .u8 l[i].fl.toNat)
theorem Ents.grown {w w' : World} {pa : Option Addr} {l : List Ent} (h : Ents w pa l) (hg : w.grownBy w' none) : Ents w' pa l := fun i hi => by
  obtain ⟨b, off, e, hb, c0, c1, c2, c3, c4, c5, c6, c7, c8, c9⟩ := h i hi
  have hs := hg.size
  exact ⟨b, off, e, by omega, hg.cell c0 (by simp), hg.cell c1 (by simp), hg.cell c2 (by simp), hg.cell c3 (by simp), hg.cell c4 (by simp), hg.cell c5 (by simp), hg.cell c6 (by simp), hg.cell c7 (by simp), hg.cell c8 (by simp), hg.cell c9 (by simp)⟩
def lays (s : Gs) (l : List Ent) : Gs := l.foldl layS s
theorem lays_snoc (s : Gs) (l : List Ent) (k : Nat) (h : k < l.length) : lays s (l.take (k + 1)) = layS (lays s (l.take k)) l[k] := by
  have e : l.take (k + 1) = l.take k ++ [l[k]] := by
    first | exact (List.take_append_getElem h).symm | (rw [List.take_succ, List.getElem?_eq_getElem h]; rfl)
  unfold lays
  rw [e, List.foldl_append]
  rfl
theorem lays_ok {s : Gs} {K : Int} (h : s.M.ok K) (l : List Ent) : (lays s l).M.ok K := by
  unfold lays
  induction l generalizing s with
  | nil => exact h
  | cons e l ih => exact ih (s := layS s e) (layM_ok h e)
def BeginL (w : World) (l : List Ent) (e : Ending) (w' : World) : Prop := ∃ t X B G pm Y R D c qb ql L vp vq, e = .returned (.tuple #[.pointer (some ⟨t, 0, none⟩), .bool true]) ∧ BO w w' t X B G pm 3 (lays (bst 3) l) 12 Y R D c qb ql 3 L (lays (bst 3) l) vp vq 3 3
end Go.Proofs.Ytibiianmpajabaa

/-
  law06.begin over entries: the walk.
-/
set_option linter.unusedSimpArgs false
set_option linter.unusedVariables false
namespace Go.Proofs.Ytibiianmpajabaa
open Go.RowKit KM
set_option maxHeartbeats 8000000
set_option maxRecDepth 100000

theorem begin_list (l : List Ent) (pa : Option Addr) (cap : Nat) (w : World) (hl : l.length ≤ 140737488351232) (hin : Ents w pa l) : Calls Try.prog 35 #[.slice pa l.length cap] w (BeginL w l) := by
  have HIn := hid hin
  have HLn := hid hl
  clear hin hl
  obtain ⟨i0, hi, hz0, hz1, hz2⟩ := info_parts info_pp
  have Hi := hid hi; have Hz0 := hid hz0; have Hz1 := hid hz1; have Hz2 := hid hz2
  clear hi hz0 hz1 hz2
  obtain ⟨j0, hi, hz0, hz1, hz2⟩ := info_parts info_pq
  have Ji := hid hi; have Jz0 := hid hz0; have Jz1 := hid hz1; have Jz2 := hid hz2
  clear hi hz0 hz1 hz2
  go_enter Try.func35, Try.ntmps35
  go_wp2_with (first
    | (go_at_call 11; refine (New_yes 13 _ (by omega) (by omega)).mono ?_; rintro e w1 ⟨v, rfl, B, rfl, hB, hM, hg1⟩; have HT1 := hid (bt_row w hg1); have HM1 := hid hM; have HB1 := hid (show w.heap.size ≤ B by simp at hB; omega); have HG1 := hid ((World.grownBy_alloc w _ none).trans hg1); have f0 := HT1.out.frozen 0; have d0 : w1.cell? ⟨w.heap.size, 0, none⟩ = some (.pointer none) := HT1.out.cell (k := 0) (by omega); clear hM hB hg1)
    | (go_at_call 12; refine (rNew_yes 13 _ (by omega) (by omega)).mono ?_; rintro e w2 ⟨v, rfl, R, L, rfl, hR, hg2, hf2⟩; have HP2 := hid (BP.of (w0 := w) HT1.out HM1.out HB1.out (Nat.le_refl _) HG1.out hg2 hR hf2); clear HT1 HM1 HB1 HG1 f0 d0 hR hg2 hf2; have f3 := HP2.out.row.frozen 3; have d3 := HP2.out.c3; have HP3 := hid (HP2.out.s3 (.pointer (some ⟨R, 0, none⟩))); have e0 := HP3.out.c0)
    | (go_at_call 50; refine (HP3.out.gNew).mono ?_; rintro e w3 ⟨X, G, rfl, hn⟩; obtain ⟨d1, f1, e3⟩ := HP3.out.row3 hn; have HN := hid hn; clear hn)
    | (go_at_call 101; refine (rgNew R (fun _ => 0) _).mono ?_; intro e w4 hn; obtain ⟨Y, D, c, rfl, d4, f4, ho⟩ := BO.start (pm := fun _ => (0, 0, 0)) (ql := fun _ => ⟨none, 0, 0⟩) HP3.out HN.out hn; have HO := hid ho; clear ho hn HN HP3 HP2))
  obtain ⟨w0, hw0⟩ : ∃ x, x = w := ⟨_, rfl⟩
  go_loopw [5] (fun i wr => ∃ (d : Nat) (pm : Nat → Nat × Nat × Nat) (qb : Nat → Nat) (ql : Nat → RL) (L : Lay) (vp vq : Value), i = .int .i64 d ∧ d ≤ 3 ∧ BO w wr w.heap.size X B G pm d (bst d) (4 * d) Y R D c qb ql d L (bst d) vp vq d d) (fun i _ => 3 - (intOf i).toNat)
  case atStart => exact ⟨0, _, _, _, _, _, _, rfl, by omega, HO.out⟩
  case round =>
    obtain ⟨d, pm, qb, ql, L, vp, vq, rfl, hd, ho⟩ := hrel
    have HS1 := hid ho
    clear ho HO
    have hd0 : (0 : Int) ≤ d := by omega
    by_cases hlt : d < 3
    · have hlt' : (d : Int) < 3 := by omega
      have HJ := hid (bst_j d hlt)
      have HOk := hid (bst_ok d)
      go_wp2_with (first
        | (go_at_call 28; refine (pNew_yes 8 _ (by omega)).mono ?_; rintro e w5 ⟨v, rfl, b, f, p, rfl, hP, g5, hf⟩; have HS2 := hid (HS1.out.add (Nat.le_refl _) (fun e t i h => (bst_mem d (by omega) e t i h).2) hP (Nat.zero_le _) g5 hf); clear hP g5 hf)
        | (go_at_call 29; refine (r3New_yes 8 _ (by omega)).mono ?_; rintro e w6 ⟨v, rfl, b2, l2, rfl, hQ, g6, hf6⟩; have HS3 := hid (HS2.out.radd (Nat.le_refl _) (fun e t i h => (bst_mem d (by omega) e t i h).2) hQ (by show 1 ≤ 8; omega) g6 hf6); clear hQ g6 hf6; have q1 := HS3.out.c1))
      go_loopw [10] (fun i wx => ∃ (j : Nat) (L : Lay), i = .int .i64 j ∧ j ≤ 4 ∧ BO w wx w.heap.size X B G (upPm pm d (b, f, p)) (d + 1) (inn (bst d) d j) (4 * d + j) Y R D c (upN qb d b2) (upN ql d l2) (d + 1) L (inn (bst d) d j) vp vq d d) (fun i _ => 4 - (intOf i).toNat)
      case atStart => exact ⟨0, _, rfl, by omega, HS3.out⟩
      case round =>
        obtain ⟨j, L, rfl, hj, ho⟩ := hrel
        have HS4 := hid ho
        clear ho HS3 HS2 HS1 q1
        have hj0 : (0 : Int) ≤ j := by omega
        have q0 := HS4.out.c0
        by_cases hlj : j < 4
        · have hlj' : (j : Int) < 4 := by omega
          go_wp2_with (first
            | (go_at_call 16; (with_reducible refine (HS4.out.alloc (inn_ok HOk.out d j) (d : Int)).mono ?_); rintro e w7 ⟨rfl, h5⟩; have HS5 := hid h5; clear h5; have q3 := HS5.out.c3)
            | (go_at_call 65; (with_reducible refine (HS5.out.ralloc (inn_ok HOk.out d j).n2 (d : Int)).mono ?_); rintro e w8 ⟨rfl, L2, h6⟩; have HS6 := hid h6; clear h6)
            | (go_at_call 89; (with_reducible refine (HS6.out.set (i := d) (b := b) (by unfold maxLen; omega) (by omega) (by rw [upPm_same]) (j : Int) (4 * (d : Int) + j) (I64.of (by omega) (by omega)) (I64.of (by omega) (by omega))).mono ?_); rintro e w9 ⟨rfl, h7⟩; have HS7 := hid h7; clear h7)
            | (go_at_call 90; (refine (HS7.out.rset (i := d) (b := b2) (by omega) (by rw [upN_same]) (inn_P (bst d) d j) (j : Int) (4 * (d : Int) + j)).mono ?_); rintro e w10 ⟨rfl, h8⟩; have HS8 := hid h8; clear h8))
          go_roundw
          case rel => exact ⟨j + 1, _, by go_num, by omega, HS8.out⟩
          case measure => simp [intOf]; omega
        · obtain rfl : j = 4 := by omega
          clear hlj hj hj0
          obtain ⟨pv, cv, rfl⟩ := ownsRow_slice HS4.out.p
          obtain ⟨pw, cw, rfl⟩ := ownsRow_slice HS4.out.q
          have q2 := HS4.out.c2
          have hsz := HS4.out.g.size
          have HMb := hid (bst_mem d (by omega))
          go_wp2_with (first
            | (at_builtin; refine wpList_append_own _ rfl _ _ 81 rfl w.heap.size 60 i0 (.pointer none) 1 8 Try.underlying81 Hi.out Hz0.out Hz1.out Hz2.out rfl (by decide) _ _ _ rfl (HS4.out.p.alloc _) ⟨wr.heap.size, 0, none⟩ 1 1 [.pointer (some ⟨b, 0, none⟩)] rfl rfl (cell_one_new _ _ _) (by simp [Value.oneCell']) (by unfold maxLen; omega) (by omega) (by simp; omega) ?_; intro v' w5 hown' hgrow hnil; clear hnil; obtain ⟨pv', cv', rfl⟩ := ownsRow_slice hown'; have HS5 := hid ((HS4.out.grown (World.grownBy_alloc wr _ none)).appP (b := b) (by rw [upPm_same]) hgrow hown'); obtain ⟨d5, f5⟩ := (HS4.out.grown (World.grownBy_alloc wr _ none)).preP hgrow; have q5 := HS5.out.c5; have hs5 := HS5.out.g.size; clear hown' hgrow)
            | (at_builtin; refine wpList_append_own _ rfl _ _ 83 rfl w.heap.size 63 j0 (.pointer none) 1 8 Try.underlying83 Ji.out Jz0.out Jz1.out Jz2.out rfl (by decide) _ _ _ rfl (HS5.out.q.alloc _) ⟨w5.heap.size, 0, none⟩ 1 1 [.pointer (some ⟨b2, 0, none⟩)] rfl rfl (cell_one_at _ _ (by simp)) (by simp [Value.oneCell']) (by unfold maxLen; omega) (by omega) (by simp at hs5 ⊢; omega) ?_; intro v' w6 hown' hgrow hnil; clear hnil; obtain ⟨pw', cw', rfl⟩ := ownsRow_slice hown'; have HS6 := hid ((HS5.out.grown (World.grownBy_alloc _ _ none)).appQ (b := b2) (by rw [upN_same]) hgrow hown'); obtain ⟨d6, f6⟩ := (HS5.out.grown (World.grownBy_alloc _ _ none)).preQ hgrow; have q6 := HS6.out.c1; clear hown' hgrow)
            | (go_at_call 52; (refine (HS6.out.join (i := d) (b := b) (inn_ok HOk.out d 4) (by omega) (by omega) (by rw [upPm_same]) (d : Int) (4 * (d : Int))).mono ?_); rintro e w7 ⟨he, h7⟩; rw [HJ.out] at he; subst he; have HS7 := hid h7; clear h7; have q7 := HS7.out.c4)
            | (go_at_call 102; (refine (HS7.out.rjoin (i := d) (b := b2) (fun e t i h => (HMb.out e t i (by rw [inn_g] at h; exact h)).1) (inn_ok HOk.out d 4) (by omega) (by rw [upN_same]) (d : Int) (4 * (d : Int))).mono ?_); rintro e w8 ⟨he, L8, h8⟩; rw [HJ.out] at he; subst he; have HS8 := hid h8; clear h8))
          go_roundw
          case rel => exact ⟨d + 1, _, _, _, _, _, _, by go_num, by omega, HS8.out⟩
          case measure => simp [intOf]; omega
    · have hd3 : d = 3 := by omega
      obtain ⟨zi, hzi⟩ : ∃ z : Int, z = (d : Int) := ⟨_, rfl⟩
      have hz3 : (3 : Int) ≤ zi := by omega
      rw [← hzi]
      clear hzi hlt hd hd0
      subst hd3
      have HOkz := hid (bst_ok 3)
      go_wp2
      go_loopw [11] (fun i wx => ∃ (k : Nat) (L : Lay), i = .int .i64 k ∧ k ≤ l.length ∧ BO w wx w.heap.size X B G pm 3 (lays (bst 3) (l.take k)) 12 Y R D c qb ql 3 L (lays (bst 3) (l.take k)) vp vq 3 3) (fun i _ => l.length - (intOf i).toNat)
      case atStart => exact ⟨0, _, rfl, by omega, HS1.out⟩
      case round =>
        obtain ⟨k, L, rfl, hk, ho⟩ := hrel
        have HS2 := hid ho
        clear ho HS1
        have hk0 : (0 : Int) ≤ k := by omega
        have hk9 : k ≤ 140737488351232 := by have := HLn.out; omega
        by_cases hlt : k < l.length
        · have hlt' : (k : Int) < l.length := by omega
          obtain ⟨b, off, epa, hb, z0, z1, z2, z3, z4, z5, z6, z7, z8, z9⟩ := (HIn.out.grown HS2.out.g) k hlt
          have HOk := hid (lays_ok (HOkz.out) (l.take k))
          have HSn := hid (lays_snoc (bst 3) l k hlt)
          obtain ⟨en, hen⟩ : ∃ en, l[k] = en := ⟨_, rfl⟩
          rw [hen] at z0 z1 z2 z3 z4 z5 z6 z7 z8 z9 HSn
          clear hen
          rw [epa]
          go_wp2_with (go_at_call 36; (refine (show Calls _ _ #[.pointer (some ⟨w.heap.size, 0, none⟩), .agg #[.int .i64 en.d, .int .i64 en.r, .int .i64 en.g.k, .bool en.g.ro, .bool en.g.sub, .int .i64 en.g.dom, .int .i64 en.g.gpfn, .int .i64 en.g.off, .int .i64 en.g.len, .int .u8 en.fl.toNat]] _ _ from lay_any HS2.out HOk.out en).mono ?_); rintro e w9 ⟨rfl, L9, h9⟩; have HS3 := hid h9; clear h9)
          go_roundw
          case rel => exact ⟨k + 1, _, by go_num, by omega, by rw [HSn.out]; exact HS3.out⟩
          case measure => simp [intOf]; omega
        · obtain rfl : k = l.length := by omega
          have hge : (l.length : Int) ≤ l.length := by omega
          have ht : l.take l.length = l := List.take_length
          rw [ht] at HS2
          go_wp2
          go_ret2
          exact ⟨_, _, _, _, _, _, _, _, _, _, _, _, _, _, rfl, HS2.out⟩
end Go.Proofs.Ytibiianmpajabaa
