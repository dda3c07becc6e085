/-
  Package grant: Maps of a domain.
-/
import Derived.Test.YtibiianmpajabaaJ1
import Derived.Test.YtibiianmpajabaaJB
import Derived.Test.YtibiianmpajabaaJ4
set_option linter.unusedSimpArgs false
set_option linter.unusedVariables false
namespace Go.Proofs.Ytibiianmpajabaa
open Go.RowKit KM
set_option maxHeartbeats 4000000
set_option maxRecDepth 100000

def Mpd.cells (a : Mpd) : List Value := [.int .i64 a.h, .int .i64 a.c, .int .i64 a.o, .int .i64 a.r, .int .i64 a.m, .bool a.wr]
def mpcells (l : List Mpd) : List Value := l.flatMap Mpd.cells
theorem mpcells_app (l l' : List Mpd) : mpcells (l ++ l') = mpcells l ++ mpcells l' := by simp [mpcells]
theorem info_mapped : (Try.prog.info? 190).map (fun i => (i.zero, i.size, i.bytes)) = some (some (.agg #[.int .i64 0, .int .i64 0, .int .i64 0, .int .i64 0, .int .i64 0, .bool false]), 6, 48) := by kernel_rfl
theorem mapsOf_some {g : Gst} {c : Int} {k : Nat} {a : Mpd} (h : g.mp (c, (k : Int)) = some a) : g.mapsOf c (k + 1) = g.mapsOf c k ++ [a] := by simp [Gst.mapsOf, List.range_succ, h]
theorem mapsOf_none {g : Gst} {c : Int} {k : Nat} (h : g.mp (c, (k : Int)) = none) : g.mapsOf c (k + 1) = g.mapsOf c k := by simp [Gst.mapsOf, List.range_succ, h]
theorem mapsOf_len (g : Gst) (c : Int) (k : Nat) : (g.mapsOf c k).length ≤ k := by
  unfold Gst.mapsOf
  exact Nat.le_trans (List.length_filterMap_le _ _) (by simp)
theorem news_at {W : World} {n m : Nat} {cs : Array Value} {t : TypeId} (h : W.heap[n]? = some (.cells cs t)) (e : m = n) : ∀ (j : Nat) (u : Value), cs.toList[j]? = some u → W.cell? ((⟨m, 0, none⟩ : Addr).add j) = some u := by
  subst e; exact World.news_of_block h
section
variable {w : World} {X B G : Nat} {pm : Nat → Nat × Nat × Nat} {np : Nat} {s : Gs} {T : Nat}
theorem gMaps (h : GA w X B G pm np s T) (c : Int) (h0 : 0 ≤ c) (h1 : c < 8) : Calls Try.prog 55 #[.pointer (some ⟨X, 0, none⟩), .int .i64 c] w fun e w' => ∃ v, e = .returned v ∧ w'.ownsRow w.heap.size 190 6 v (s.g.mapsOf c 16).length (mpcells (s.g.mapsOf c 16)) ∧ w.grownBy w' none := by
  obtain ⟨i0, hi, hz0, hz1, hz2⟩ := info_parts info_mapped
  have Hi := hid hi; have Hz0 := hid hz0; have Hz1 := hid hz1; have Hz2 := hid hz2
  clear hi hz0 hz1 hz2
  have c0 := h.c0
  have c17 := h.c17
  have H := hid h
  have hX := H.out.top.lt
  clear h
  go_enter Try.func55, Try.ntmps55
  go_wp2_with (go_at_call 103; refine (gMade_yes X B _ c0).mono ?_; rintro e w1 ⟨rfl, rfl⟩)
  go_loopw [5, 12] (fun v i wr => ∃ k : Nat, i = .int .i64 k ∧ k ≤ 16 ∧ wr.ownsRow w.heap.size 190 6 v (s.g.mapsOf c k).length (mpcells (s.g.mapsOf c k)) ∧ w.grownBy wr none) (fun _ i _ => 16 - (intOf i).toNat)
  case atStart => exact ⟨0, rfl, by omega, World.ownsRow_nil _ _ _ _, World.grownBy.refl _ _⟩
  case round =>
    obtain ⟨k, rfl, hk, hrow, hg⟩ := hrel
    obtain ⟨pv, cv, hv⟩ := ownsRow_slice hrow
    have c17r := hg.cell c17 (by simp)
    have HO := hid hrow
    have HG := hid hg
    have HR := hid (H.out.grown hg).mp
    have hk0 : (0 : Int) ≤ k := by omega
    clear hg hrow
    subst hv
    by_cases hlt : k < 16
    · have hk16 : (k : Int) < 16 := by omega
      have HF := hid (fit2_of (h := k) h0 h1 (by omega))
      have hl := mapsOf_len s.g c k
      cases hm : s.g.mp (c, (k : Int)) with
      | none =>
        have e3 := hid (mapsOf_none hm)
        have e1 := hid (show ((s.g.mp (c, (k : Int))).map Mpd.val).getD mpd0.val = .agg #[.int .i64 0, .int .i64 0, .int .i64 0, .int .i64 0, .int .i64 0, .bool false] by rw [hm]; rfl)
        have e2 := hid (show ((s.g.mp (c, (k : Int))).map Mpd.val).isSome = false by rw [hm]; rfl)
        clear hm
        go_wp2_with (at_lookup; refine wpList_look_ok_kmap _ rfl _ _ 108 rfl 190 key_ks Try.underlying108 mpd0.val (mapped_zero _) G T _ rfl HR.out (c, (k : Int)) rfl HF.out ?_; rw [e1.out, e2.out])
        go_roundw
        case rel => exact ⟨k + 1, by go_num, by omega, by rw [e3.out]; exact HO.out.alloc _, HG.out.trans (World.grownBy_alloc _ _ none)⟩
        case measure => simp [intOf]; omega
      | some a =>
        have e3 := hid (mapsOf_some hm)
        have e1 := hid (show ((s.g.mp (c, (k : Int))).map Mpd.val).getD mpd0.val = .agg #[.int .i64 a.h, .int .i64 a.c, .int .i64 a.o, .int .i64 a.r, .int .i64 a.m, .bool a.wr] by rw [hm]; rfl)
        have e2 := hid (show ((s.g.mp (c, (k : Int))).map Mpd.val).isSome = true by rw [hm]; rfl)
        have hsz := HG.out.size
        clear hm
        go_wp2_with (first
          | (at_lookup; refine wpList_look_ok_kmap _ rfl _ _ 108 rfl 190 key_ks Try.underlying108 mpd0.val (mapped_zero _) G T _ rfl HR.out (c, (k : Int)) rfl HF.out ?_; rw [e1.out, e2.out])
          | (at_builtin; refine wpList_append_own _ rfl _ _ 125 rfl w.heap.size 190 i0 (.agg #[.int .i64 0, .int .i64 0, .int .i64 0, .int .i64 0, .int .i64 0, .bool false]) 6 48 Try.underlying125 Hi.out Hz0.out Hz1.out Hz2.out rfl (by decide) _ _ _ rfl ((HO.out.alloc _).alloc _) ⟨wr.heap.size + 1, 0, none⟩ 1 1 a.cells rfl rfl (news_at (heap_alloc_new _ _) (by simp)) (by simp [Mpd.cells, Value.oneCell']) (by unfold maxLen; omega) (by omega) (by simp; omega) ?_; intro v' w1 hown' hgrow hnil; clear hnil; have HO1 := hid hown'; have HG1 := hid (((HG.out.trans (World.grownBy_alloc wr _ none)).trans (World.grownBy_alloc _ _ none)).andThen hgrow (fun j hj => .inl (HO.out.lt j hj).1)); clear hown' hgrow))
        go_roundw
        case rel => exact ⟨k + 1, by go_num, by omega, by rw [e3.out, mpcells_app, List.length_append]; exact HO1.out, HG1.out⟩
        case measure => simp [intOf]; omega
    · obtain rfl : k = 16 := by omega
      have hge : ((16 : Nat) : Int) ≤ (16 : Nat) := by omega
      go_wp2
      go_ret
      exact ⟨_, rfl, HO.out, HG.out⟩
end
end Go.Proofs.Ytibiianmpajabaa

/-
  The laws of package grant that ask the program alone: the struct of law06 with its grants, and a view without rewrites. No walk here.
-/
set_option linter.unusedSimpArgs false
set_option linter.unusedVariables false
namespace Go.Proofs.Ytibiianmpajabaa
open Go.RowKit KM
set_option maxHeartbeats 1000000
set_option maxRecDepth 100000

/-- block t holds the machine B and the grants X -/
structure WT (w0 w : World) (t X B G : Nat) (pm : Nat → Nat × Nat × Nat) (s : Gs) (T : Nat) : Prop where
  c0 : w.cell? ⟨t, 0, none⟩ = some (.pointer (some ⟨B, 0, none⟩))
  c1 : w.cell? ⟨t, 1, none⟩ = some (.pointer (some ⟨X, 0, none⟩))
  lt : t < w.heap.size
  a : GA w X B G pm 3 s T
  nt : ¬ gfoot X B G pm 3 t
  far : ∀ q, gfoot X B G pm 3 q → w0.heap.size ≤ q
  ft : w0.heap.size ≤ t
  g : w0.grownBy w none
section
variable {w0 w w' : World} {t X B G : Nat} {pm : Nat → Nat × Nat × Nat} {s s' : Gs} {T T' : Nat}
theorem BO.wt {n2 np nq Y R D c : Nat} {qb : Nat → Nat} {ql : Nat → RL} {L : Lay} {sb : Gs} {vp vq : Value} (h : BO w0 w t X B G pm 3 s T Y R D c qb ql n2 L sb vp vq np nq) : WT w0 w t X B G pm s T :=
  ⟨h.c0, h.c1, h.row.lt, h.a, h.na (.inl rfl), h.fa, h.ft, h.g⟩
theorem WT.chg {S : Nat → Prop} (h : WT w0 w t X B G pm s T) (ha : GA w' X B G pm 3 s' T') (hc : Chg S w w') (hS : ¬ S t) (hf : ∀ k, S k → w0.heap.size ≤ k) : WT w0 w' t X B G pm s' T' :=
  ⟨hc.gen.cell h.c0 hS, hc.gen.cell h.c1 hS, Nat.lt_of_lt_of_le h.lt hc.size, ha, h.nt, h.far, h.ft, hc.grownR h.g hf⟩
theorem WT.grown (h : WT w0 w t X B G pm s T) (hg : w.grownBy w' none) : WT w0 w' t X B G pm s T := h.chg (S := fun _ => False) (h.a.grown hg) (Chg.of0 hg) (fun e => e) fun _ e => e.elim
theorem WT.left (h : WT w0 w t X B G pm s T) (hl : GL w X B G pm 3 s' T' w') : WT w0 w' t X B G pm s' T' := h.chg hl.a hl.c h.nt h.far
theorem WT.mach {M' : Mach} (h : WT w0 w t X B G pm s T) (hm : PM w' B M') (hg : w.grownBy w' (some B)) : WT w0 w' t X B G pm (s.setM M') T := h.left ((GL.same h.a).mach hm hg)
end
/-- and a view without rewrites, read n times -/
structure WV (w0 w : World) (t X B G : Nat) (pm : Nat → Nat × Nat × Nat) (s : Gs) (T : Nat) (V Gv : Nat) (S : Nat → Prop) (n : Nat) : Prop where
  wt : WT w0 w t X B G pm s T
  a : GW w X B G pm 3 s T V Gv S [] n
  nv : t ≠ V ∧ t ≠ Gv
  fv : w0.heap.size ≤ V ∧ w0.heap.size ≤ Gv
section
variable {w0 w w' : World} {t X B G : Nat} {pm : Nat → Nat × Nat × Nat} {s s' : Gs} {T T' : Nat} {V Gv : Nat} {S : Nat → Prop} {n n' : Nat}
theorem WV.nt (h : WV w0 w t X B G pm s T V Gv S n) : ¬ avfoot X B G pm 3 V Gv t := by
  rintro (e | e | e)
  · exact h.wt.nt e
  · exact h.nv.1 e
  · exact h.nv.2 e
theorem WV.far (h : WV w0 w t X B G pm s T V Gv S n) (k : Nat) (hk : avfoot X B G pm 3 V Gv k) : w0.heap.size ≤ k := by
  rcases hk with e | e | e
  · exact h.wt.far k e
  · exact e ▸ h.fv.1
  · exact e ▸ h.fv.2
theorem WV.grown (h : WV w0 w t X B G pm s T V Gv S n) (hg : w.grownBy w' none) : WV w0 w' t X B G pm s T V Gv S n := ⟨h.wt.grown hg, h.a.grown hg, h.nv, h.fv⟩
theorem WV.gr (h : WV w0 w t X B G pm s T V Gv S n) (hr : GR w X B G pm 3 s' T' V Gv S [] n' w') : WV w0 w' t X B G pm s' T' V Gv S n' :=
  ⟨h.wt.chg hr.a.a hr.c h.nt h.far, hr.a, h.nv, h.fv⟩
theorem WV.left (h : WV w0 w t X B G pm s T V Gv S n) (hl : GL w X B G pm 3 s' T' w') : WV w0 w' t X B G pm s' T' V Gv S n :=
  ⟨h.wt.left hl, h.a.left hl.a hl.c, h.nv, h.fv⟩
theorem WV.mach {M' : Mach} (h : WV w0 w t X B G pm s T V Gv S n) (hm : PM w' B M') (hg : w.grownBy w' (some B)) : WV w0 w' t X B G pm (s.setM M') T V Gv S n := h.left ((GL.same h.wt.a).mach hm hg)
/-- a view is made -/
theorem WT.view (h : WT w0 w t X B G pm s T) {f : Int → Option Value} (hv : VV w' (w.heap.size + 1) w.heap.size B (fun k => w.heap.size + 2 ≤ k ∧ k < w'.heap.size) [] 0 0 f) (hg : w.grownBy w' none) :
    WV w0 w' t X B G pm s T (w.heap.size + 1) w.heap.size (fun k => w.heap.size + 2 ≤ k ∧ k < w'.heap.size) 0 := by
  have h1 := h.lt
  have h2 := h.g.size
  exact ⟨h.grown hg, h.a.view hv hg, ⟨by omega, by omega⟩, by omega, by omega⟩
end
theorem due_none (s : Gs) (n : Nat) : s.due [] n = s := s.due_nil rfl
end Go.Proofs.Ytibiianmpajabaa
