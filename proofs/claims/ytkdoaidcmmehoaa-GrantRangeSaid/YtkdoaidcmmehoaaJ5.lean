/-
  Package grant: Maps of a domain.
-/
import Derived.Test.YtkdoaidcmmehoaaJ1
import Derived.Test.YtkdoaidcmmehoaaJB
import Derived.Test.YtkdoaidcmmehoaaJ4
set_option linter.unusedSimpArgs false
set_option linter.unusedVariables false
namespace Go.Proofs.Ytkdoaidcmmehoaa
open Go.RowKit KM
set_option maxHeartbeats 4000000
set_option maxRecDepth 100000

def Mpd.cells (a : Mpd) : List Value := [.int .i64 a.h, .int .i64 a.c, .int .i64 a.o, .int .i64 a.r, .int .i64 a.m, .bool a.wr]
def mpcells (l : List Mpd) : List Value := l.flatMap Mpd.cells
theorem mpcells_app (l l' : List Mpd) : mpcells (l ++ l') = mpcells l ++ mpcells l' := by simp [mpcells]
theorem info_mapped : (Try.prog.info? 198).map (fun i => (i.zero, i.size, i.bytes)) = some (some (.agg #[.int .i64 0, .int .i64 0, .int .i64 0, .int .i64 0, .int .i64 0, .bool false]), 6, 48) := by kernel_rfl
theorem mapsOf_some {g : Gst} {c : Int} {k : Nat} {a : Mpd} (h : g.mp (c, (k : Int)) = some a) : g.mapsOf c (k + 1) = g.mapsOf c k ++ [a] := by simp [Gst.mapsOf, List.range_succ, h]
theorem mapsOf_none {g : Gst} {c : Int} {k : Nat} (h : g.mp (c, (k : Int)) = none) : g.mapsOf c (k + 1) = g.mapsOf c k := by simp [Gst.mapsOf, List.range_succ, h]
theorem mapsOf_len (g : Gst) (c : Int) (k : Nat) : (g.mapsOf c k).length ≤ k := by
  unfold Gst.mapsOf
  exact Nat.le_trans (List.length_filterMap_le _ _) (by simp)
theorem news_at {W : World} {n m : Nat} {cs : Array Value} {t : TypeId} (h : W.heap[n]? = some (.cells cs t)) (e : m = n) : ∀ (j : Nat) (u : Value), cs.toList[j]? = some u → W.cell? ((⟨m, 0, none⟩ : Addr).add j) = some u := by
  subst e; exact World.news_of_block h
section
variable {w : World} {X B G : Nat} {pm : Nat → Nat × Nat × Nat} {np : Nat} {s : Gs} {T : Nat}
theorem gMaps (h : GA w X B G pm np s T) (c : Int) (h0 : 0 ≤ c) (h1 : c < 8) : Calls Try.prog 62 #[.pointer (some ⟨X, 0, none⟩), .int .i64 c] w fun e w' => ∃ v, e = .returned v ∧ w'.ownsRow w.heap.size 198 6 v (s.g.mapsOf c 16).length (mpcells (s.g.mapsOf c 16)) ∧ w.grownBy w' none := by
  obtain ⟨i0, hi, hz0, hz1, hz2⟩ := info_parts info_mapped
  have Hi := hid hi; have Hz0 := hid hz0; have Hz1 := hid hz1; have Hz2 := hid hz2
  clear hi hz0 hz1 hz2
  have c0 := h.c0
  have c17 := h.c17
  have H := hid h
  have hX := H.out.top.lt
  clear h
  go_enter Try.func62, Try.ntmps62
  go_wp2_with (go_at_call 111; refine (gMade_yes X B _ c0).mono ?_; rintro e w1 ⟨rfl, rfl⟩)
  go_loopw [5, 12] (fun v i wr => ∃ k : Nat, i = .int .i64 k ∧ k ≤ 16 ∧ wr.ownsRow w.heap.size 198 6 v (s.g.mapsOf c k).length (mpcells (s.g.mapsOf c k)) ∧ w.grownBy wr none) (fun _ i _ => 16 - (intOf i).toNat)
  case atStart => exact ⟨0, rfl, by omega, World.ownsRow_nil _ _ _ _, World.grownBy.refl _ _⟩
  case round =>
    obtain ⟨k, rfl, hk, hrow, hg⟩ := hrel
    obtain ⟨pv, cv, hv⟩ := ownsRow_slice hrow
    have c17r := hg.cell c17 (by simp)
    have HO := hid hrow
    have HG := hid hg
    have HR := hid (H.out.grown hg).mp
    have hk0 : (0 : Int) ≤ k := by omega
    clear hg hrow
    subst hv
    by_cases hlt : k < 16
    · have hk16 : (k : Int) < 16 := by omega
      have HF := hid (fit2_of (h := k) h0 h1 (by omega))
      have hl := mapsOf_len s.g c k
      cases hm : s.g.mp (c, (k : Int)) with
      | none =>
        have e3 := hid (mapsOf_none hm)
        have e1 := hid (show ((s.g.mp (c, (k : Int))).map Mpd.val).getD mpd0.val = .agg #[.int .i64 0, .int .i64 0, .int .i64 0, .int .i64 0, .int .i64 0, .bool false] by rw [hm]; rfl)
        have e2 := hid (show ((s.g.mp (c, (k : Int))).map Mpd.val).isSome = false by rw [hm]; rfl)
        clear hm
        go_wp2_with (at_lookup; refine wpList_look_ok_kmap _ rfl _ _ 116 rfl 198 key_ks Try.underlying116 mpd0.val (mapped_zero _) G T _ rfl HR.out (c, (k : Int)) rfl HF.out ?_; rw [e1.out, e2.out])
        go_roundw
        case rel => exact ⟨k + 1, by go_num, by omega, by rw [e3.out]; exact HO.out.alloc _, HG.out.trans (World.grownBy_alloc _ _ none)⟩
        case measure => simp [intOf]; omega
      | some a =>
        have e3 := hid (mapsOf_some hm)
        have e1 := hid (show ((s.g.mp (c, (k : Int))).map Mpd.val).getD mpd0.val = .agg #[.int .i64 a.h, .int .i64 a.c, .int .i64 a.o, .int .i64 a.r, .int .i64 a.m, .bool a.wr] by rw [hm]; rfl)
        have e2 := hid (show ((s.g.mp (c, (k : Int))).map Mpd.val).isSome = true by rw [hm]; rfl)
        have hsz := HG.out.size
        clear hm
        go_wp2_with (first
          | (at_lookup; refine wpList_look_ok_kmap _ rfl _ _ 116 rfl 198 key_ks Try.underlying116 mpd0.val (mapped_zero _) G T _ rfl HR.out (c, (k : Int)) rfl HF.out ?_; rw [e1.out, e2.out])
          | (at_builtin; refine wpList_append_own _ rfl _ _ 133 rfl w.heap.size 198 i0 (.agg #[.int .i64 0, .int .i64 0, .int .i64 0, .int .i64 0, .int .i64 0, .bool false]) 6 48 Try.underlying133 Hi.out Hz0.out Hz1.out Hz2.out rfl (by decide) _ _ _ rfl ((HO.out.alloc _).alloc _) ⟨wr.heap.size + 1, 0, none⟩ 1 1 a.cells rfl rfl (news_at (heap_alloc_new _ _) (by simp)) (by simp [Mpd.cells, Value.oneCell']) (by unfold maxLen; omega) (by omega) (by simp; omega) ?_; intro v' w1 hown' hgrow hnil; clear hnil; have HO1 := hid hown'; have HG1 := hid (((HG.out.trans (World.grownBy_alloc wr _ none)).trans (World.grownBy_alloc _ _ none)).andThen hgrow (fun j hj => .inl (HO.out.lt j hj).1)); clear hown' hgrow))
        go_roundw
        case rel => exact ⟨k + 1, by go_num, by omega, by rw [e3.out, mpcells_app, List.length_append]; exact HO1.out, HG1.out⟩
        case measure => simp [intOf]; omega
    · obtain rfl : k = 16 := by omega
      have hge : ((16 : Nat) : Int) ≤ (16 : Nat) := by omega
      go_wp2
      go_ret
      exact ⟨_, rfl, HO.out, HG.out⟩
end
end Go.Proofs.Ytkdoaidcmmehoaa

/-
  The laws of package grant that ask the program alone: the struct of law06 with its grants, and a view without rewrites. No walk here.
-/
set_option linter.unusedSimpArgs false
set_option linter.unusedVariables false
namespace Go.Proofs.Ytkdoaidcmmehoaa
open Go.RowKit KM
set_option maxHeartbeats 1000000
set_option maxRecDepth 100000

/-- block t holds the machine B and the grants X -/
structure WT (w0 w : World) (t X B G : Nat) (pm : Nat → Nat × Nat × Nat) (s : Gs) (T : Nat) : Prop where
  c0 : w.cell? ⟨t, 0, none⟩ = some (.pointer (some ⟨B, 0, none⟩))
  c1 : w.cell? ⟨t, 1, none⟩ = some (.pointer (some ⟨X, 0, none⟩))
  lt : t < w.heap.size
  a : GA w X B G pm 3 s T
  nt : ¬ gfoot X B G pm 3 t
  far : ∀ q, gfoot X B G pm 3 q → w0.heap.size ≤ q
  ft : w0.heap.size ≤ t
  g : w0.grownBy w none
section
variable {w0 w w' : World} {t X B G : Nat} {pm : Nat → Nat × Nat × Nat} {s s' : Gs} {T T' : Nat}
theorem BO.wt {n2 np nq Y R D c : Nat} {qb : Nat → Nat} {ql : Nat → RL} {L : Lay} {sb : Gs} {vp vq : Value} (h : BO w0 w t X B G pm 3 s T Y R D c qb ql n2 L sb vp vq np nq) : WT w0 w t X B G pm s T :=
  ⟨h.c0, h.c1, h.row.lt, h.a, h.na (.inl rfl), h.fa, h.ft, h.g⟩
theorem WT.chg {S : Nat → Prop} (h : WT w0 w t X B G pm s T) (ha : GA w' X B G pm 3 s' T') (hc : Chg S w w') (hS : ¬ S t) (hf : ∀ k, S k → w0.heap.size ≤ k) : WT w0 w' t X B G pm s' T' :=
  ⟨hc.gen.cell h.c0 hS, hc.gen.cell h.c1 hS, Nat.lt_of_lt_of_le h.lt hc.size, ha, h.nt, h.far, h.ft, hc.grownR h.g hf⟩
theorem WT.grown (h : WT w0 w t X B G pm s T) (hg : w.grownBy w' none) : WT w0 w' t X B G pm s T := h.chg (S := fun _ => False) (h.a.grown hg) (Chg.of0 hg) (fun e => e) fun _ e => e.elim
theorem WT.left (h : WT w0 w t X B G pm s T) (hl : GL w X B G pm 3 s' T' w') : WT w0 w' t X B G pm s' T' := h.chg hl.a hl.c h.nt h.far
theorem WT.mach {M' : Mach} (h : WT w0 w t X B G pm s T) (hm : PM w' B M') (hg : w.grownBy w' (some B)) : WT w0 w' t X B G pm (s.setM M') T := h.left ((GL.same h.a).mach hm hg)
end
/-- and a view without rewrites, read n times -/
structure WV (w0 w : World) (t X B G : Nat) (pm : Nat → Nat × Nat × Nat) (s : Gs) (T : Nat) (V Gv : Nat) (S : Nat → Prop) (n : Nat) : Prop where
  wt : WT w0 w t X B G pm s T
  a : GW w X B G pm 3 s T V Gv S [] n
  nv : t ≠ V ∧ t ≠ Gv
  fv : w0.heap.size ≤ V ∧ w0.heap.size ≤ Gv
section
variable {w0 w w' : World} {t X B G : Nat} {pm : Nat → Nat × Nat × Nat} {s s' : Gs} {T T' : Nat} {V Gv : Nat} {S : Nat → Prop} {n n' : Nat}
theorem WV.nt (h : WV w0 w t X B G pm s T V Gv S n) : ¬ avfoot X B G pm 3 V Gv t := by
  rintro (e | e | e)
  · exact h.wt.nt e
  · exact h.nv.1 e
  · exact h.nv.2 e
theorem WV.far (h : WV w0 w t X B G pm s T V Gv S n) (k : Nat) (hk : avfoot X B G pm 3 V Gv k) : w0.heap.size ≤ k := by
  rcases hk with e | e | e
  · exact h.wt.far k e
  · exact e ▸ h.fv.1
  · exact e ▸ h.fv.2
theorem WV.grown (h : WV w0 w t X B G pm s T V Gv S n) (hg : w.grownBy w' none) : WV w0 w' t X B G pm s T V Gv S n := ⟨h.wt.grown hg, h.a.grown hg, h.nv, h.fv⟩
theorem WV.gr (h : WV w0 w t X B G pm s T V Gv S n) (hr : GR w X B G pm 3 s' T' V Gv S [] n' w') : WV w0 w' t X B G pm s' T' V Gv S n' :=
  ⟨h.wt.chg hr.a.a hr.c h.nt h.far, hr.a, h.nv, h.fv⟩
theorem WV.left (h : WV w0 w t X B G pm s T V Gv S n) (hl : GL w X B G pm 3 s' T' w') : WV w0 w' t X B G pm s' T' V Gv S n :=
  ⟨h.wt.left hl, h.a.left hl.a hl.c, h.nv, h.fv⟩
theorem WV.mach {M' : Mach} (h : WV w0 w t X B G pm s T V Gv S n) (hm : PM w' B M') (hg : w.grownBy w' (some B)) : WV w0 w' t X B G pm (s.setM M') T V Gv S n := h.left ((GL.same h.wt.a).mach hm hg)
/-- a view is made -/
theorem WT.view (h : WT w0 w t X B G pm s T) {f : Int → Option Value} (hv : VV w' (w.heap.size + 1) w.heap.size B (fun k => w.heap.size + 2 ≤ k ∧ k < w'.heap.size) [] 0 0 f) (hg : w.grownBy w' none) :
    WV w0 w' t X B G pm s T (w.heap.size + 1) w.heap.size (fun k => w.heap.size + 2 ≤ k ∧ k < w'.heap.size) 0 := by
  have h1 := h.lt
  have h2 := h.g.size
  exact ⟨h.grown hg, h.a.view hv hg, ⟨by omega, by omega⟩, by omega, by omega⟩
end
theorem due_none (s : Gs) (n : Nat) : s.due [] n = s := s.due_nil rfl
end Go.Proofs.Ytkdoaidcmmehoaa

/-
  GrantHandles on plain data. No walk here.
-/
set_option linter.unusedSimpArgs false
set_option linter.unusedVariables false
namespace Go.Proofs.Ytkdoaidcmmehoaa
open Go.RowKit KM
set_option maxRecDepth 100000

def gH : GV := ⟨1, false, false, 1, 1, 0, 256⟩
def eH : Ent := ⟨0, 1, gH, 0⟩
theorem entV_gH : entV (pkL gH) 1 1 = some gH := by kernel_rfl
structure HS (s : Gs) (K : Int) (live : Nat → Bool) : Prop where
  ok : s.M.ok K
  n : s.M.n = 13
  o1 : (s.M.fr 1).owner = 0
  t1 : (s.M.fr 1).cnt = 0 ∨ (s.M.fr 1).ty = 1
  en : (s.M.fr 0).part 8 8 = pkL gH
  mem : s.g.mem 0 = some (0, 0)
  p : (s.P 0).getE 1 = (1, 0)
  mp1 : ∀ h : Nat, h < 16 → (s.g.mp (1, (h : Int))).isSome = live h
  mp2 : ∀ k a, s.g.mp k = some a → k.1 = 1 ∧ 0 ≤ k.2 ∧ k.2 < 16 ∧ a.o = 0 ∧ a.m = 1
theorem HS.start : HS (layS (bst 3) eH) 3 (fun _ => false) where
  ok := layM_ok (bst_ok 3) eH
  n := by kernel_rfl
  o1 := by kernel_rfl
  t1 := .inl (by kernel_rfl)
  en := by kernel_rfl
  mem := by kernel_rfl
  p := by kernel_rfl
  mp1 := fun h _ => by
    show ((bst 3).g.mp (1, (h : Int))).isSome = false
    rw [bst_g3]; rfl
  mp2 := fun k a h => by
    have h : (bst 3).g.mp k = some a := h
    rw [bst_g3] at h; cases h
def live1 (live : Nat → Bool) (x : Nat) (b : Bool) : Nat → Bool := fun h => if h = x then b else live h
section
variable {s : Gs} {K : Int} {live : Nat → Bool}
theorem HS.entB (h : HS s K live) : s.entB ((0 : Nat) : Int) ((1 : Nat) : Int) = pkL gH := by
  have ht : s.table ((0 : Nat) : Int) = 0 := by unfold Gs.table; rw [Int.toNat_natCast, h.mem]
  unfold Gs.entB
  rw [ht, read_good (by rw [Mach.is_iff, h.n]; omega) (inP_yes (by omega) (by omega) (by omega))]
  exact h.en
theorem HS.granted (h : HS s K live) : s.granted ((0 : Nat) : Int) 1 = some 1 := by
  have ho : s.owns ((0 : Nat) : Int) 1 = true := by
    unfold Gs.owns
    rw [Mach.is_yes (by omega) (by rw [h.n]; omega), show (1 : Int).toNat = 1 from rfl, h.o1]; rfl
  unfold Gs.granted
  rw [Int.toNat_natCast, h.mem]
  simp only [h.p, ho, and_true, if_true]
theorem HS.get (h : HS s K live) (wr : Bool) : (s.M.get 1 0 (kindW wr)).1 = 0 ∧ (s.M.get 1 0 (kindW wr)).2 = s.M.upd 1 ((s.M.fr 1).taken (kindW wr)) := by
  have hi : s.M.is 1 = true := Mach.is_yes (by omega) (by rw [h.n]; omega)
  have hkk : kindW wr = 0 ∨ kindW wr = 1 := by unfold kindW; split <;> simp
  have hcty : ¬ (kindW wr ≠ 0 ∧ (s.M.fr 1).cnt ≠ 0 ∧ (s.M.fr 1).ty ≠ kindW wr) := by
    rintro ⟨h1, h2, h3⟩
    have hk1 : kindW wr = 1 := by omega
    rw [hk1] at h3
    rcases h.t1 with e | e
    · exact h2 e
    · exact h3 e
  unfold Mach.get Mach.take
  rw [if_neg (by rw [hi]; simp), if_neg (by omega), show (1 : Int).toNat = 1 from rfl, if_neg (by rw [h.o1]; omega), if_neg (by rw [h.o1]; simp), if_neg hcty]
  exact ⟨rfl, rfl⟩
def mapG (s : Gs) (x : Nat) (wr : Bool) : Gs := ⟨(s.M.get 1 0 (kindW wr)).2, s.P, s.g.setMp (1, (x : Int)) (some ⟨x, 1, 0, 1, 1, wr⟩)⟩
theorem HS.mapE (h : HS s K live) (x : Nat) (wr : Bool) : s.mapE (s.entB ((0 : Nat) : Int) ((1 : Nat) : Int)) 1 ((0 : Nat) : Int) ((1 : Nat) : Int) wr x = ((x : Int), (0 : Int), mapG s x wr) := by
  rw [h.entB]
  unfold Gs.mapE
  rw [entV_gH]
  have e1 : ¬ (gH.sub = true) := by decide
  have e2 : ¬ ((wr && gH.ro) = true) := by cases wr <;> decide
  simp only
  rw [if_neg e1, if_neg e2, show gH.gpfn = 1 from rfl, h.granted]
  show (if (s.M.get 1 0 (kindW wr)).1 = 0 then _ else _) = _
  rw [if_pos (h.get wr).1]
  rfl
theorem HS.map (h : HS s K live) {x : Nat} (hx : x < 16) (wr : Bool) : HS (mapG s x wr) (K + 1) (live1 live x true) where
  ok := Mach.get_ok h.ok 1 0 (kindW wr)
  n := by show (s.M.get 1 0 (kindW wr)).2.n = 13; rw [Mach.get_n]; exact h.n
  o1 := by
    show ((s.M.get 1 0 (kindW wr)).2.fr 1).owner = 0
    rw [(h.get wr).2, Mach.upd_same]
    unfold Fr.taken; split <;> exact h.o1
  t1 := by
    show ((s.M.get 1 0 (kindW wr)).2.fr 1).cnt = 0 ∨ ((s.M.get 1 0 (kindW wr)).2.fr 1).ty = 1
    rw [(h.get wr).2, Mach.upd_same]
    unfold Fr.taken
    have hkk : kindW wr = 0 ∨ kindW wr = 1 := by unfold kindW; split <;> simp
    split
    · exact h.t1
    · exact .inr (by show kindW wr = 1; omega)
  en := by
    show ((s.M.get 1 0 (kindW wr)).2.fr 0).part 8 8 = pkL gH
    rw [(h.get wr).2, Mach.upd_other _ _ _ _ (by omega)]
    exact h.en
  mem := h.mem
  p := h.p
  mp1 := fun j hj => by
    show ((s.g.setMp (1, (x : Int)) (some ⟨x, 1, 0, 1, 1, wr⟩)).mp (1, (j : Int))).isSome = live1 live x true j
    unfold live1
    by_cases e : j = x
    · subst e; simp [Gst.setMp]
    · simp only [Gst.setMp, Prod.mk.injEq, true_and]
      rw [if_neg (by omega), if_neg e]
      exact h.mp1 j hj
  mp2 := fun k a hk => by
    have hk : (s.g.setMp (1, (x : Int)) (some ⟨x, 1, 0, 1, 1, wr⟩)).mp k = some a := hk
    simp only [Gst.setMp] at hk
    split at hk
    · rename_i e
      cases hk
      subst e
      exact ⟨rfl, by simp, by simp; omega, rfl, rfl⟩
    · exact h.mp2 k a hk
theorem HS.unmap (h : HS s K live) {x : Nat} (hx : x < 16) (hl : live x = true) : (s.unmap 1 (x : Int)).1 = 0 ∧ HS (s.unmap 1 (x : Int)).2 K (live1 live x false) := by
  have h1 := h.mp1 x hx
  rw [hl] at h1
  obtain ⟨a, ha⟩ := Option.isSome_iff_exists.1 h1
  obtain ⟨-, -, -, -, hm⟩ := h.mp2 _ _ ha
  have e0 : s.live 1 (x : Int) = (a, 0) := by unfold Gs.live; rw [if_neg (by decide), ha]
  have e1 : s.unmap 1 (x : Int) = (0, ⟨(s.M.put 1 (kindW a.wr)).2, s.P, s.g.setMp (1, (x : Int)) none⟩) := by unfold Gs.unmap; rw [e0, if_pos rfl, hm]
  have hi : s.M.is 1 = true := Mach.is_yes (by omega) (by rw [h.n]; omega)
  have hkk : kindW a.wr = 0 ∨ kindW a.wr = 1 := by unfold kindW; split <;> simp
  have hput : (s.M.put 1 (kindW a.wr)).2 = s.M ∨ (s.M.put 1 (kindW a.wr)).2 = s.M.upd 1 ((s.M.fr 1).dropped (kindW a.wr)) := by
    unfold Mach.put Mach.drop
    rw [if_neg (by rw [hi]; simp), if_neg (by omega), show (1 : Int).toNat = 1 from rfl]
    split
    · exact .inl rfl
    · exact .inr rfl
  rw [e1]
  refine ⟨rfl, ?_, ?_, ?_, ?_, ?_, h.mem, h.p, ?_, ?_⟩
  · exact Mach.put_ok h.ok _ _
  · show (s.M.put 1 (kindW a.wr)).2.n = 13
    rw [Mach.put_n]; exact h.n
  · show ((s.M.put 1 (kindW a.wr)).2.fr 1).owner = 0
    rcases hput with e | e
    · rw [e]; exact h.o1
    · rw [e, Mach.upd_same]; unfold Fr.dropped; (repeat' split) <;> exact h.o1
  · show ((s.M.put 1 (kindW a.wr)).2.fr 1).cnt = 0 ∨ ((s.M.put 1 (kindW a.wr)).2.fr 1).ty = 1
    rcases hput with e | e
    · rw [e]; exact h.t1
    · rw [e, Mach.upd_same]
      unfold Fr.dropped
      split
      · exact h.t1
      · split
        · exact .inl rfl
        · rename_i h3 h4
          rcases h.t1 with e | e
          · have z := (h.ok.fr 1 (by rw [h.n]; omega)).1.z.1 e
            have hk1 : kindW a.wr = 1 := by omega
            rename_i ee
            exfalso
            have hd : (s.M.put 1 (kindW a.wr)).2 = s.M := by
              unfold Mach.put Mach.drop
              rw [if_neg (by rw [hi]; simp), if_neg (by omega), show (1 : Int).toNat = 1 from rfl, if_pos (.inr ⟨by omega, by rw [z, hk1]; omega⟩)]
            rw [hd] at ee
            have := congrArg (fun M => (M.fr 1).cnt) ee
            simp only [Mach.upd_same] at this
            unfold Fr.dropped at this
            rw [if_neg h3, if_neg h4] at this
            simp only at this
            omega
          · exact .inr e
  · show ((s.M.put 1 (kindW a.wr)).2.fr 0).part 8 8 = pkL gH
    rcases hput with e | e
    · rw [e]; exact h.en
    · rw [e, Mach.upd_other _ _ _ _ (by omega)]; exact h.en
  · intro j hj
    show ((s.g.setMp (1, (x : Int)) none).mp (1, (j : Int))).isSome = live1 live x false j
    unfold live1
    by_cases e : j = x
    · subst e; simp [Gst.setMp]
    · simp only [Gst.setMp, Prod.mk.injEq, true_and]
      rw [if_neg (by omega), if_neg e]
      exact h.mp1 j hj
  · intro k b hk
    have hk : (s.g.setMp (1, (x : Int)) none).mp k = some b := hk
    simp only [Gst.setMp] at hk
    split at hk
    · cases hk
    · exact h.mp2 k b hk
theorem HS.free (h : HS s K live) {x : Nat} (hx : x < 16) (hb : ∀ j, j < x → live j = true) (hn : live x = false) : s.g.free 1 = some x :=
  Gst.free_at hx (fun j hj => by rw [h.mp1 j (by omega)]; exact hb j hj) (by rw [h.mp1 x hx]; exact hn)
theorem HS.full (h : HS s K live) (hb : ∀ j, j < 16 → live j = true) : s.g.free 1 = none := Gst.free_none fun j hj => by rw [h.mp1 j hj]; exact hb j hj
theorem HS.len (h : HS s K live) (hb : ∀ j, j < 16 → live j = true) : (s.g.mapsOf 1 16).length = 16 := by
  have : ∀ k, k ≤ 16 → (s.g.mapsOf 1 k).length = k := by
    intro k
    induction k with
    | zero => intro _; rfl
    | succ k ih =>
      intro hk
      have h1 := h.mp1 k (by omega)
      rw [hb k (by omega)] at h1
      obtain ⟨a, ha⟩ := Option.isSome_iff_exists.1 h1
      unfold Gst.mapsOf
      rw [List.range_succ, List.filterMap_append, List.length_append]
      have := ih (by omega)
      unfold Gst.mapsOf at this
      rw [this]
      simp [ha]
  exact this 16 (by omega)
theorem HS.foreign (h : HS s K live) (hb : ∀ j, j < 16 → live j = true) : s.g.foreign 0 = 16 := by
  unfold Gst.foreign
  have e : allKeys.filter (fun k => match s.g.mp k with | some a => a.o == 0 | none => false) = allKeys.filter fun k => decide (k.1 = 1) := by
    refine List.filter_congr fun k hk => ?_
    cases hm : s.g.mp k with
    | some a =>
      obtain ⟨h1, -, -, h4, -⟩ := h.mp2 k a hm
      simp [h1, h4]
    | none =>
      have : k.1 ≠ 1 := by
        intro e
        unfold allKeys at hk
        rw [List.mem_flatMap] at hk
        obtain ⟨c, _, hk⟩ := hk
        rw [List.mem_map] at hk
        obtain ⟨x, hx, rfl⟩ := hk
        simp at hx
        simp only at e
        have h1 := h.mp1 x hx
        rw [hb x hx] at h1
        rw [e] at hm
        rw [hm] at h1
        cases h1
      simp [this]
  exact (congrArg List.length e).trans (by decide +kernel)
theorem HS.mono (h : HS s K live) {K' : Int} (hK : K ≤ K') : HS s K' live := ⟨h.ok.mono hK, h.n, h.o1, h.t1, h.en, h.mem, h.p, h.mp1, h.mp2⟩
theorem HS.congr (h : HS s K live) {live' : Nat → Bool} (hl : ∀ j, j < 16 → live' j = live j) : HS s K live' := ⟨h.ok, h.n, h.o1, h.t1, h.en, h.mem, h.p, fun j hj => by rw [hl j hj]; exact h.mp1 j hj, h.mp2⟩
end
end Go.Proofs.Ytkdoaidcmmehoaa

/-
  GrantHandles: each call of the law as a contract on both the memory and the plain state. No walk here.
-/
set_option linter.unusedSimpArgs false
set_option linter.unusedVariables false
namespace Go.Proofs.Ytkdoaidcmmehoaa
open Go.RowKit KM
set_option maxHeartbeats 1000000
set_option maxRecDepth 100000

section
variable {w0 w w' : World} {t X B G : Nat} {pm : Nat → Nat × Nat × Nat} {s s' : Gs} {T T' : Nat} {V Gv : Nat} {S : Nat → Prop} {n n' : Nat} {K : Int} {live : Nat → Bool}
theorem WT.newView (h : WT w0 w t X B G pm s T) (hn : 1 ≤ s.M.n) :
    Calls Try.prog 23 #[.pointer (some ⟨B, 0, none⟩), .slice none 0 0] w fun e w' => ∃ V Gv S, e = .returned (.tuple #[.pointer (some ⟨V, 0, none⟩), .int .i64 0]) ∧ WV w0 w' t X B G pm s T V Gv S 0 :=
  (vNew B none 0 [] w s.M h.a.m hn (by simp) (fun j hj => by simp at hj)).mono fun e w' ⟨he, ⟨_, hv⟩, hg⟩ => ⟨_, _, _, he, h.view hv hg⟩
theorem WV.mapH (h : WV w0 w t X B G pm s T V Gv S n) (hs : HS s K live) (hK : K < 9223372036854775807) (hT : T < maxLen) (hn : (n : Int) < 9223372036854775807) {x : Nat} (hx : x < 16) (hb : ∀ j, j < x → live j = true) (hl : live x = false) (wr : Bool) :
    Calls Try.prog 44 #[.pointer (some ⟨X, 0, none⟩), .pointer (some ⟨V, 0, none⟩), .int .i64 1, .int .i64 0, .int .i64 1, .bool wr] w fun e w' => e = .returned (.tuple #[.int .i64 x, .int .i64 0]) ∧ WV w0 w' t X B G pm (mapG s x wr) (T + 1) V Gv S (n + 1) := by
  have h1 := gMap_rd h.a hs.ok hK hT (fun p hp => by cases hp) (by simp) hn 1 0 1 wr (by decide) (by omega) (by omega) 0 0 hs.mem (by omega) (by rw [hs.n]; omega) (by omega) x (hs.free hx hb hl) ((x : Int), (0 : Int), mapG s x wr) (by rw [due_none]; exact hs.mapE x wr)
  exact h1.mono fun e w' ⟨he, hr⟩ => ⟨he, h.gr hr⟩
theorem WV.fullH (h : WV w0 w t X B G pm s T V Gv S n) (hs : HS s K live) (hb : ∀ j, j < 16 → live j = true) :
    Calls Try.prog 44 #[.pointer (some ⟨X, 0, none⟩), .pointer (some ⟨V, 0, none⟩), .int .i64 1, .int .i64 0, .int .i64 1, .bool false] w fun e w' => e = .returned (.tuple #[.int .i64 0, .int .i64 64]) ∧ WV w0 w' t X B G pm s T V Gv S n := by
  have hsl : s.g.slot 0 1 = true := Gst.slot_yes.2 ⟨⟨⟨by omega, by omega⟩, ⟨_, hs.mem⟩⟩, by omega, by omega⟩
  exact (gMap_full h.a 1 0 1 false (by decide) hsl (hs.full hb)).mono fun e w' ⟨he, hg⟩ => ⟨he, h.grown hg⟩
theorem WV.unmapH (h : WV w0 w t X B G pm s T V Gv S n) (hs : HS s K live) (hK : K < 9223372036854775807) {x : Nat} (hx : x < 16) (hl : live x = true) :
    Calls Try.prog 51 #[.pointer (some ⟨X, 0, none⟩), .int .i64 1, .int .i64 x] w fun e w' => e = .returned (.int .i64 0) ∧ WV w0 w' t X B G pm (s.unmap 1 x).2 T V Gv S n := by
  have h1 := gUnmap h.wt.a hs.ok hK 1 (x : Int) (WalkArith.wf_i64 (by omega))
  rw [(hs.unmap hx hl).1] at h1
  exact h1.mono fun e w' ⟨he, hr⟩ => ⟨he, h.left hr⟩
theorem WV.mapsH (h : WV w0 w t X B G pm s T V Gv S n) (hs : HS s K live) (hb : ∀ j, j < 16 → live j = true) :
    Calls Try.prog 62 #[.pointer (some ⟨X, 0, none⟩), .int .i64 1] w fun e w' => ∃ p c, e = .returned (.slice p 16 c) ∧ WV w0 w' t X B G pm s T V Gv S n :=
  (gMaps h.wt.a 1 (by omega) (by omega)).mono fun e w' ⟨v, he, ho, hg⟩ => by
    obtain ⟨p, c, rfl⟩ := ownsRow_slice ho
    exact ⟨p, c, by rw [he, hs.len hb], h.grown hg⟩
theorem WV.foreignH (h : WV w0 w t X B G pm s T V Gv S n) (hs : HS s K live) (hb : ∀ j, j < 16 → live j = true) :
    Calls Try.prog 50 #[.pointer (some ⟨X, 0, none⟩), .int .i64 0] w fun e w' => e = .returned (.int .i64 16) ∧ WV w0 w' t X B G pm s T V Gv S n := by
  have h1 := gForeign h.wt.a (fun c k a e => by obtain ⟨h1, h2, h3, _⟩ := hs.mp2 _ _ e; simp only at h1 h2 h3; omega) 0
  rw [hs.foreign hb] at h1
  exact h1.mono fun e w' ⟨he, hg⟩ => ⟨he, h.grown hg⟩
end
end Go.Proofs.Ytkdoaidcmmehoaa
