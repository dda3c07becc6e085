/-
  Package tenementref05: a reference as a table goes; both levels whole.
-/
import Derived.Test.YtemeihamkdpmoaaK18
import Derived.Test.YtemeihamkdpmoaaK14
import Derived.ArgAppend
import Derived.Lib.Builder
set_option linter.unusedSimpArgs false
set_option linter.unusedVariables false
namespace Go.Proofs.Ytemeihamkdpmoaa
open Go.RowKit
set_option maxHeartbeats 2000000

set_option maxRecDepth 100000 in
theorem yuntable (b Y lv K t : Nat) (dp : Mach → Nat × Nat → Mach) (M M1 : Mach) (T : Int) (c : Int) (hp : M.put t K = (c, M1)) (ht : (t : Int) < M.n) (hok : M.ok T) (hT : T + 20000 < 4611686018427387904)
    (hkind : ∀ wd : World, Calls Try.prog 124 #[.int .i64 lv] wd fun e w' => e = .returned (.int .i64 K) ∧ wd = w') (hs1 : MSame M M1) (hsm : ∀ j, MSame M1 ((M.refs lv t j).foldl dp M1))
    (hle : ∀ j, j < 64 → YCall 126 #[.pointer (some ⟨Y, 0, none⟩), .int .i64 lv, .int .u32 (M.word t j : Nat)] b Y ((M.refs lv t j).foldl dp M1) (.returned (.tuple #[])) ((M.refs lv t (j + 1)).foldl dp M1)) :
    YCall 110 #[.pointer (some ⟨Y, 0, none⟩), .int .i64 t, .int .i64 lv] b Y M (.returned (.tuple #[])) (untabG lv K dp M t) := by
  intro w S h
  have H := hid h
  have HKd := hid hkind
  have HP := hid (fun wd L (hL : RM wd b M L) => hp ▸ rPut b t K wd M L T hL hok (by omega))
  have HSM := hid hsm; have HLE := hid hle; have HS1 := hid hs1; have HTt := hid ht
  obtain ⟨R, hR⟩ : ∃ R, untabG lv K dp M t = R := ⟨_, rfl⟩
  have hR1 : 0 < (M1.fr t).cnt → R = M1 := fun e => by rw [← hR]; unfold untabG; rw [hp, if_pos e]
  have hR2 : ¬ 0 < (M1.fr t).cnt → R = (M.refs lv t 64).foldl dp M1 := fun e => by rw [← hR]; unfold untabG; rw [hp, if_neg e]
  rw [hR]
  have HR1 := hid hR1; have HR2 := hid hR2
  have y0 := H.out.y
  clear h hp hok hkind hsm hle hs1 ht hR hR1 hR2
  by_cases hcnt : 0 < (M1.fr t).cnt
  · have HRr := hid (HR1.out hcnt)
    clear HR1 HR2 HLE HSM
    go_enter Try.func110, Try.ntmps110
    go_wp2
    have HDr := hid (H.out.more (grownBy_drew w none))
    go_region_held3 (fun w' => w'.cell? ⟨Y, 0, none⟩ = some (.pointer (some ⟨b, 0, none⟩))) (first | exact (by assumption) | go_keep)
      (first
        | (go_at_call 124; refine (HKd.out _).mono ?_; rintro e w1 ⟨rfl, rfl⟩)
        | (go_at_call 68; obtain ⟨L, hL, hf⟩ := HDr.out.r; refine (HP.out _ L hL).mono ?_; rintro e w2 ⟨rfl, L2, h2, _, c2, f2⟩; have H2 := hid (HDr.out.put hf h2 c2 f2); have hL2 : (t : Int) < L2.n := (by have := h2.hn; have := HS1.out.n; have := HTt.out; omega); have hL2' : t < L2.n := (by omega); have z0 := h2.slF; have z1 := h2.cnt hL2'; have z2 := H2.out.y; have z3 : (0 : Int) ≤ (t : Int) := (by omega); have yy := H2.out.y; clear h2 c2 f2 hL hf))
    all_goals go_wp2
    all_goals (first | go_end0 | ((try simp only [Exit.inBlock, Exit.then]); refine bodyPost_ret (results_none rfl _ _ _) rfl ?_))
    all_goals exact ⟨rfl, by rw [HRr.out]; exact H2.out⟩
  · have HRr := hid (HR2.out hcnt)
    have hcnt' : (M1.fr t).cnt ≤ 0 := by omega
    clear HR1 HR2
    go_enter Try.func110, Try.ntmps110
    go_wp2
    have HDr := hid (H.out.more (grownBy_drew w none))
    go_region_held3 (fun w' => w'.cell? ⟨Y, 0, none⟩ = some (.pointer (some ⟨b, 0, none⟩))) (first | exact (by assumption) | go_keep)
      (first
        | (go_at_call 124; refine (HKd.out _).mono ?_; rintro e w1 ⟨rfl, rfl⟩)
        | (go_at_call 68; obtain ⟨L, hL, hf⟩ := HDr.out.r; refine (HP.out _ L hL).mono ?_; rintro e w2 ⟨rfl, L2, h2, _, c2, f2⟩; have H2 := hid (HDr.out.put hf h2 c2 f2); have hL2 : (t : Int) < L2.n := (by have := h2.hn; have := HS1.out.n; have := HTt.out; omega); have hL2' : t < L2.n := (by omega); have z0 := h2.slF; have z1 := h2.cnt hL2'; have z2 := H2.out.y; have z3 : (0 : Int) ≤ (t : Int) := (by omega); have yy := H2.out.y; clear h2 c2 f2 hL hf))
    all_goals go_wp2
    clear z0 z1 z2 z3 yy
    go_loopw [6] (fun x wr => ∃ j : Nat, x = .int .i64 j ∧ j ≤ 64 ∧ YM w wr b Y S ((M.refs lv t j).foldl dp M1)) (fun x _ => 64 - (intOf x).toNat)
    case atStart => exact ⟨0, rfl, by omega, H2.out⟩
    case round =>
      clear H2
      obtain ⟨j, rfl, hj, hx⟩ := hrel
      have hxx := hx.y
      have HX := hid hx
      clear hx
      have hj0 : (0 : Int) ≤ j := by omega
      by_cases hj64 : j < 64
      · have hj64' : (j : Int) < 64 := by omega
        have hsj := HSM.out j
        have HA := hid (fun (wd : World) (L : Lay) (hL : RM wd b ((M.refs lv t j).foldl dp M1) L) => (show Calls Try.prog 26 #[.pointer (some ⟨b, 0, none⟩), .int .i64 t, .int .i64 j] wd fun e w' => e = .returned (.tuple #[.int .u32 (M.word t j : Nat), .int .i64 0]) ∧ wd = w' from by
          have hh := rAt_yes b t j wd _ L hL (by have := hL.hn; have := hsj.n; have := HS1.out.n; have := HTt.out; omega) hj64
          rw [← Mach.word_bs (HS1.out.bs t) j, ← Mach.word_bs (hsj.bs t) j]
          exact hh))
        clear hsj
        have HLj := hid (HLE.out j hj64)
        go_wp2_with (first
          | (go_at_call 26; obtain ⟨L, hL, hf⟩ := HX.out.r; refine (HA.out _ L hL).mono ?_; rintro e wa ⟨rfl, rfl⟩; clear hL hf)
          | (go_at_call 126; obtain ⟨S1, hs1, hs2⟩ := HX.out.here; refine (HLj.out _ S1 hs1).mono ?_; rintro e w5 ⟨rfl, h5⟩; have H5 := hid (HX.out.step hs2 h5); clear hs1 hs2 h5))
        go_roundw
        case rel => exact ⟨j + 1, by go_num, by omega, H5.out⟩
        case measure => simp [intOf]; omega
      · obtain rfl : j = 64 := by omega
        have hge : (64 : Int) ≤ ((64 : Nat) : Int) := by omega
        go_wp2
        first | go_end0 | ((try simp only [Exit.inBlock, Exit.then]); refine bodyPost_ret (results_none rfl _ _ _) rfl ?_)
        exact ⟨rfl, by rw [HRr.out]; exact HX.out⟩
section
variable {b Y : Nat} {M : Mach} {T : Int}
theorem get_pair (M : Mach) (i o k : Int) : M.get i o k = ((M.get i o k).1, (M.get i o k).2) := rfl
set_option maxRecDepth 100000 in
theorem ytab1 {C : Cnt} (hC : CHolds M C) (hok : M.ok T) (hT : T + 30000 < 4611686018427387904) (o i : Int) :
    YCall 109 #[.pointer (some ⟨Y, 0, none⟩), .int .i64 o, .int .i64 i, .int .i64 1] b Y M (.returned (.int .i64 (tabG 2 take1 M o i).1)) (tabG 2 take1 M o i).2 := by
  have hok1 := Mach.get_ok hok i o (2 : Nat)
  have s1 := M.get_same i o (2 : Nat)
  have e := fun k M' => (ents_ok' (tk := take1) (c := 1) (fun h o n => take1_ok h o n) (M := M') (T := T + 1) · o i.toNat k)
  have ho : ∀ j, j ≤ 64 → (ents take1 (M.get i o (2 : Nat)).2 o i.toNat j).2.ok (T + 10000) := fun j hj => (e j _ hok1).mono (by omega)
  refine ytable b Y 1 2 i.toNat take1 dp1 o M _ T i _ (get_pair M i o (2 : Nat)) (fun e => ?_) s1 (M.get_no _ _ _) hok hok1 (by omega) rkind1 (fun j => ents_same lvl1 _ _ _ _) ho (leaveG_same lvl1) (fun M' n h => leaveG_ok' dp1_ok h n) (fun hg j hj he => ?_) (fun hg j k M' hk hj he hs hok' => ?_) (fun hg j hj he hne => ?_)
  · have hi := Mach.is_iff.1 (Mach.get_is e)
    have : ((i.toNat : Nat) : Int) = i := Int.toNat_of_nonneg hi.1
    exact ⟨this.symm, by rw [this]; exact hi.2⟩
  · have := ytake1 (b := b) (Y := Y) (ho j (by omega)) (by omega) o ((M.get i o (2 : Nat)).2.word i.toNat j) (Mach.word_lt _ _ _)
    have e : ents take1 (M.get i o (2 : Nat)).2 o i.toNat (j + 1) = take1 (ents take1 (M.get i o (2 : Nat)).2 o i.toNat j).2 o ((M.get i o (2 : Nat)).2.word i.toNat j) := by show (if _ then _ else _) = _; rw [if_pos he]
    rw [e]
    exact this
  · exact yleave1 hok' (by omega) _ (Mach.word_lt _ _ _)
  · have e : (ents take1 (M.get i o (2 : Nat)).2 o i.toNat (j + 1)).2 = (ents take1 (M.get i o (2 : Nat)).2 o i.toNat j).2 := by
      have e : ents take1 (M.get i o (2 : Nat)).2 o i.toNat (j + 1) = take1 (ents take1 (M.get i o (2 : Nat)).2 o i.toNat j).2 o ((M.get i o (2 : Nat)).2.word i.toNat j) := by show (if _ then _ else _) = _; rw [if_pos he]
      rw [e] at hne ⊢
      exact lvl1.tk_no hne
    rw [e, down_eq]
    have hi := Mach.is_iff.1 (Mach.get_is hg)
    have := (undo lvl1 hC hg j he _ (down_perm 1 _ _ _)).1
    rw [Int.toNat_of_nonneg hi.1]
    exact this
theorem put_pair (M : Mach) (i k : Int) : M.put i k = ((M.put i k).1, (M.put i k).2) := rfl
set_option maxRecDepth 100000 in
theorem yun1 (hok : M.ok T) (hT : T + 30000 < 4611686018427387904) (t : Nat) (ht : (t : Int) < M.n) :
    YCall 110 #[.pointer (some ⟨Y, 0, none⟩), .int .i64 t, .int .i64 1] b Y M (.returned (.tuple #[])) (untabG 1 2 dp1 M t) := by
  have hokp := Mach.put_ok hok t (2 : Nat)
  refine yuntable b Y 1 2 t dp1 M _ T _ (put_pair M t (2 : Nat)) ht hok (by omega) rkind1 (M.put_same _ _) (fun j => foldl_same lvl1.dp_same _ _) fun j hj => ?_
  rw [foldl_leave]
  exact yleave1 (foldl_ok dp1_ok _ hokp) (by omega) _ (Mach.word_lt _ _ _)
theorem yte2 {C : Cnt} (hC : CHolds M C) (hok : M.ok T) (hT : T + 30000 < 4611686018427387904) (o : Int) (n : Nat) (hn : n < 4294967296) :
    YCall 125 #[.pointer (some ⟨Y, 0, none⟩), .int .i64 o, .int .i64 2, .int .u32 n] b Y M (.returned (.int .i64 (take2 M o n).1)) (take2 M o n).2 :=
  ytake2 o n hn (ytab1 hC hok hT o _)
theorem yle2 (hok : M.ok T) (hT : T + 30000 < 4611686018427387904) (n : Nat) (hn : n < 4294967296) (hr : ∀ r, rf 2 n = some r → (r.1 : Int) < M.n) :
    YCall 126 #[.pointer (some ⟨Y, 0, none⟩), .int .i64 2, .int .u32 n] b Y M (.returned (.tuple #[])) (leaveG 2 dp2 M n) :=
  yleave2 n hn fun hp => by
    have := yun1 (b := b) (Y := Y) hok hT (unpackV n).1.mfn.toNat (hr _ (rf_some hp))
    rwa [Int.toNat_of_nonneg (unpackV_mfn n)] at this
theorem good_rf {M' : Mach} {o : Int} {n : Nat} (h : good M' o n) : ∀ r, rf 2 n = some r → (r.1 : Int) < M'.n := fun r hr => by
  unfold rf at hr
  split at hr
  · rename_i hp; cases hr; exact (h.2 hp).1
  · cases hr
set_option maxRecDepth 100000 in
theorem ytab2 {C : Cnt} (hC : Inv1 M C) (hok : M.ok T) (hT : T + 50000 < 4611686018427387904) (o i : Int) :
    YCall 109 #[.pointer (some ⟨Y, 0, none⟩), .int .i64 o, .int .i64 i, .int .i64 2] b Y M (.returned (.int .i64 (tabG 3 take2 M o i).1)) (tabG 3 take2 M o i).2 := by
  have hok1 := Mach.get_ok hok i o (3 : Nat)
  have s1 := M.get_same i o (3 : Nat)
  have e := fun k M' => (ents_ok' (tk := take2) (c := 65) (fun h o n => take2_ok h o n) (M := M') (T := T + 1) · o i.toNat k)
  have ho : ∀ j, j ≤ 64 → (ents take2 (M.get i o (3 : Nat)).2 o i.toNat j).2.ok (T + 10000) := fun j hj => (e j _ hok1).mono (by omega)
  have hst := fun j he => (show ents take2 (M.get i o (3 : Nat)).2 o i.toNat (j + 1) = take2 (ents take2 (M.get i o (3 : Nat)).2 o i.toNat j).2 o ((M.get i o (3 : Nat)).2.word i.toNat j) from by show (if _ then _ else _) = _; rw [if_pos he])
  refine ytable b Y 2 3 i.toNat take2 dp2 o M _ T i _ (get_pair M i o (3 : Nat)) (fun e => ?_) s1 (M.get_no _ _ _) hok hok1 (by omega) rkind2 (fun j => ents_same lvl2 _ _ _ _) ho (leaveG_same lvl2) (fun M' n h => leaveG_ok' dp2_ok h n) (fun hg j hj he => ?_) (fun hg j k M' hk hj he hs hok' => ?_) (fun hg j hj he hne => ?_)
  · have hi := Mach.is_iff.1 (Mach.get_is e)
    have : ((i.toNat : Nat) : Int) = i := Int.toNat_of_nonneg hi.1
    exact ⟨this.symm, by rw [this]; exact hi.2⟩
  · have h1 := (ents_yes lvl2 (lvl2.get hC hg) o i.toNat j he).1
    have := yte2 (b := b) (Y := Y) h1.holds (ho j (by omega)) (by omega) o ((M.get i o (3 : Nat)).2.word i.toNat j) (Mach.word_lt _ _ _)
    rw [hst j he]
    exact this
  · have h1 := (ents_yes lvl2 (lvl2.get hC hg) o i.toNat j he).2 k hk
    exact yle2 hok' (by omega) _ (Mach.word_lt _ _ _) (good_rf (h1.same hs))
  · have e : (ents take2 (M.get i o (3 : Nat)).2 o i.toNat (j + 1)).2 = (ents take2 (M.get i o (3 : Nat)).2 o i.toNat j).2 := by
      rw [hst j he] at hne ⊢
      exact lvl2.tk_no hne
    rw [e, down_eq]
    have hi := Mach.is_iff.1 (Mach.get_is hg)
    have := (undo lvl2 hC hg j he _ (down_perm 2 _ _ _)).1
    rw [Int.toNat_of_nonneg hi.1]
    exact this
set_option maxRecDepth 100000 in
theorem yun2 (hok : M.ok T) (hT : T + 30000 < 4611686018427387904) (t : Nat) (ht : (t : Int) < M.n) (hgd : ∀ j, j < 64 → good M (M.fr t).owner (M.word t j)) :
    YCall 110 #[.pointer (some ⟨Y, 0, none⟩), .int .i64 t, .int .i64 2] b Y M (.returned (.tuple #[])) (untabG 2 3 dp2 M t) := by
  have hokp := Mach.put_ok hok t (3 : Nat)
  refine yuntable b Y 2 3 t dp2 M _ T _ (put_pair M t (3 : Nat)) ht hok (by omega) rkind2 (M.put_same _ _) (fun j => foldl_same lvl2.dp_same _ _) fun j hj => ?_
  rw [foldl_leave]
  refine yle2 (foldl_ok dp2_ok _ hokp) (by omega) _ (Mach.word_lt _ _ _) fun r hr => ?_
  rw [(foldl_same lvl2.dp_same _ _).n, (M.put_same _ _).n]
  exact good_rf (hgd j hj) r hr
end
end Go.Proofs.Ytemeihamkdpmoaa

/-
  Package mmu: the pins of a domain as a slice; where a frame stands among them; their copy.
-/
set_option linter.unusedSimpArgs false
set_option linter.unusedVariables false
namespace Go.Proofs.Ytemeihamkdpmoaa
open Go.RowKit
set_option maxHeartbeats 1000000

def pinC (l : List (Int × Int)) : List Value := l.flatMap fun p => [.int .i64 p.1, .int .i64 p.2]
theorem pinC_len (l : List (Int × Int)) : (pinC l).length = l.length * 2 := by
  induction l with
  | nil => rfl
  | cons x l ih => simp only [pinC, List.flatMap_cons, List.length_append, List.length_cons, List.length_nil] at ih ⊢; omega
theorem pinC_app (a b : List (Int × Int)) : pinC (a ++ b) = pinC a ++ pinC b := by simp [pinC]
theorem pinC_get (l : List (Int × Int)) (j : Nat) (hj : j < l.length) : (pinC l)[j * 2]? = some (.int .i64 l[j].1) ∧ (pinC l)[j * 2 + 1]? = some (.int .i64 l[j].2) := by
  induction l generalizing j with
  | nil => simp at hj
  | cons x l ih =>
    simp only [pinC, List.flatMap_cons]
    cases j with
    | zero => exact ⟨rfl, rfl⟩
    | succ j =>
      have h := ih j (by simpa using hj)
      simp only [pinC] at h
      have e1 : (j + 1) * 2 = j * 2 + 1 + 1 := by omega
      rw [e1]
      exact h
theorem pinC_one (l : List (Int × Int)) : ∀ u ∈ pinC l, u.oneCell' = true := by
  intro u hu
  simp only [pinC, List.mem_flatMap] at hu
  obtain ⟨q, _, hu⟩ := hu
  simp only [List.mem_cons, List.not_mem_nil, or_false] at hu
  rcases hu with rfl | rfl <;> rfl
/-- a slice of pins -/
def PinsAt (w : World) (v : Value) (l : List (Int × Int)) : Prop :=
  (v = .slice none 0 0 ∧ l = []) ∨ ∃ g cap, v = .slice (some ⟨g, 0, none⟩) l.length cap ∧ l.length ≤ cap ∧ Row w g 158 (l.length * 2) (fun k => (pinC l).getD k undef) ∧ (cap = l.length ∨ w.ownsRow 0 158 2 v l.length (pinC l))
theorem PinsAt.slice {w : World} {v : Value} {l : List (Int × Int)} (h : PinsAt w v l) : ∃ p c, v = .slice p l.length c := by
  rcases h with ⟨rfl, rfl⟩ | ⟨g, c, rfl, _⟩
  · exact ⟨_, _, rfl⟩
  · exact ⟨_, _, rfl⟩
theorem PinsAt.at {w : World} {p : Option Addr} {n c : Nat} {l : List (Int × Int)} (h : PinsAt w (.slice p n c) l) {j : Nat} (hj : j < l.length) : ∃ g, p = some ⟨g, 0, none⟩ ∧ w.cell? ⟨g, j * 2, none⟩ = some (.int .i64 l[j].1) ∧ w.cell? ⟨g, j * 2 + 1, none⟩ = some (.int .i64 l[j].2) := by
  rcases h with ⟨e, rfl⟩ | ⟨g, c', e, _, hr, _⟩
  · simp at hj
  · cases e
    obtain ⟨h1, h2⟩ := pinC_get l j hj
    exact ⟨g, rfl, by rw [hr.cell (by omega)]; simp [List.getD, h1], by rw [hr.cell (by omega)]; simp [List.getD, h2]⟩
theorem ownsRow_same {w w' : World} {b : Nat} {e : TypeId} {s n : Nat} {v : Value} {xs : List Value} (h : w.ownsRow b e s v n xs) (hb : ∀ g, v.ownBlock = some g → w'.heap[g]? = w.heap[g]?) : w'.ownsRow b e s v n xs := by
  refine ⟨h.1, ?_⟩
  rcases h.2 with h2 | ⟨g, cap, cur, rfl, hbb, hg, r⟩
  · exact .inl h2
  · exact .inr ⟨g, cap, cur, rfl, hbb, (hb g rfl).trans hg, r⟩
theorem PinsAt.same {w w' : World} {v : Value} {l : List (Int × Int)} (h : PinsAt w v l) (hb : ∀ g, v.ownBlock = some g → w'.heap[g]? = w.heap[g]?) : PinsAt w' v l := by
  rcases h with h | ⟨g, c, rfl, h1, h2, h3⟩
  · exact .inl h
  · exact .inr ⟨g, c, rfl, h1, h2.same (hb g rfl), h3.imp id fun h => ownsRow_same h hb⟩
theorem PinsAt.lt {w : World} {v : Value} {l : List (Int × Int)} (h : PinsAt w v l) {g : Nat} (hg : v.ownBlock = some g) : g < w.heap.size := by
  rcases h with ⟨rfl, _⟩ | ⟨g', c, rfl, h1, h2, h3⟩
  · simp [Value.ownBlock] at hg
  · obtain rfl : g' = g := by simpa [Value.ownBlock] using hg
    exact h2.lt
theorem PinsAt.chg {S : Nat → Prop} {w w' : World} {v : Value} {l : List (Int × Int)} (h : PinsAt w v l) (hc : Chg S w w') (hS : ∀ g, v.ownBlock = some g → ¬ S g) : PinsAt w' v l :=
  h.same fun g hg => hc.block g (h.lt hg) (hS g hg)
theorem PinsAt.grown {w w' : World} {v : Value} {l : List (Int × Int)} {row : Option Nat} (h : PinsAt w v l) (hg : w.grownBy w' row) (hr : ∀ g, v.ownBlock = some g → some g ≠ row) : PinsAt w' v l :=
  h.same fun g e => hg.block g (h.lt e) (hr g e)
def pinIx (l : List (Int × Int)) (m : Int) : Nat := l.findIdx fun p => p.1 == m
def pinAt (l : List (Int × Int)) (m : Int) : Int := if pinIx l m < l.length then (pinIx l m : Nat) else -1
theorem pinIx_no {l : List (Int × Int)} {m : Int} {j : Nat} (hj : j < l.length) (h : j ≤ pinIx l m) (hne : ¬ l[j].1 = m) : j + 1 ≤ pinIx l m := by
  by_cases e : j = pinIx l m
  · exfalso
    have := List.findIdx_getElem (w := by subst e; exact hj) (xs := l) (p := fun p => p.1 == m)
    have h2 : l[pinIx l m]'(by omega) = l[j] := by congr 1; omega
    have : (l[pinIx l m]'(by omega)).1 == m := this
    rw [h2] at this
    exact hne (by simpa using this)
  · omega
theorem pinIx_yes {l : List (Int × Int)} {m : Int} {j : Nat} (hj : j < l.length) (h : j ≤ pinIx l m) (he : l[j].1 = m) : pinIx l m = j := by
  by_cases e : j < pinIx l m
  · have := List.not_of_lt_findIdx e
    exact absurd he (by simpa using this)
  · omega
theorem pinAt_none {l : List (Int × Int)} {m : Int} (h : l.length ≤ pinIx l m) : pinAt l m = -1 := by unfold pinAt; rw [if_neg (by omega)]
theorem pinAt_some {l : List (Int × Int)} {m : Int} {j : Nat} (hj : j < l.length) (h : pinIx l m = j) : pinAt l m = j := by unfold pinAt; rw [h, if_pos hj]

theorem isPin (a b m : Int) (k : Addr) (w : World) (h : w.cell? k = some (.int .i64 m)) : Calls Try.prog 115 #[.agg #[.int .i64 a, .int .i64 b], .pointer (some k)] w fun e w' => e = .returned (.bool (a == m)) ∧ w.grownBy w' none := by
  have hg := World.grownBy_alloc w (.cells #[.int .i64 a, .int .i64 b] 158) none
  have hk := hg.cell h (by simp)
  go_enter Try.func115, Try.ntmps115
  go_wp2
  go_ret
  exact ⟨rfl, hg⟩
set_option maxRecDepth 100000 in
theorem pinFind (p : Option Addr) (c : Nat) (l : List (Int × Int)) (m : Int) (k : Addr) (w : World) (hp : PinsAt w (.slice p l.length c) l) (hk : w.cell? k = some (.int .i64 m)) (hl : l.length ≤ 140737488355328) :
    Calls Try.prog 114 #[.slice p l.length c, .func (.func 115) #[] #[.pointer (some k)]] w fun e w' => e = .returned (.int .i64 (pinAt l m)) ∧ w.grownBy w' none := by
  have HP := hid hp; have HK := hid hk
  clear hp hk
  go_enter Try.func114, Try.ntmps114
  go_wp2
  go_loopw [8] (fun x wr => ∃ j : Nat, x = .int .i64 j ∧ j ≤ l.length ∧ j ≤ pinIx l m ∧ w.grownBy wr none) (fun x _ => l.length - (intOf x).toNat)
  case atStart => exact ⟨0, rfl, by omega, by omega, World.grownBy.refl _ _⟩
  case round =>
    obtain ⟨j, rfl, hj, hj2, hg⟩ := hrel
    have HG := hid hg
    have hj0 : (0 : Int) ≤ j := by omega
    by_cases hjl : j < l.length
    · have hjl' : (j : Int) < l.length := by omega
      obtain ⟨g, e, c0, c1⟩ := (HP.out.grown hg (by simp)).at hjl
      cases e
      have HK1 := hid (hg.cell HK.out (by simp))
      have HNo := hid (pinIx_no hjl hj2)
      have HYe := hid (fun h => pinAt_some hjl (pinIx_yes hjl hj2 h))
      generalize l[j] = q at *
      obtain ⟨a, b⟩ := q
      clear hg
      by_cases ha : a = m
      · have hab : (a == m) = true := by simp [ha]
        have hy := HYe.out ha
        have HY := hid hy
        clear hy
        go_wp2_with (go_at_call 115; refine (isPin _ _ m _ _ HK1.out).mono ?_; rintro e w2 ⟨rfl, g2⟩; have HG2 := hid (HG.out.trans g2); clear g2)
        go_ret
        exact ⟨by rw [HY.out]; rfl, HG2.out⟩
      · have hab : (a == m) = false := by simp [ha]
        go_wp2_with (go_at_call 115; refine (isPin _ _ m _ _ HK1.out).mono ?_; rintro e w2 ⟨rfl, g2⟩; have HG2 := hid (HG.out.trans g2); clear g2)
        go_roundw
        case rel => exact ⟨j + 1, by go_num, by omega, HNo.out ha, HG2.out⟩
        case measure => simp [intOf]; omega
    · obtain rfl : j = l.length := by omega
      have hge : (l.length : Int) ≤ l.length := by omega
      have HY := hid (pinAt_none hj2)
      go_wp2
      go_ret
      exact ⟨by rw [HY.out]; rfl, HG.out⟩
set_option maxRecDepth 100000 in
theorem xpinned (X o : Nat) (m : Int) (v : Value) (l : List (Int × Int)) (w : World) (hv : w.cell? ⟨X, o + 1, none⟩ = some v) (hp : PinsAt w v l) (hl : l.length ≤ 140737488355328) :
    Calls Try.prog 93 #[.pointer (some ⟨X, o, none⟩), .int .i64 m] w fun e w' => e = .returned (.int .i64 (pinAt l m)) ∧ w.grownBy w' none := by
  obtain ⟨p, c, rfl⟩ := hp.slice
  have hmf : ∀ (fn : Fn) (first cap : Array Value) (w : World), (Instr.makeFunc fn first cap).run Try.prog w = .ok (.func fn first cap) w := fun _ _ _ _ => rfl
  have hg := World.grownBy_alloc w (.cells #[.int .i64 m] 3) none
  have hv1 := hg.cell hv (by simp)
  have HP := hid (hp.grown hg (by simp))
  have HG := hid hg
  clear hp hg hv
  go_enter Try.func93, Try.ntmps93
  go_wp2_with (go_at_call 114; refine (pinFind _ _ _ m _ _ HP.out (by simp [go_sem]) hl).mono ?_; rintro e w2 ⟨rfl, g2⟩; have HG2 := hid (HG.out.trans g2); clear g2)
  go_ret
  exact ⟨rfl, HG2.out⟩
end Go.Proofs.Ytemeihamkdpmoaa

/-
  Package mmu: a pin is appended; a part is appended to a cut.
-/
set_option linter.unusedSimpArgs false
set_option linter.unusedVariables false
namespace Go.Proofs.Ytemeihamkdpmoaa
open Go.RowKit
set_option maxHeartbeats 1000000

theorem info_pin : (Try.prog.info? 158).map (fun i => (i.zero, i.size, i.bytes)) = some (some (.agg #[.int .i64 0, .int .i64 0]), 2, 16) := by kernel_rfl
theorem PinsAt.of_own {w : World} {b : Nat} {v : Value} {l : List (Int × Int)} (h : w.ownsRow b 158 2 v l.length (pinC l)) : PinsAt w v l := by
  have h0 : w.ownsRow 0 158 2 v l.length (pinC l) := ⟨h.1, h.2.imp id fun ⟨g, c, cur, a, _, r⟩ => ⟨g, c, cur, a, Nat.zero_le _, r⟩⟩
  rcases h.2 with ⟨e, hn⟩ | ⟨g, cap, cur, rfl, hb, hg, hn, hcap, hsz, htake⟩
  · exact .inl ⟨e, List.eq_nil_of_length_eq_zero hn⟩
  · refine .inr ⟨g, cap, rfl, hn, ⟨cur, hg, by rw [hsz]; exact Nat.mul_le_mul_right _ hn, fun k hk => ?_⟩, .inr h0⟩
    have h1 : (cur.toList.take (l.length * 2))[k]? = (pinC l)[k]? := by rw [htake]
    rw [List.getElem?_take, if_pos hk] at h1
    have hx : k < (pinC l).length := by rw [pinC_len]; exact hk
    rw [List.getElem?_eq_getElem hx] at h1
    simpa [List.getD, List.getElem?_eq_getElem hx] using h1
theorem own_new {w : World} {b : Nat} {v : Value} {n : Nat} {xs : List Value} {t : TypeId} {s : Nat} (h : w.ownsRow b t s v n xs) : ∀ g, v.ownBlock = some g → b ≤ g := fun g hg => by
  rcases h.2 with ⟨rfl, _⟩ | ⟨g', cap, cur, rfl, hb, _⟩
  · simp [Value.ownBlock] at hg
  · obtain rfl : g' = g := by simpa [Value.ownBlock] using hg
    exact hb
theorem row_news {w : World} {g : Nat} {l : List (Int × Int)} (hr : Row w g 158 (l.length * 2) (fun k => (pinC l).getD k undef)) : ∀ j u, (pinC l)[j]? = some u → w.cell? ((⟨g, 0, none⟩ : Addr).add j) = some u := fun j u hu => by
  have hj := (List.getElem?_eq_some_iff.1 hu).1
  rw [pinC_len] at hj
  have e : (⟨g, 0, none⟩ : Addr).add j = ⟨g, j, none⟩ := by unfold Addr.add; split <;> simp_all
  rw [e, hr.cell hj]
  simp [List.getD, hu]
theorem run_pins_append (w : World) (ty : TypeId) (v : Value) (l l2 : List (Int × Int)) (h : PinsAt w v l) (ad : Addr) (c : Nat) (h2 : l2 ≠ []) (hnews : ∀ j u, (pinC l2)[j]? = some u → w.cell? (ad.add j) = some u) (hb : l.length + l2.length ≤ 8000000000000) :
    ∃ v' w', (Builtin.append_ #[100, 100] ty #[v, .slice (some ad) l2.length c]).run Try.prog w = .ok v' w' ∧ PinsAt w' v' (l ++ l2) ∧ w.grownBy w' v.ownBlock ∧ (v'.ownBlock = v.ownBlock ∨ ∀ g, v'.ownBlock = some g → w.heap.size ≤ g) := by
  obtain ⟨i0, hi, hz0, hz1, hz2⟩ := info_parts info_pin
  have hpos : 0 < l2.length := List.length_pos_iff.2 h2
  have hlen := pinC_len l2
  have hgrow : ∀ (a : Addr) (n cap : Nat), v = .slice (some a) n cap → n = l.length → (∀ j u, (pinC l)[j]? = some u → w.cell? (a.add j) = some u) → cap < l.length + l2.length → ∃ v' w', (Builtin.append_ #[100, 100] ty #[v, .slice (some ad) l2.length c]).run Try.prog w = .ok v' w' ∧ PinsAt w' v' (l ++ l2) ∧ w.grownBy w' v.ownBlock ∧ (v'.ownBlock = v.ownBlock ∨ ∀ g, v'.ownBlock = some g → w.heap.size ≤ g) := fun a n cap e1 e2 hc hlt => by
    subst e1; subst e2
    obtain ⟨v', w', hr, ho, hg⟩ := run_append_arg_grows (P := Try.prog) w 100 ty 158 i0 (.agg #[.int .i64 0, .int .i64 0]) 2 16 Try.underlying100 hi hz0 hz1 hz2 rfl (by decide) a l.length cap (pinC l) (pinC_len l) hc ad l2.length c (pinC l2) hlen hnews hlt (by unfold maxLen; omega) (by omega)
    rw [← pinC_app] at ho
    have ho' : w'.ownsRow w.heap.size 158 2 v' (l ++ l2).length (pinC (l ++ l2)) := by rw [List.length_append]; exact ho
    exact ⟨v', w', hr, .of_own ho', hg.but _, .inr (own_new ho')⟩
  rcases h with ⟨rfl, rfl⟩ | ⟨g, cap, rfl, hcap, hrow, hfull⟩
  · obtain ⟨v', w', hr, ho, hg, _⟩ := run_append_own (P := Try.prog) w w.heap.size 100 ty 158 i0 (.agg #[.int .i64 0, .int .i64 0]) 2 16 Try.underlying100 hi hz0 hz1 hz2 rfl (by decide) (.slice none 0 0) 0 [] (World.ownsRow_nil w _ _ 2) ad l2.length c (pinC l2) hlen hnews (pinC_one l2) (by unfold maxLen; omega) (by omega) (Nat.le_refl _)
    simp only [Nat.zero_add, List.nil_append] at ho
    exact ⟨v', w', hr, .of_own ho, hg, .inr (own_new ho)⟩
  · by_cases hlt : cap < l.length + l2.length
    · exact hgrow ⟨g, 0, none⟩ _ cap rfl rfl (row_news hrow) hlt
    · rcases hfull with rfl | hown
      · omega
      · obtain ⟨v', w', hr, ho, hg, _⟩ := run_append_own (P := Try.prog) w 0 100 ty 158 i0 (.agg #[.int .i64 0, .int .i64 0]) 2 16 Try.underlying100 hi hz0 hz1 hz2 rfl (by decide) _ l.length (pinC l) hown ad l2.length c (pinC l2) hlen hnews (pinC_one l2) (by unfold maxLen; omega) (by omega) (Nat.zero_le _)
        rw [← pinC_app] at ho
        have ho' : w'.ownsRow 0 158 2 v' (l ++ l2).length (pinC (l ++ l2)) := by rw [List.length_append]; exact ho
        obtain ⟨cur, hcur, hsz⟩ : ∃ cur, w.heap[g]? = some (.cells cur 158 (0, 0)) ∧ cur.size = cap * 2 := by
          rcases hown.2 with ⟨e, _⟩ | ⟨g', cap', cur, e, _, hg', _, _, hs', _⟩
          · cases e
          · cases e; exact ⟨cur, hg', hs'⟩
        have hroom := run_append_room (P := Try.prog) w 100 ty 158 i0 Try.underlying100 hi g l.length cap cur hcur ad l2.length c (pinC l2) (by rw [hz1]; exact hlen) hnews (pinC_one l2) (by omega) (by rw [hz1, hsz, hlen]; omega)
        rw [hr] at hroom
        injection hroom with e1 e2
        exact ⟨v', w', hr, .of_own ho', hg, .inl (by rw [e1]; rfl)⟩
end Go.Proofs.Ytemeihamkdpmoaa

/-
  Package mmu: the whole object in memory; its small calls.
-/
set_option linter.unusedSimpArgs false
set_option linter.unusedVariables false
namespace Go.Proofs.Ytemeihamkdpmoaa
open Go.RowKit
set_option maxHeartbeats 1000000

structure Sp where
  root : Int
  pins : List (Int × Int)
def upS (sp : Nat → Sp) (d : Nat) (s : Sp) : Nat → Sp := fun e => if e = d then s else sp e
theorem upS_same (sp : Nat → Sp) (d : Nat) (s : Sp) : upS sp d s d = s := by simp [upS]
theorem upS_other (sp : Nat → Sp) (d e : Nat) (s : Sp) (h : e ≠ d) : upS sp d s e = sp e := by simp [upS, h]
def xtop (B : Nat) (sp : Nat → Sp) (pv : Nat → Value) (k : Nat) : Value := if k = 0 then .pointer (some ⟨B, 0, none⟩) else if k % 2 = 1 then .int .i64 (sp (k / 2)).root else pv (k / 2 - 1)
/-- block X holds the page tables: machine in block B, each domain's root, its pins -/
structure PS (w : World) (B X : Nat) (M : Mach) (sp : Nat → Sp) (pv : Nat → Value) : Prop where
  m : PM w B M
  top : Row w X 105 17 (xtop B sp pv)
  pin : ∀ d, d < 8 → PinsAt w (pv d) (sp d).pins
  sep : ∀ d e g, d < 8 → e < 8 → d ≠ e → (pv d).ownBlock = some g → (pv e).ownBlock ≠ some g
def xfoot (B X : Nat) (pv : Nat → Value) (k : Nat) : Prop := k = B ∨ k = X ∨ ∃ d, d < 8 ∧ (pv d).ownBlock = some k
section
variable {w w' : World} {B X : Nat} {M M' : Mach} {sp : Nat → Sp} {pv : Nat → Value}
theorem PS.c0 (h : PS w B X M sp pv) : w.cell? ⟨X, 0, none⟩ = some (.pointer (some ⟨B, 0, none⟩)) := h.top.cell (k := 0) (by omega)
theorem PS.root (h : PS w B X M sp pv) {d : Nat} (hd : d < 8) : w.cell? ⟨X, 1 + d * 2, none⟩ = some (.int .i64 (sp d).root) := by
  rw [h.top.cell (k := 1 + d * 2) (by omega)]
  unfold xtop
  rw [if_neg (by omega), if_pos (by omega), show (1 + d * 2) / 2 = d by omega]
theorem PS.pins (h : PS w B X M sp pv) {d : Nat} (hd : d < 8) : w.cell? ⟨X, 1 + d * 2 + 1, none⟩ = some (pv d) := by
  rw [h.top.cell (k := 1 + d * 2 + 1) (by omega)]
  unfold xtop
  rw [if_neg (by omega), if_neg (by omega), show (1 + d * 2 + 1) / 2 - 1 = d by omega]
theorem PS.XB (h : PS w B X M sp pv) : X ≠ B := (h.top.pm_ne h.m (by decide)).symm
theorem PinsAt.row {v : Value} {l : List (Int × Int)} (h : PinsAt w v l) {g : Nat} (hg : v.ownBlock = some g) : ∃ N Y, Row w g 158 N Y := by
  rcases h with ⟨rfl, _⟩ | ⟨g', c, rfl, h1, h2, h3⟩
  · simp [Value.ownBlock] at hg
  · obtain rfl : g' = g := by simpa [Value.ownBlock] using hg
    exact ⟨_, _, h2⟩
theorem PS.pinX (h : PS w B X M sp pv) {d : Nat} (hd : d < 8) : (pv d).ownBlock ≠ some X := fun e => by
  obtain ⟨N, Y, hr⟩ := (h.pin d hd).row e
  exact Row.type_ne hr h.top (by decide) rfl
theorem PS.pinB (h : PS w B X M sp pv) {d : Nat} (hd : d < 8) : (pv d).ownBlock ≠ some B := fun e => by
  obtain ⟨N, Y, hr⟩ := (h.pin d hd).row e
  exact Row.pm_ne hr h.m (by decide) rfl
theorem PS.lt (h : PS w B X M sp pv) {k : Nat} (hk : xfoot B X pv k) : k < w.heap.size := by
  rcases hk with rfl | rfl | ⟨d, hd, e⟩
  · exact h.m.lt
  · exact h.top.lt
  · exact (h.pin d hd).lt e
theorem PS.xm (h : PS w B X M sp pv) : XM w w B X M := ⟨h.m, h.c0, World.grownBy.refl _ _, h.XB⟩
theorem PS.core (h : PS w B X M sp pv) (hx : XM w w' B X M') : PS w' B X M' sp pv :=
  ⟨hx.m, h.top.grown hx.g (by have := h.XB; simpa using this), fun d hd => (h.pin d hd).grown hx.g (fun g e e' => h.pinB hd (by rw [e, e'])), h.sep⟩
theorem PS.chg {S : Nat → Prop} (h : PS w B X M sp pv) (hc : Chg S w w') (hS : ∀ k, xfoot B X pv k → ¬ S k) : PS w' B X M sp pv :=
  ⟨h.m.chg hc (hS _ (.inl rfl)), h.top.chg hc (hS _ (.inr (.inl rfl))), fun d hd => (h.pin d hd).chg hc fun g e => hS _ (.inr (.inr ⟨d, hd, e⟩)), h.sep⟩
theorem PS.grown (h : PS w B X M sp pv) (hg : w.grownBy w' none) : PS w' B X M sp pv := h.chg (S := fun _ => False) (Chg.of0 hg) fun _ _ e => e
/-- a root is set -/
theorem PS.setRoot (h : PS w B X M sp pv) {d : Nat} (hd : d < 8) (r : Int) : PS (w.setCell ⟨X, 1 + d * 2, none⟩ (.int .i64 r)) B X M (upS sp d { sp d with root := r }) pv := by
  have hg := grownBy_setCell w X (1 + d * 2) none (.int .i64 r)
  refine ⟨h.m.grown hg (by have := h.XB; simp; omega), h.top.set (k := 1 + d * 2) ?_ (fun j hj hne => ?_), fun e he => ?_, h.sep⟩
  · unfold xtop
    rw [if_neg (by omega), if_pos (by omega), show (1 + d * 2) / 2 = d by omega, upS_same]
  · unfold xtop
    by_cases h0 : j = 0
    · simp [h0]
    rw [if_neg h0, if_neg h0]
    by_cases h1 : j % 2 = 1
    · rw [if_pos h1, if_pos h1, upS_other _ _ _ _ (by omega)]
    · rw [if_neg h1, if_neg h1]
  · have := (h.pin e he).grown hg (fun g e' e2 => h.pinX he (by rw [e', e2]))
    by_cases ed : e = d
    · subst ed; rw [upS_same]; exact this
    · rw [upS_other _ _ _ _ ed]; exact this
/-- pins are laid anew -/
theorem PS.setPins (h : PS w B X M sp pv) {d : Nat} (hd : d < 8) {v : Value} {l : List (Int × Int)} (hp : PinsAt w' v l) (hg : w.grownBy w' (pv d).ownBlock) (hn : v.ownBlock = (pv d).ownBlock ∨ ∀ g, v.ownBlock = some g → w.heap.size ≤ g) :
    PS (w'.setCell ⟨X, 1 + d * 2 + 1, none⟩ v) B X M (upS sp d { sp d with pins := l }) (fun e => if e = d then v else pv e) := by
  have htop := h.top.grown hg (fun e => h.pinX hd e.symm)
  have hm := h.m.grown hg (fun e => h.pinB hd e.symm)
  have hX : v.ownBlock ≠ some X := fun e => by
    obtain ⟨N, Y, hr⟩ := hp.row e
    exact Row.type_ne hr htop (by decide) rfl
  have hs := grownBy_setCell w' X (1 + d * 2 + 1) none v
  have hXB := h.XB
  refine ⟨hm.grown hs (by simp; omega), htop.set (k := 1 + d * 2 + 1) ?_ (fun j hj hne => ?_), fun e he => ?_, fun a b g ha hb hab e1 e2 => ?_⟩
  · unfold xtop
    rw [if_neg (by omega), if_neg (by omega)]
    simp only []
    rw [if_pos (by omega)]
  · unfold xtop
    by_cases h0 : j = 0
    · simp [h0]
    rw [if_neg h0, if_neg h0]
    by_cases h1 : j % 2 = 1
    · rw [if_pos h1, if_pos h1]
      by_cases ed : j / 2 = d
      · rw [ed, upS_same]
      · rw [upS_other _ _ _ _ ed]
    · rw [if_neg h1, if_neg h1]
      simp only []
      rw [if_neg (by omega)]
  · by_cases ed : e = d
    · subst ed
      rw [upS_same, if_pos rfl]
      exact hp.grown hs fun g e' e2 => hX (by rw [e', e2])
    · rw [upS_other _ _ _ _ ed, if_neg ed]
      refine ((h.pin e he).grown hg fun g e1 e2 => ?_).grown hs fun g e' e2 => h.pinX he (by rw [e', e2])
      exact h.sep e d g he hd ed e1 e2.symm
  · have key : ∀ x, x < 8 → x ≠ d → v.ownBlock = some g → (pv x).ownBlock ≠ some g := fun x hx hxd ev ex => by
      rcases hn with hn | hn
      · rw [hn] at ev; exact h.sep x d g hx hd hxd ex ev
      · have := hn g ev; have := (h.pin x hx).lt ex; omega
    by_cases ead : a = d
    · subst ead
      rw [if_pos rfl] at e1; rw [if_neg (fun e => hab e.symm)] at e2
      exact key b hb (fun e => hab e.symm) e1 e2
    · rw [if_neg ead] at e1
      by_cases ebd : b = d
      · subst ebd; rw [if_pos rfl] at e2; exact key a ha ead e2 e1
      · rw [if_neg ebd] at e2; exact h.sep a b g ha hb hab e1 e2
end
/-- what a call leaves -/
def XL (w w' : World) (B X : Nat) (pv : Nat → Value) (M' : Mach) (sp' : Nat → Sp) : Prop :=
  ∃ pv', PS w' B X M' sp' pv' ∧ Chg (xfoot B X pv) w w' ∧ ∀ k, xfoot B X pv' k → xfoot B X pv k ∨ w.heap.size ≤ k
theorem XL.same {w w' : World} {B X : Nat} {pv : Nat → Value} {M : Mach} {sp : Nat → Sp} (h : PS w B X M sp pv) (hg : w.grownBy w' none) : XL w w' B X pv M sp := ⟨pv, h.grown hg, Chg.of0 hg, fun _ h => .inl h⟩
theorem XL.of {w w' : World} {B X : Nat} {pv : Nat → Value} {M M' : Mach} {sp : Nat → Sp} (h : PS w B X M sp pv) (hx : XM w w' B X M') : XL w w' B X pv M' sp := ⟨pv, h.core hx, Chg.of hx.g (fun j e => .inl (.inl (Option.some.inj e).symm)), fun _ h => .inl h⟩
theorem XL.trans {w w1 w2 : World} {B X : Nat} {pv pv1 : Nat → Value} {M2 : Mach} {sp2 : Nat → Sp} (hc : Chg (xfoot B X pv) w w1) (hf : ∀ k, xfoot B X pv1 k → xfoot B X pv k ∨ w.heap.size ≤ k) (h2 : XL w1 w2 B X pv1 M2 sp2) : XL w w2 B X pv M2 sp2 := by
  obtain ⟨pv2, h, c, f⟩ := h2
  exact ⟨pv2, h, hc.trans c hf, fun k hk => (f k hk).elim (hf k) fun e => .inr (Nat.le_trans hc.size e)⟩

theorem xmade_yes (X B : Nat) (w : World) (h : w.cell? ⟨X, 0, none⟩ = some (.pointer (some ⟨B, 0, none⟩))) : Calls Try.prog 89 #[.pointer (some ⟨X, 0, none⟩)] w fun e w' => e = .returned (.bool true) ∧ w = w' := by
  go_enter Try.func89, Try.ntmps89
  go_wp2
  go_ret
  exact ⟨rfl, rfl⟩
theorem xMachine (X B : Nat) (w : World) (h : w.cell? ⟨X, 0, none⟩ = some (.pointer (some ⟨B, 0, none⟩))) : Calls Try.prog 39 #[.pointer (some ⟨X, 0, none⟩)] w fun e w' => e = .returned (.pointer (some ⟨B, 0, none⟩)) ∧ w = w' := by
  go_enter Try.func39, Try.ntmps39
  go_wp2_with (go_at_call 89; refine (xmade_yes _ B _ h).mono ?_; rintro e w' ⟨rfl, rfl⟩)
  go_ret
  exact ⟨rfl, rfl⟩
theorem xisDomain (d : Int) (w : World) : Calls Try.prog 91 #[.int .i64 d] w fun e w' => e = .returned (.bool (domOk d)) ∧ w = w' := by
  unfold domOk
  by_cases h0 : 0 ≤ d
  · by_cases h8 : d < 8
    · go_enter Try.func91, Try.ntmps91
      go_wp2
      go_ret
      exact ⟨by simp [h0, h8], rfl⟩
    · have h8' : 8 ≤ d := by omega
      go_enter Try.func91, Try.ntmps91
      go_wp2
      go_ret
      exact ⟨by simp [h0, h8], rfl⟩
  · have h0' : d < 0 := by omega
    have hz : (decide (0 ≤ d) && decide (d < 8)) = false := by simp [h0]
    rw [hz]
    clear hz
    go_enter Try.func91, Try.ntmps91
    go_wp2
    go_ret
    exact ⟨rfl, rfl⟩
theorem xhas (X B : Nat) (i : Int) (w : World) (M : Mach) (h : w.cell? ⟨X, 0, none⟩ = some (.pointer (some ⟨B, 0, none⟩))) (hM : PM w B M) (hn : 1 ≤ M.n) : Calls Try.prog 92 #[.pointer (some ⟨X, 0, none⟩), .int .i64 i] w fun e w' => e = .returned (.bool (M.is i)) ∧ w = w' := by
  have HS := hid (Size_yes B M.n w hn hM.size)
  clear hM
  unfold Mach.is
  by_cases h0 : 0 ≤ i
  · by_cases h8 : i < M.n
    · go_enter Try.func92, Try.ntmps92
      go_wp2_with (go_at_call 40; refine HS.out.mono ?_; rintro e w' ⟨rfl, rfl⟩)
      go_ret
      exact ⟨by simp [h0, h8], rfl⟩
    · have h8' : M.n ≤ i := by omega
      go_enter Try.func92, Try.ntmps92
      go_wp2_with (go_at_call 40; refine HS.out.mono ?_; rintro e w' ⟨rfl, rfl⟩)
      go_ret
      exact ⟨by simp [h0, h8], rfl⟩
  · have h0' : i < 0 := by omega
    have hz : (decide (0 ≤ i) && decide (i < M.n)) = false := by simp [h0]
    rw [hz]
    clear hz
    go_enter Try.func92, Try.ntmps92
    go_wp2
    go_ret
    exact ⟨rfl, rfl⟩
end Go.Proofs.Ytemeihamkdpmoaa

/-
  Package tenementref05: the whole object in memory.
-/
set_option linter.unusedSimpArgs false
set_option linter.unusedVariables false
namespace Go.Proofs.Ytemeihamkdpmoaa
open Go.RowKit
set_option maxHeartbeats 1000000

/-- where the rows of the reference's page tables lie -/
structure YL where
  fP : Nat
  cP : Nat
  fR : Nat
  cR : Nat
  pv : Nat → Value
def ytop (b : Nat) (A : YL) : Nat → Value
  | 0 => .pointer (some ⟨b, 0, none⟩)
  | 1 => .slice (some ⟨A.fP, 0, none⟩) 8 A.cP
  | _ => .slice (some ⟨A.fR, 0, none⟩) 8 A.cR
def rootV (sp : Nat → Sp) (d : Nat) : Value := .int .i64 (sp d).root
/-- block Y holds the reference's page tables: machine in block b, each domain's pins, its root -/
structure YS (w : World) (b Y : Nat) (L : Lay) (M : Mach) (sp : Nat → Sp) (A : YL) : Prop where
  r : RM w b M L
  top : Row w Y 156 3 (ytop b A)
  pr : Row w A.fP 100 8 A.pv
  rr : Row w A.fR 3 8 (rootV sp)
  pin : ∀ d, d < 8 → PinsAt w (A.pv d) (sp d).pins
  sep : ∀ d e g, d < 8 → e < 8 → d ≠ e → (A.pv d).ownBlock = some g → (A.pv e).ownBlock ≠ some g
def yfoot (b Y : Nat) (L : Lay) (A : YL) (k : Nat) : Prop := L.foot b k ∨ k = Y ∨ k = A.fP ∨ k = A.fR ∨ ∃ d, d < 8 ∧ (A.pv d).ownBlock = some k
theorem RM.ne_row {w : World} {b : Nat} {M : Mach} {L : Lay} (h : RM w b M L) {g : Nat} {t : TypeId} {N : Nat} {X : Nat → Value} (hr : Row w g t N X) (h1 : t ≠ 122) (h2 : t ≠ 93) (h3 : t ≠ 31) (h4 : t ≠ 5) : ¬ L.foot b g := by
  rintro (e | e | e | ⟨i, hi, e⟩)
  · exact Row.type_ne hr h.top h1 e
  · exact Row.type_ne hr h.fr h2 e
  · exact Row.type_ne hr h.bs h3 e
  · exact Row.type_ne hr (h.row i hi) h4 e
section
variable {w w' : World} {b Y : Nat} {L : Lay} {M M' : Mach} {sp : Nat → Sp} {A : YL}
theorem YS.y0 (h : YS w b Y L M sp A) : w.cell? ⟨Y, 0, none⟩ = some (.pointer (some ⟨b, 0, none⟩)) := h.top.cell (k := 0) (by omega)
theorem YS.y1 (h : YS w b Y L M sp A) : w.cell? ⟨Y, 1, none⟩ = some (.slice (some ⟨A.fP, 0, none⟩) 8 A.cP) := h.top.cell (k := 1) (by omega)
theorem YS.y2 (h : YS w b Y L M sp A) : w.cell? ⟨Y, 2, none⟩ = some (.slice (some ⟨A.fR, 0, none⟩) 8 A.cR) := h.top.cell (k := 2) (by omega)
theorem YS.pins (h : YS w b Y L M sp A) {d : Nat} (hd : d < 8) : w.cell? ⟨A.fP, d, none⟩ = some (A.pv d) := h.pr.cell hd
theorem YS.root (h : YS w b Y L M sp A) {d : Nat} (hd : d < 8) : w.cell? ⟨A.fR, d, none⟩ = some (.int .i64 (sp d).root) := h.rr.cell hd
theorem YS.nY (h : YS w b Y L M sp A) : ¬ L.foot b Y := h.r.ne_row h.top (by decide) (by decide) (by decide) (by decide)
theorem YS.nP (h : YS w b Y L M sp A) : ¬ L.foot b A.fP := h.r.ne_row h.pr (by decide) (by decide) (by decide) (by decide)
theorem YS.nR (h : YS w b Y L M sp A) : ¬ L.foot b A.fR := h.r.ne_row h.rr (by decide) (by decide) (by decide) (by decide)
theorem YS.nG (h : YS w b Y L M sp A) {d g : Nat} (hd : d < 8) (hg : (A.pv d).ownBlock = some g) : ¬ L.foot b g := by
  obtain ⟨N, X, hr⟩ := (h.pin d hd).row hg
  exact h.r.ne_row hr (by decide) (by decide) (by decide) (by decide)
theorem YS.gY (h : YS w b Y L M sp A) {d : Nat} (hd : d < 8) : (A.pv d).ownBlock ≠ some Y := fun e => by
  obtain ⟨N, X, hr⟩ := (h.pin d hd).row e
  exact Row.type_ne hr h.top (by decide) rfl
theorem YS.gP (h : YS w b Y L M sp A) {d : Nat} (hd : d < 8) : (A.pv d).ownBlock ≠ some A.fP := fun e => by
  obtain ⟨N, X, hr⟩ := (h.pin d hd).row e
  exact Row.type_ne hr h.pr (by decide) rfl
theorem YS.gR (h : YS w b Y L M sp A) {d : Nat} (hd : d < 8) : (A.pv d).ownBlock ≠ some A.fR := fun e => by
  obtain ⟨N, X, hr⟩ := (h.pin d hd).row e
  exact Row.type_ne hr h.rr (by decide) rfl
theorem YS.lt (h : YS w b Y L M sp A) {k : Nat} (hk : yfoot b Y L A k) : k < w.heap.size := by
  rcases hk with e | rfl | rfl | rfl | ⟨d, hd, e⟩
  · exact h.r.lt e
  · exact h.top.lt
  · exact h.pr.lt
  · exact h.rr.lt
  · exact (h.pin d hd).lt e
theorem YS.chg {S : Nat → Prop} (h : YS w b Y L M sp A) (hc : Chg S w w') (hS : ∀ k, yfoot b Y L A k → ¬ S k) : YS w' b Y L M sp A :=
  ⟨h.r.chg hc fun k hk => hS k (.inl hk), h.top.chg hc (hS _ (.inr (.inl rfl))), h.pr.chg hc (hS _ (.inr (.inr (.inl rfl)))), h.rr.chg hc (hS _ (.inr (.inr (.inr (.inl rfl))))), fun d hd => (h.pin d hd).chg hc fun g e => hS _ (.inr (.inr (.inr (.inr ⟨d, hd, e⟩)))), h.sep⟩
theorem YS.grown (h : YS w b Y L M sp A) (hg : w.grownBy w' none) : YS w' b Y L M sp A := h.chg (S := fun _ => False) (Chg.of0 hg) fun _ _ e => e
theorem YS.ym (h : YS w b Y L M sp A) : YM w w b Y (L.foot b) M := ⟨⟨L, h.r, fun _ h => .inl h⟩, h.y0, Chg.refl _ _, h.nY, h.top.lt⟩
/-- the machine alone has changed -/
theorem YS.core (h : YS w b Y L M sp A) (hx : YM w w' b Y (L.foot b) M') : ∃ L', YS w' b Y L' M' sp A ∧ Chg (L.foot b) w w' ∧ ∀ k, L'.foot b k → L.foot b k ∨ w.heap.size ≤ k := by
  obtain ⟨L', hL, hf⟩ := hx.r
  exact ⟨L', ⟨hL, h.top.chg hx.c h.nY, h.pr.chg hx.c h.nP, h.rr.chg hx.c h.nR, fun d hd => (h.pin d hd).chg hx.c fun g e => h.nG hd e, h.sep⟩, hx.c, hf⟩
theorem YS.setRoot (h : YS w b Y L M sp A) {d : Nat} (hd : d < 8) (r : Int) : YS (w.setCell ⟨A.fR, d, none⟩ (.int .i64 r)) b Y L M (upS sp d { sp d with root := r }) A := by
  have hg := grownBy_setCell w A.fR d none (.int .i64 r)
  have hc : Chg (fun k => k = A.fR) w (w.setCell ⟨A.fR, d, none⟩ (.int .i64 r)) := Chg.of hg fun j e => .inl (Option.some.inj e).symm
  refine ⟨h.r.chg hc fun k hk e => h.nR (e ▸ hk), h.top.chg hc (Row.type_ne h.top h.rr (by decide)), h.pr.chg hc (Row.type_ne h.pr h.rr (by decide)), h.rr.set ?_ (fun j _ hj => ?_), fun e he => ?_, h.sep⟩
  · unfold rootV; rw [upS_same]
  · unfold rootV; rw [upS_other _ _ _ _ hj]
  · have := (h.pin e he).chg hc fun g e1 e2 => h.gR he (by rw [e1, e2])
    by_cases ed : e = d
    · subst ed; rw [upS_same]; exact this
    · rw [upS_other _ _ _ _ ed]; exact this
/-- pins are laid anew -/
theorem YS.setPins (h : YS w b Y L M sp A) {d : Nat} (hd : d < 8) {v : Value} {l : List (Int × Int)} (hp : PinsAt w' v l) (hg : w.grownBy w' (A.pv d).ownBlock) (hn : v.ownBlock = (A.pv d).ownBlock ∨ ∀ g, v.ownBlock = some g → w.heap.size ≤ g) :
    YS (w'.setCell ⟨A.fP, d, none⟩ v) b Y L M (upS sp d { sp d with pins := l }) { A with pv := fun e => if e = d then v else A.pv e } := by
  have hc1 : Chg (fun k => (A.pv d).ownBlock = some k) w w' := Chg.of hg fun j e => .inl e
  have hs := grownBy_setCell w' A.fP d none v
  have hc2 : Chg (fun k => k = A.fP) w' (w'.setCell ⟨A.fP, d, none⟩ v) := Chg.of hs fun j e => .inl (Option.some.inj e).symm
  have hpr1 := h.pr.chg hc1 (h.gP hd)
  have hP : v.ownBlock ≠ some A.fP := fun e => by
    obtain ⟨N, X, hr⟩ := hp.row e
    exact Row.type_ne hr hpr1 (by decide) rfl
  refine ⟨(h.r.chg hc1 fun k hk e => h.nG hd e hk).chg hc2 fun k hk e => h.nP (e ▸ hk), (h.top.chg hc1 (h.gY hd)).chg hc2 (Row.type_ne h.top h.pr (by decide)), hpr1.set (by simp) (fun j _ hj => by simp [hj]),
    (((h.rr.chg hc1 (h.gR hd)).chg hc2 (Row.type_ne h.rr h.pr (by decide))).congr fun e he => ?_), fun e he => ?_, fun a c g ha hcc hac e1 e2 => ?_⟩
  · unfold rootV
    by_cases ed : e = d
    · subst ed; rw [upS_same]
    · rw [upS_other _ _ _ _ ed]
  · simp only
    by_cases ed : e = d
    · subst ed
      rw [upS_same, if_pos rfl]
      exact hp.chg hc2 fun g e' e2 => hP (by rw [e', e2])
    · rw [upS_other _ _ _ _ ed, if_neg ed]
      refine ((h.pin e he).chg hc1 fun g e1 e2 => h.sep e d g he hd ed e1 e2).chg hc2 fun g e' e2 => h.gP he (by rw [e', e2])
  · have key : ∀ x, x < 8 → x ≠ d → v.ownBlock = some g → (A.pv x).ownBlock ≠ some g := fun x hx hxd ev ex => by
      rcases hn with hn | hn
      · rw [hn] at ev; exact h.sep x d g hx hd hxd ex ev
      · have := hn g ev; have := (h.pin x hx).lt ex; omega
    simp only at e1 e2
    by_cases ead : a = d
    · subst ead
      rw [if_pos rfl] at e1; rw [if_neg (fun e => hac e.symm)] at e2
      exact key c hcc (fun e => hac e.symm) e1 e2
    · rw [if_neg ead] at e1
      by_cases ebd : c = d
      · subst ebd; rw [if_pos rfl] at e2; exact key a ha ead e2 e1
      · rw [if_neg ebd] at e2; exact h.sep a c g ha hcc hac e1 e2
end
/-- what a call leaves -/
def YLf (w w' : World) (b Y : Nat) (L : Lay) (A : YL) (M' : Mach) (sp' : Nat → Sp) : Prop :=
  ∃ L' A', YS w' b Y L' M' sp' A' ∧ Chg (yfoot b Y L A) w w' ∧ ∀ k, yfoot b Y L' A' k → yfoot b Y L A k ∨ w.heap.size ≤ k
theorem YLf.same {w w' : World} {b Y : Nat} {L : Lay} {A : YL} {M : Mach} {sp : Nat → Sp} (h : YS w b Y L M sp A) (hg : w.grownBy w' none) : YLf w w' b Y L A M sp := ⟨L, A, h.grown hg, Chg.of0 hg, fun _ h => .inl h⟩
theorem YLf.of {w w' : World} {b Y : Nat} {L : Lay} {A : YL} {M M' : Mach} {sp : Nat → Sp} (h : YS w b Y L M sp A) (hx : YM w w' b Y (L.foot b) M') : YLf w w' b Y L A M' sp := by
  obtain ⟨L', h1, h2, h3⟩ := h.core hx
  refine ⟨L', A, h1, h2.mono fun k hk => .inl hk, fun k hk => ?_⟩
  rcases hk with e | e
  · exact (h3 k e).imp .inl id
  · exact .inl (.inr e)
theorem YLf.trans {w w1 w2 : World} {b Y : Nat} {L L1 : Lay} {A A1 : YL} {M2 : Mach} {sp2 : Nat → Sp} (hc : Chg (yfoot b Y L A) w w1) (hf : ∀ k, yfoot b Y L1 A1 k → yfoot b Y L A k ∨ w.heap.size ≤ k) (h2 : YLf w1 w2 b Y L1 A1 M2 sp2) : YLf w w2 b Y L A M2 sp2 := by
  obtain ⟨L2, A2, h, c, f⟩ := h2
  exact ⟨L2, A2, h, hc.trans c hf, fun k hk => (f k hk).elim (hf k) fun e => .inr (Nat.le_trans hc.size e)⟩
set_option maxRecDepth 100000 in
theorem ypinned (b Y d : Nat) (i : Int) (w : World) (L : Lay) (M : Mach) (sp : Nat → Sp) (A : YL) (h : YS w b Y L M sp A) (hd : d < 8) (hl : (sp d).pins.length ≤ 1000000) :
    Calls Try.prog 108 #[.pointer (some ⟨Y, 0, none⟩), .int .i64 d, .int .i64 i] w fun e w' => e = .returned (.int .i64 (pinAt (sp d).pins i)) ∧ w = w' := by
  have y1 := h.y1; have p0 := h.pins hd
  have HP := hid (h.pin d hd)
  have hd0 : (0 : Int) ≤ d := by omega
  have hd8 : (d : Int) < 8 := by omega
  obtain ⟨p, c, hv⟩ := (h.pin d hd).slice
  rw [hv] at p0 HP
  generalize (sp d).pins = l at *
  clear h hv
  go_enter Try.func108, Try.ntmps108
  go_wp2
  go_loopw [7] (fun x wr => ∃ j : Nat, x = .int .i64 j ∧ j ≤ l.length ∧ j ≤ pinIx l i ∧ w = wr) (fun x _ => l.length - (intOf x).toNat)
  case atStart => exact ⟨0, rfl, by omega, by omega, rfl⟩
  case round =>
    obtain ⟨j, rfl, hj, hj2, rfl⟩ := hrel
    have hj0 : (0 : Int) ≤ j := by omega
    by_cases hjl : j < l.length
    · have hjl' : (j : Int) < l.length := by omega
      obtain ⟨g, e, c0, c1⟩ := HP.out.at hjl
      cases e
      have HNo := hid (pinIx_no hjl hj2)
      have HYe := hid (fun h => pinAt_some hjl (pinIx_yes hjl hj2 h))
      generalize l[j] = q at c0 c1 HNo HYe
      obtain ⟨a, bb⟩ := q
      simp only at c0 c1 HNo HYe
      by_cases ha : a = i
      · have hab : (a == i) = true := by simp [ha]
        have HY := hid (HYe.out ha)
        go_wp2
        go_ret
        exact ⟨by rw [HY.out]; rfl, rfl⟩
      · have hab : (a == i) = false := by simp [ha]
        go_wp2
        go_roundw
        case rel => exact ⟨j + 1, by go_num, by omega, HNo.out ha, by trivial⟩
        case measure => simp [intOf]; omega
    · obtain rfl : j = l.length := by omega
      have hge : (l.length : Int) ≤ l.length := by omega
      have HY := hid (pinAt_none hj2)
      go_wp2
      go_ret
      exact ⟨by rw [HY.out]; rfl, rfl⟩
end Go.Proofs.Ytemeihamkdpmoaa

/-
  Package mmu: Root, Pins.
-/
set_option linter.unusedSimpArgs false
set_option linter.unusedVariables false
namespace Go.Proofs.Ytemeihamkdpmoaa
open Go.RowKit
set_option maxHeartbeats 1000000

theorem domOk_nat {d : Int} (h : domOk d = true) : ∃ k : Nat, d = k ∧ k < 8 := by
  have : 0 ≤ d ∧ d < 8 := by simpa [domOk] using h
  exact ⟨d.toNat, by omega, by omega⟩
theorem domOk_cast {k : Nat} (h : k < 8) : domOk (k : Int) = true := by simp [domOk]; omega
theorem xRoot_yes (X B d : Nat) (w : World) (M : Mach) (sp : Nat → Sp) (pv : Nat → Value) (hd : d < 8) (h : PS w B X M sp pv) : Calls Try.prog 51 #[.pointer (some ⟨X, 0, none⟩), .int .i64 d] w fun e w' => e = .returned (.int .i64 (sp d).root) ∧ w = w' := by
  have hc := h.c0
  have hr := h.root hd
  have hd0 : (0 : Int) ≤ d := by omega
  have hd8 : (d : Int) < 8 := by omega
  have hok := domOk_cast hd
  clear h
  go_enter Try.func51, Try.ntmps51
  go_wp2_with (first
    | (go_at_call 89; refine (xmade_yes _ B _ hc).mono ?_; rintro e w' ⟨rfl, rfl⟩)
    | (go_at_call 91; refine (xisDomain _ _).mono ?_; rintro e w' ⟨rfl, rfl⟩))
  go_ret
  exact ⟨rfl, rfl⟩
theorem xRoot_no (X B : Nat) (d : Int) (w : World) (M : Mach) (sp : Nat → Sp) (pv : Nat → Value) (hd : domOk d = false) (h : PS w B X M sp pv) : Calls Try.prog 51 #[.pointer (some ⟨X, 0, none⟩), .int .i64 d] w fun e w' => e = .returned (.int .i64 (-1)) ∧ w = w' := by
  have hc := h.c0
  clear h
  go_enter Try.func51, Try.ntmps51
  go_wp2_with (first
    | (go_at_call 89; refine (xmade_yes _ B _ hc).mono ?_; rintro e w' ⟨rfl, rfl⟩)
    | (go_at_call 91; refine (xisDomain _ _).mono ?_; rintro e w' ⟨rfl, rfl⟩))
  go_ret
  exact ⟨rfl, rfl⟩
set_option maxRecDepth 100000 in
theorem pinsClone (v : Value) (l : List (Int × Int)) (w : World) (h : PinsAt w v l) (hl : l.length ≤ 8000000000000) :
    Calls Try.prog 102 #[v] w fun e w' => ∃ v', e = .returned v' ∧ PinsAt w' v' l ∧ w.grownBy w' none := by
  rcases h with ⟨rfl, rfl⟩ | ⟨g, cap, rfl, hcap, hrow, hfull⟩
  · have hq := fun w => Lib.run_eql_slice_nil (P := Try.prog) w 100 _ none 0 0 0 0 Try.underlying100
    go_enter Try.func102, Try.ntmps102
    go_wp2
    go_ret
    exact ⟨_, rfl, .inl ⟨rfl, rfl⟩, World.grownBy.refl _ _⟩
  · have hq := fun w => Lib.run_eql_slice_nil (P := Try.prog) w 100 _ (some ⟨g, 0, none⟩) l.length cap 0 0 Try.underlying100
    obtain ⟨i0, hi, hz0, hz1, hz2⟩ := info_parts info_pin
    have Hi := hid hi; have Hz0 := hid hz0; have Hz1 := hid hz1; have Hz2 := hid hz2
    have HG0 := hid (World.grownBy_alloc w (.cells #[] 158) none)
    have HOn := hid (World.ownsRow_made (base := w.heap.size) (e := 158) (size := 2) w #[] 0 (Nat.le_refl _) (by unfold maxLen; omega) (by simp))
    have HNw := hid (row_news (hrow.grown HG0.out (by simp)))
    have HL := hid (pinC_len l)
    clear hi hz0 hz1 hz2 hrow hfull
    go_enter Try.func102, Try.ntmps102
    go_wp2_with (at_builtin; refine wpList_append_own _ rfl _ _ 100 rfl w.heap.size 158 i0 (.agg #[.int .i64 0, .int .i64 0]) 2 16 Try.underlying100 Hi.out Hz0.out Hz1.out Hz2.out rfl (by decide) _ 0 [] rfl HOn.out ⟨g, 0, none⟩ l.length cap (pinC l) rfl HL.out HNw.out (pinC_one l) (by unfold maxLen; omega) (by omega) (by simp) ?_; intro v' w1 hown' hgrow hnil; clear hnil; simp only [Nat.zero_add, List.nil_append] at hown'; have HO1 := hid hown'; have HG1 := hid (HG0.out.andThen hgrow (fun j hj => .inl (HOn.out.lt j hj).1)); clear hown' hgrow)
    go_ret
    exact ⟨_, rfl, .of_own HO1.out, HG1.out⟩
theorem xPins_yes (X B d : Nat) (w : World) (M : Mach) (sp : Nat → Sp) (pv : Nat → Value) (hd : d < 8) (h : PS w B X M sp pv) (hl : (sp d).pins.length ≤ 8000000000000) : Calls Try.prog 54 #[.pointer (some ⟨X, 0, none⟩), .int .i64 d] w fun e w' => ∃ v', e = .returned v' ∧ PinsAt w' v' (sp d).pins ∧ w.grownBy w' none := by
  have hc := h.c0
  have hr := h.pins hd
  have hd0 : (0 : Int) ≤ d := by omega
  have hd8 : (d : Int) < 8 := by omega
  have hok := domOk_cast hd
  have HP := hid (h.pin d hd)
  clear h
  go_enter Try.func54, Try.ntmps54
  go_wp2_with (first
    | (go_at_call 89; refine (xmade_yes _ B _ hc).mono ?_; rintro e w' ⟨rfl, rfl⟩)
    | (go_at_call 91; refine (xisDomain _ _).mono ?_; rintro e w' ⟨rfl, rfl⟩)
    | (go_at_call 102; refine (pinsClone _ _ _ HP.out hl).mono ?_; rintro e w1 ⟨v', rfl, hp, hg⟩; have HP1 := hid hp; have HG1 := hid hg; clear hp hg))
  go_ret
  exact ⟨_, rfl, HP1.out, HG1.out⟩
end Go.Proofs.Ytemeihamkdpmoaa
