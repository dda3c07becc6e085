/-
  Package tenementlaw05: play, a batch of updates; any call.
-/
import Derived.Test.YtemeihamkdpmoaaK30
import Derived.Deep.RegionHeld3
import Derived.Deep.RegionWith
import Derived.Test.YtemeihamkdpmoaaK29
import Derived.Test.YtemeihamkdpmoaaK12
import Derived.ProofKit
import Derived.Laws.IdiomStrings
import Derived.Deep.Cut
import Derived.Deep.QuietTactic
import Derived.BigQuiet
set_option linter.unusedSimpArgs false
set_option linter.unusedVariables false
namespace Go.Proofs.Ytemeihamkdpmoaa
open Go.RowKit
set_option maxHeartbeats 2000000

def updC (l : List Upd) : List Value := l.flatMap fun u => [.int .i64 u.1, .int .i64 u.2.1, .int .u32 u.2.2]
theorem updC_len (l : List Upd) : (updC l).length = l.length * 3 := by
  induction l with
  | nil => rfl
  | cons x l ih => simp only [updC, List.flatMap_cons, List.length_append, List.length_cons, List.length_nil] at ih ⊢; omega
theorem updC_get (l : List Upd) (j : Nat) (hj : j < l.length) : (updC l)[j * 3]? = some (.int .i64 l[j].1) ∧ (updC l)[j * 3 + 1]? = some (.int .i64 l[j].2.1) ∧ (updC l)[j * 3 + 2]? = some (.int .u32 l[j].2.2) := by
  induction l generalizing j with
  | nil => simp at hj
  | cons x l ih =>
    simp only [updC, List.flatMap_cons]
    cases j with
    | zero => exact ⟨rfl, rfl, rfl⟩
    | succ j =>
      have h := ih j (by simpa using hj)
      simp only [updC] at h
      have e1 : (j + 1) * 3 = j * 3 + 1 + 1 + 1 := by omega
      rw [e1]
      exact h
theorem updC_one (l : List Upd) : ∀ u ∈ updC l, u.oneCell' = true := by
  intro u hu
  simp only [updC, List.mem_flatMap] at hu
  obtain ⟨q, _, hu⟩ := hu
  simp only [List.mem_cons, List.not_mem_nil, or_false] at hu
  rcases hu with rfl | rfl | rfl <;> rfl
theorem info_upd : (Try.prog.info? 107).map (fun i => (i.zero, i.size, i.bytes)) = some (some (.agg #[.int .i64 0, .int .i64 0, .int .u32 0]), 3, 24) := by kernel_rfl
/-- changes that came in -/
def UpdsSrc (w : World) (pa : Option Addr) (l : List Upd) : Prop :=
  ∀ j (hj : j < l.length), ∃ g o, pa = some ⟨g, o, none⟩ ∧ g < w.heap.size ∧ w.cell? ⟨g, o + j * 3, none⟩ = some (.int .i64 l[j].1) ∧ w.cell? ⟨g, o + j * 3 + 1, none⟩ = some (.int .i64 l[j].2.1) ∧ w.cell? ⟨g, o + j * 3 + 2, none⟩ = some (.int .u32 l[j].2.2)
theorem UpdsSrc.grown {w w' : World} {pa : Option Addr} {l : List Upd} (h : UpdsSrc w pa l) (hg : w.grownBy w' none) : UpdsSrc w' pa l := fun j hj => by
  obtain ⟨g, o, e, hlt, h0, h1, h2⟩ := h j hj
  exact ⟨g, o, e, Nat.lt_of_lt_of_le hlt hg.size, hg.cell h0 (by simp), hg.cell h1 (by simp), hg.cell h2 (by simp)⟩
theorem UpdsSrc.news {w : World} {ad : Addr} {l : List Upd} (h : UpdsSrc w (some ad) l) : ∀ k u, (updC l)[k]? = some u → w.cell? (ad.add k) = some u := fun k u hu => by
  have hk := (List.getElem?_eq_some_iff.1 hu).1
  rw [updC_len] at hk
  obtain ⟨j, hj, hjk⟩ : ∃ j, j < l.length ∧ (k = j * 3 ∨ k = j * 3 + 1 ∨ k = j * 3 + 2) := ⟨k / 3, by omega, by omega⟩
  obtain ⟨g, o, e, _, h0, h1, h2⟩ := h j hj
  cases e
  obtain ⟨g0, g1, g2⟩ := updC_get l j hj
  have e : (⟨g, o, none⟩ : Addr).add k = ⟨g, o + k, none⟩ := by unfold Addr.add; split <;> simp_all
  rw [e]
  rcases hjk with rfl | rfl | rfl
  · rw [h0, ← hu, g0]
  · rw [← Nat.add_assoc, h1, ← hu, g1]
  · rw [← Nat.add_assoc, h2, ← hu, g2]
theorem own_updsAt {W : World} {base B : Nat} {v : Value} {l : List Upd} (h : W.ownsRow base 107 3 v l.length (updC l)) (hB : B < base) : UpdsAt W B v l := by
  by_cases hl : l = []
  · subst hl
    obtain ⟨p, c, rfl⟩ := ownsRow_slice h
    exact ⟨p, c, rfl, fun j hj => by simp at hj⟩
  · obtain ⟨m, hm⟩ : ∃ m, l.length = m + 1 := ⟨l.length - 1, by have := List.length_pos_iff.2 hl; omega⟩
    have h' := h
    rw [hm] at h'
    obtain ⟨g, c, rfl, hg, hr⟩ := ownsRow_row h'
    rw [← hm] at hr
    refine ⟨_, c, by rw [hm], fun j hj => ?_⟩
    obtain ⟨g0, g1, g2⟩ := updC_get l j hj
    refine ⟨g, 0, rfl, by omega, ?_, ?_, ?_⟩
    · rw [Nat.zero_add, hr.cell (by omega)]; simp [List.getD, g0]
    · rw [Nat.zero_add, hr.cell (by omega)]; simp [List.getD, g1]
    · rw [Nat.zero_add, hr.cell (by omega)]; simp [List.getD, g2]
theorem run_append_upd (X : World) (base : Nat) (ty : TypeId) (i0 : TypeInfo) (hi : Try.prog.info? 107 = some i0) (hz0 : i0.zero = some (.agg #[.int .i64 0, .int .i64 0, .int .u32 0])) (hz1 : i0.size = 3) (hz2 : i0.bytes = 24) (v : Value) (hown : X.ownsRow base 107 3 v 0 [])
    (pa : Option Addr) (cap : Nat) (l : List Upd) (hl : l.length * 24 ≤ 140737488355328) (hb : base ≤ X.heap.size) (hs : UpdsSrc X pa l) :
    ∃ v' Y, (Builtin.append_ #[77, 77] ty #[v, .slice pa l.length cap]).run Try.prog X = .ok v' Y ∧ Y.ownsRow base 107 3 v' l.length (updC l) ∧ X.grownBy Y v.ownBlock := by
  cases pa with
  | none =>
    have hl0 : l = [] := by
      cases l with
      | nil => rfl
      | cons a r => obtain ⟨_, _, e, _⟩ := hs 0 (by simp); cases e
    subst hl0
    refine ⟨v, X, ?_, hown, World.grownBy.refl _ _⟩
    rcases hown.2 with ⟨rfl, _⟩ | ⟨g, c, cur, rfl, _⟩
    · simp [Builtin.append_, run_underlying Try.underlying77, sizeOf, typeInfo, hi, Builtin.lenOf, Builtin.firstCells]
    · simp [Builtin.append_, run_underlying Try.underlying77, sizeOf, typeInfo, hi, Builtin.lenOf, Builtin.firstCells, storeCells]
  | some ad =>
    obtain ⟨v', Y, hr, h2, h3, _⟩ := run_append_own (P := Try.prog) X base 77 ty 107 i0 (.agg #[.int .i64 0, .int .i64 0, .int .u32 0]) 3 24 Try.underlying77 hi hz0 hz1 hz2 rfl (by decide) v 0 [] hown ad l.length cap (updC l) (updC_len l) hs.news (updC_one l) (by unfold maxLen; omega) (by omega) hb
    exact ⟨v', Y, hr, by simpa using h2, h3⟩
theorem step_append_upd {ops : Array Oper} {o : Oper} {a : Act} {X : World} {K : Act → World → Prop} {Q : Exit → Act → World → Prop} {E : Prop} (hgd : o.guard = none) (s x : Operand)
    (ho : o.op = .call { callee := .builtin .append, args := #[s, x], argTypes := #[77, 77] }) (base : Nat) (i0 : TypeInfo) (hi : Try.prog.info? 107 = some i0) (hz0 : i0.zero = some (.agg #[.int .i64 0, .int .i64 0, .int .u32 0])) (hz1 : i0.size = 3) (hz2 : i0.bytes = 24)
    (v : Value) (hs : a.eval s = v) (hown : X.ownsRow base 107 3 v 0 []) (pa : Option Addr) (cap : Nat) (l : List Upd) (hx : a.eval x = .slice pa l.length cap) (hl : l.length * 24 ≤ 140737488355328) (hb : base ≤ X.heap.size)
    (hsrc : UpdsSrc X pa l)
    (h : ∀ v' Y, Y.ownsRow base 107 3 v' l.length (updC l) → X.grownBy Y v.ownBlock → K (a.put o.dst v') Y) :
    if Region.wanted o (yielded ops a.tmps) = true then Oper.wp Try.prog o a X K Q else E := by
  have hw : Region.wanted o (yielded ops a.tmps) = true := by simp [Region.wanted, hgd]
  rw [if_pos hw]
  obtain ⟨v', Y, hr, h2, h3⟩ := run_append_upd X base o.type i0 hi hz0 hz1 hz2 v hown pa cap l hl hb hsrc
  unfold Oper.wp execOp
  simp only [ho, resolve, invoke, builtin, Sem.run_bind, Sem.run_pure, Result.andThen_ok, List.map_toArray, List.map_cons, List.map_nil, hs, hx, hr]
  exact h v' Y h2 h3
set_option maxRecDepth 100000 in
theorem mPlay_upd (w0 w : World) (X B Y b : Nat) (d a c : Int) (pa : Option Addr) (cap : Nat) (l : List Upd) (M : Mach) (sp : Nat → Sp) (E : Cnt) (k : Nat) (pv : Nat → Value) (L : Lay) (A : YL) (h : Bo w0 w X B Y b M M sp sp pv L A) (hA : All M sp E) (hE : few E k) (hk : k ≤ 140737488355328)
    (hl : okU l) (hlen : l.length * 24 ≤ 140737488355328) (hsrc : UpdsSrc w0 pa l) :
    Calls Try.prog 37 #[.pointer (some ⟨X, 0, none⟩), .pointer (some ⟨Y, 0, none⟩), .agg #[.int .i64 3, .int .i64 d, .int .i64 a, .int .i64 c, .slice pa l.length cap]] w fun e w' => e = .returned (.bool true) ∧ MPlayed w0 w w' X B Y b pv L A ((updsV d M l).2.2, sp) := by
  obtain ⟨W, hW, hg, hs, b0, b1, b2, b3, b4⟩ := box5m w (.int .i64 3) (.int .i64 d) (.int .i64 a) (.int .i64 c) (.slice pa l.length cap)
  have H0 := hid (h.more hg)
  have HG := hid hg
  have HnB := hid (show (some w.heap.size : Option Nat) ≠ some B from fun e => by have := h.p.m.lt; cases e; omega)
  have HnL := hid (show ¬ L.foot b w.heap.size from fun e => Nat.lt_irrefl _ (h.y.lt (.inl e)))
  have HBW := hid (show B < W.heap.size from (h.more hg).p.m.lt)
  have HSr := hid hsrc
  have HT := hid (fun A (h : All A sp E) => h.okF hE)
  have HA := hid hA
  have HK := hid hk; have HL := hid hl
  have HSx := hid (hsrc.grown ((h.g.trans hg).trans ((grownBy_drew W none).trans (World.grownBy_alloc W.drew (.cells #[] 107) none))))
  obtain ⟨i0, hi, hz0, hz1, hz2⟩ := info_parts info_upd
  have Hi := hid hi; have Hz0 := hid hz0; have Hz1 := hid hz1; have Hz2 := hid hz2
  have HbA := hid (show W.heap.size ≤ (W.drew.alloc (.cells #[] 107)).heap.size by simp)
  have HLen := hid hlen
  clear h hg hA hE hk hsrc hl hi hz0 hz1 hz2 hs
  unfold MPlayed
  simp only
  go_enter Try.func37, Try.ntmps37
  go_wp2
  go_region_held3 (fun w' => w'.cell? ⟨w.heap.size, 1, none⟩ = some (.int .i64 d) ∧ w'.cell? ⟨w.heap.size, 4, none⟩ = some (.slice pa l.length cap)) (first | exact ⟨by assumption, by assumption⟩ | go_keep)
    (first
      | (go_at_call 44; refine (xUpdate X B d _ l _ M sp E _ HAo.out.p.xm HA.out HT.out (by have := HK.out; omega) HU.out HL.out (by have := HLen.out; omega)).mono ?_; rintro e w1 ⟨rfl, h1⟩; have H1 := hid (HAo.out.stepXM h1); have HC1 := hid (show Chg (xfoot B X pv) wa w1 from Chg.of h1.g fun j e => .inl (.inl (Option.some.inj e).symm)); have j1 := h1.g.cell k1 HnB.out; have j4 := h1.g.cell k4 HnB.out; clear h1)
      | (refine step_append_upd (by rfl) _ _ (by rfl) W.heap.size i0 Hi.out Hz0.out Hz1.out Hz2.out _ (by rfl) (World.ownsRow_made W.drew #[] 0 (Nat.le_refl _) (by unfold maxLen; omega) (by simp)) pa cap l (by rfl) HLen.out HbA.out HSx.out ?_; intro v' wa hown hgrow; have HAg := hid ((grownBy_drew W none).trans ((World.grownBy_alloc W.drew (.cells #[] 107) none).andThen hgrow (fun j hj => by cases hj; exact .inl (Nat.le_refl _)))); have HAo := hid (H0.out.more HAg.out); have HU := hid (own_updsAt hown HBW.out); have k1 := HAg.out.cell b1 (by simp); have k4 := HAg.out.cell b4 (by simp); clear hown hgrow))
  all_goals
    have HUi := hid (show UpdsIn w1 (L.foot b) (.slice pa l.length cap) l from ⟨_, _, rfl, fun j hj => by
      obtain ⟨g, o, e, hlt, h0, h1, h2⟩ := HSr.out j hj
      have hgr := H1.out.g
      exact ⟨g, o, e, fun hf => by have := H1.out.fary g (.inl hf); omega, hgr.cell h0 (by simp), hgr.cell h1 (by simp), hgr.cell h2 (by simp)⟩⟩)
    have hee : ∀ x : Int, (x == x) = true := fun x => by simp
    go_wp2_with (go_at_call 87; refine (yUpdate b Y d _ l _ _ M sp E _ H1.out.y.ym HA.out HT.out (by have := HK.out; omega) HUi.out HL.out (by have := HLen.out; omega)).mono ?_; rintro e w2 ⟨rfl, h2⟩; obtain ⟨L3, h3, hc3, hf3⟩ := H1.out.atYM h2; have H2 := hid h3; have HC2 := hid hc3; have HF2 := hid hf3; clear h2 h3 hc3 hf3)
    go_ret
    exact ⟨rfl, _, _, _, H2.out, foots_two (HG.out.trans HAg.out) HC1.out (fun k h => .inl h) HC2.out HF2.out⟩
/-- any call -/
theorem mPlay (w0 w : World) (X B Y b : Nat) (o : MOp) (pa : Option Addr) (cap : Nat) (M : Mach) (sp : Nat → Sp) (E : Cnt) (k : Nat) (pv : Nat → Value) (L : Lay) (A : YL) (h : Bo w0 w X B Y b M M sp sp pv L A) (hA : All M sp E) (hE : few E k) (hk : k ≤ 140737488355328)
    (hl : okU o.l) (hlen : o.l.length * 24 ≤ 140737488355328) (hsrc : UpdsSrc w0 pa o.l) :
    Calls Try.prog 37 #[.pointer (some ⟨X, 0, none⟩), .pointer (some ⟨Y, 0, none⟩), .agg #[.int .i64 o.x, .int .i64 o.d, .int .i64 o.a, .int .i64 o.c, .slice pa o.l.length cap]] w fun e w' => e = .returned (.bool true) ∧ MPlayed w0 w w' X B Y b pv L A (playM o (M, sp)) := by
  obtain ⟨x, d, a, c, l⟩ := o
  unfold playM
  simp only
  by_cases h0 : x = 0
  · subst h0; rw [if_pos rfl]; exact mPlay_pin w0 w X B Y b d a c _ M sp E k pv L A h hA hE hk
  rw [if_neg h0]
  by_cases h1 : x = 1
  · subst h1; rw [if_pos rfl]; exact mPlay_unpin w0 w X B Y b d a c _ M sp E k pv L A h hA hE hk
  rw [if_neg h1]
  by_cases h2 : x = 2
  · subst h2; rw [if_pos rfl]; exact mPlay_base w0 w X B Y b d a c _ M sp E k pv L A h hA hE hk
  rw [if_neg h2]
  by_cases h3 : x = 3
  · subst h3; rw [if_pos rfl]; exact mPlay_upd w0 w X B Y b d a c pa cap l M sp E k pv L A h hA hE hk hl hlen hsrc
  rw [if_neg h3]
  by_cases h4 : x = 4
  · subst h4; rw [if_pos rfl]; exact mPlay_drop w0 w X B Y b d a c _ M sp E k pv L A h hA hE hk
  rw [if_neg h4]
  by_cases h5 : x = 5
  · subst h5; rw [if_pos rfl]; exact mPlay_get w0 w X B Y b d a c _ M sp E k pv L A h hA hE hk
  rw [if_neg h5]
  exact mPlay_free w0 w X B Y b x d a c _ M sp E k pv L A h hA hE hk h0 h1 h2 h3 h4 h5
end Go.Proofs.Ytemeihamkdpmoaa

/-
  What came in, opened: entries ahead of all, a script of calls of law05. No walk here.
-/
set_option linter.unusedSimpArgs false
set_option linter.unusedVariables false
namespace Go.Proofs.Ytemeihamkdpmoaa
open Go.RowKit Go.ChangeShapes Go.WideShapes Go.ChangeAt Go.Deep
set_option maxHeartbeats 1000000

section
variable {H : Type} {enc : TypeId × Value → H} {w : World}
theorem u32_nat5 {n : Int} (h : (Lit.int .u32 n).wf = true) : ∃ k : Nat, n = k ∧ k < 4294967296 := by
  simp only [Lit.wf, Bool.and_eq_true, decide_eq_true_eq] at h
  have h1 : IntKind.u32.min = 0 := rfl
  have h2 : IntKind.u32.max = 4294967295 := rfl
  rw [h1, h2] at h
  exact ⟨n.toNat, by omega, by omega⟩
theorem mexists_list {S : Type} (P : Nat → S → Prop) : ∀ n, (∀ i, i < n → ∃ s, P i s) → ∃ ss : List S, ss.length = n ∧ ∀ j (h : j < ss.length), P j ss[j]
  | 0, _ => ⟨[], rfl, fun j h => by simp at h⟩
  | n + 1, h => by
    obtain ⟨ss, hl, hs⟩ := mexists_list P n fun i hi => h i (by omega)
    obtain ⟨s, hs'⟩ := h n (by omega)
    refine ⟨ss ++ [s], by simp [hl], fun j hj => ?_⟩
    simp only [List.length_append, List.length_cons, List.length_nil] at hj
    by_cases hjn : j < ss.length
    · rw [List.getElem_append_left hjn]; exact hs j hjn
    · obtain rfl : j = ss.length := by omega
      rw [List.getElem_append_right (by omega)]
      simpa [hl] using hs'
theorem mput_flat : Flat.isFlat Try.prog 151 [3, 3, 44] = true := by kernel_rfl
theorem open_mputs {v : Value} (h : Flat.Came enc Try.prog w 0 (fun _ => true) true 70 v) : ∃ pa ps cap, v = .slice pa (List.length (α := PutV) ps) cap ∧ ps.length ≤ 9223372036854775807 ∧ PutsIn w pa ps := by
  obtain ⟨p, len, cap, rfl, _, hl, hs⟩ := Flat.open_flats Try.underlying70 mput_flat (by simp) h
  obtain ⟨ss, hss, hp⟩ := mexists_list (fun (j : Nat) (s : PutV) => ∃ sb off, p = some ⟨sb, off, none⟩ ∧ sb < w.heap.size ∧
      w.cell? ⟨sb, off + j * 3, none⟩ = some (.int .i64 s.t) ∧ w.cell? ⟨sb, off + j * 3 + 1, none⟩ = some (.int .i64 s.i) ∧ w.cell? ⟨sb, off + j * 3 + 2, none⟩ = some (.int .u32 s.v) ∧ s.v < 4294967296) len (fun i hi => by
    obtain ⟨b, off, rfl, hb, hc⟩ := hs i hi
    obtain ⟨v0, c0, k0⟩ := hc 0 _ rfl
    obtain ⟨v1, c1, k1⟩ := hc 1 _ rfl
    obtain ⟨v2, c2, k2⟩ := hc 2 _ rfl
    obtain ⟨x, rfl, _⟩ := k0.int Try.underlying3
    obtain ⟨a, rfl, _⟩ := k1.int Try.underlying3
    obtain ⟨n, rfl, wf⟩ := k2.int Try.underlying44
    obtain ⟨k, rfl, hk⟩ := u32_nat5 wf
    exact ⟨⟨x, a, k⟩, b, off, rfl, hb, c0, c1, c2, hk⟩)
  subst hss
  exact ⟨p, ss, cap, rfl, by unfold maxLen at hl; omega, hp⟩
theorem mupd_flat : Flat.isFlat Try.prog 107 [3, 3, 44] = true := by kernel_rfl
theorem open_upds {v : Value} (h : Flat.Came enc Try.prog w 0 (fun _ => true) true 77 v) : ∃ pa l cap, v = .slice pa (List.length (α := Upd) l) cap ∧ l.length * 24 ≤ 140737488355328 ∧ okU l ∧ UpdsSrc w pa l := by
  obtain ⟨p, len, cap, rfl, hr, _, hs⟩ := Flat.open_flats Try.underlying77 mupd_flat (by simp) h
  have hb : Try.prog.bytesOf 107 = 24 := by kernel_rfl
  rw [hb] at hr
  unfold reachBytes at hr
  obtain ⟨ss, hss, hp⟩ := mexists_list (fun (j : Nat) (s : Upd) => s.2.2 < 4294967296 ∧ ∃ g o, p = some ⟨g, o, none⟩ ∧ g < w.heap.size ∧ w.cell? ⟨g, o + j * 3, none⟩ = some (.int .i64 s.1) ∧ w.cell? ⟨g, o + j * 3 + 1, none⟩ = some (.int .i64 s.2.1) ∧ w.cell? ⟨g, o + j * 3 + 2, none⟩ = some (.int .u32 s.2.2)) len (fun i hi => by
    obtain ⟨b, off, rfl, hb, hc⟩ := hs i hi
    obtain ⟨v0, c0, k0⟩ := hc 0 _ rfl
    obtain ⟨v1, c1, k1⟩ := hc 1 _ rfl
    obtain ⟨v2, c2, k2⟩ := hc 2 _ rfl
    obtain ⟨x, rfl, _⟩ := k0.int Try.underlying3
    obtain ⟨a, rfl, _⟩ := k1.int Try.underlying3
    obtain ⟨n, rfl, wf⟩ := k2.int Try.underlying44
    obtain ⟨k, rfl, hk⟩ := u32_nat5 wf
    exact ⟨⟨x, a, k⟩, hk, b, off, rfl, hb, c0, c1, c2⟩)
  subst hss
  refine ⟨p, ss, cap, rfl, by omega, fun u hu => ?_, fun j hj => (hp j hj).2⟩
  obtain ⟨j, hj, rfl⟩ := List.getElem_of_mem hu
  exact (hp j hj).1
/-- a call as it lies in memory -/
structure MOpR where
  o : MOp
  pa : Option Addr
  cap : Nat
structure MOpR.At (w : World) (p : Option Addr) (j : Nat) (r : MOpR) : Prop where
  at' : ∃ b off, p = some ⟨b, off, none⟩ ∧ b < w.heap.size ∧ w.cell? ⟨b, off + j * 5, none⟩ = some (.int .i64 r.o.x) ∧ w.cell? ⟨b, off + j * 5 + 1, none⟩ = some (.int .i64 r.o.d) ∧ w.cell? ⟨b, off + j * 5 + 2, none⟩ = some (.int .i64 r.o.a) ∧ w.cell? ⟨b, off + j * 5 + 3, none⟩ = some (.int .i64 r.o.c) ∧ w.cell? ⟨b, off + j * 5 + 4, none⟩ = some (.slice r.pa r.o.l.length r.cap)
  ok : okU r.o.l
  len : r.o.l.length * 24 ≤ 140737488355328
  src : UpdsSrc w r.pa r.o.l
def MOpsIn (w : World) (p : Option Addr) (os : List MOpR) : Prop := ∀ j (hj : j < os.length), os[j].At w p j
theorem mop_flat : Flat.isFlat Try.prog 79 [3, 3, 3, 3, 77] = true := by kernel_rfl
theorem open_mops {v : Value} (h : Flat.Came enc Try.prog w 0 (fun _ => true) true 71 v) : ∃ p os cap, v = .slice p (List.length (α := MOpR) os) cap ∧ os.length ≤ 140737488355328 ∧ MOpsIn w p os := by
  obtain ⟨p, len, cap, rfl, hr, hl, hs⟩ := Flat.open_flats Try.underlying71 mop_flat (by simp) h
  have hb : Try.prog.bytesOf 79 = 56 := by kernel_rfl
  rw [hb] at hr
  unfold reachBytes at hr
  obtain ⟨ss, hss, hp⟩ := mexists_list (fun (j : Nat) (s : MOpR) => s.At w p j) len (fun i hi => by
    obtain ⟨b, off, rfl, hb, hc⟩ := hs i hi
    obtain ⟨v0, c0, k0⟩ := hc 0 _ rfl
    obtain ⟨v1, c1, k1⟩ := hc 1 _ rfl
    obtain ⟨v2, c2, k2⟩ := hc 2 _ rfl
    obtain ⟨v3, c3, k3⟩ := hc 3 _ rfl
    obtain ⟨v4, c4, k4⟩ := hc 4 _ rfl
    obtain ⟨x, rfl, _⟩ := k0.int Try.underlying3
    obtain ⟨d, rfl, _⟩ := k1.int Try.underlying3
    obtain ⟨a, rfl, _⟩ := k2.int Try.underlying3
    obtain ⟨c, rfl, _⟩ := k3.int Try.underlying3
    obtain ⟨pa, l, cp, rfl, hlen, hok, hsrc⟩ := open_upds k4
    exact ⟨⟨⟨x, d, a, c, l⟩, pa, cp⟩, ⟨b, off, rfl, hb, c0, c1, c2, c3, c4⟩, hok, hlen, hsrc⟩)
  subst hss
  exact ⟨p, ss, cap, rfl, by omega, hp⟩
end
end Go.Proofs.Ytemeihamkdpmoaa

/-
  Bytes as strings. No walk here.
-/
set_option linter.unusedSimpArgs false
set_option linter.unusedVariables false
namespace Go.Proofs.Ytemeihamkdpmoaa
open Go.RowKit
set_option maxHeartbeats 1000000

theorem vconv_empty (w : World) (pa : Option Addr) (cap : Nat) : (convert 31 9 (.slice pa 0 cap)).run Try.prog w = .ok (.string ⟨#[]⟩) w := by
  cases pa with
  | none => rw [run_convert_bytes_string w 31 9 5 none 0 cap Try.underlying31 Try.underlying5 Try.underlying9]; simp [Conv.bytesToString]; rfl
  | some a => exact run_convert_bytes_back w 31 9 5 a cap [] Try.underlying31 Try.underlying5 Try.underlying9 (fun j hj => by simp at hj)
theorem vconv_row (w : World) (g o n cap : Nat) (l : List UInt8) (hl : l.length = n) (hc : ∀ k, k < n → w.cell? ⟨g, o + k, none⟩ = some (.int .u8 (l.getD k 0).toNat)) :
    (convert 31 9 (.slice (some ⟨g, o, none⟩) n cap)).run Try.prog w = .ok (.string ⟨l.toArray⟩) w := by
  subst hl
  refine run_convert_bytes_back w 31 9 5 ⟨g, o, none⟩ cap l Try.underlying31 Try.underlying5 Try.underlying9 (fun j hj => ?_)
  have e : (⟨g, o, none⟩ : Addr).add j = ⟨g, o + j, none⟩ := by unfold Addr.add; split <;> simp_all
  rw [e, hc j hj]
  simp [List.getD, List.getElem?_eq_getElem hj]
theorem in_string {w : World} {l : List UInt8} {p : Option Addr} (h : InBytes w p l) (c : Nat) (W : World) (hg : w.grownBy W none) : (convert 31 9 (.slice p l.length c)).run Try.prog W = .ok (.string ⟨l.toArray⟩) W := by
  rcases h with rfl | ⟨b, o, rfl, _, hc⟩
  · exact vconv_empty W _ _
  · exact vconv_row W b o _ _ _ rfl fun k hk => hg.cell (hc k hk) (by simp)
end Go.Proofs.Ytemeihamkdpmoaa

/-
  Package tenementlaw05: same.
-/
set_option linter.unusedSimpArgs false
set_option linter.unusedVariables false
namespace Go.Proofs.Ytemeihamkdpmoaa
open Go.RowKit
set_option maxHeartbeats 2000000

set_option maxRecDepth 100000 in
theorem mSame (w0 w : World) (X B Y b : Nat) (M : Mach) (sp : Nat → Sp) (E : Cnt) (T : Int) (pv : Nat → Value) (L : Lay) (A : YL) (h : Bo w0 w X B Y b M M sp sp pv L A) (hA : All M sp E) (hok : M.ok T) :
    Calls Try.prog 38 #[.pointer (some ⟨X, 0, none⟩), .pointer (some ⟨Y, 0, none⟩)] w fun e w' => e = .returned (.bool true) ∧ w.grownBy w' none := by
  have hn1 := hok.n1; have hn2 := hok.n2
  have hnn := h.y.r.hn
  have hl2 : L.n ≤ 256 := by omega
  have HFy := hid (fun (W : World) (h : PM W B M) (k : Nat) (hk : k < L.n) => (Frame_out B k W M T h hok (by omega)))
  have HRd := hid (fun (W : World) (h : PM W B M) (k : Nat) (hk : k < L.n) => (Read_yes B k 0 256 W M T h hok (by omega) (by omega)))
  have HA := hid hA
  have H0 := hid h
  clear hnn h hA hok
  go_enter Try.func38, Try.ntmps38
  go_wp2_with (go_at_call 39; refine (xMachine X B _ H0.out.p.c0).mono ?_; rintro e w7 ⟨rfl, rfl⟩)
  go_loopw [6] (fun i wr => ∃ k : Nat, i = .int .i64 k ∧ k ≤ L.n ∧ Bo w0 wr X B Y b M M sp sp pv L A ∧ w.grownBy wr none) (fun i _ => L.n - (intOf i).toNat)
  case atStart => exact ⟨0, rfl, by omega, H0.out, World.grownBy.refl _ _⟩
  case round =>
    clear H0
    obtain ⟨k, rfl, hk, hP, hg⟩ := hrel
    have hsF := hP.y.r.slF
    have hy0 := hP.y.y0
    have HP := hid hP; have HG := hid hg
    clear hP hg
    have hk0 : (0 : Int) ≤ k := by omega
    by_cases hlt : k < L.n
    · have hlt' : (k : Int) < L.n := by omega
      go_upto_region 7 with (first
        | (go_at_call 50; refine (HFy.out _ HP.out.p.m k hlt).mono ?_; rintro e w3 ⟨rfl, g3⟩; have HP3 := hid ((HP.out.more g3).more (World.grownBy_alloc w3 (.cells #[.int .i64 (M.fr k).owner, .int .i64 (M.fr k).ty, .int .i64 (M.fr k).cnt, .int .i64 (M.fr k).tot] 93) none)); have HG3 := hid ((HG.out.trans g3).trans (World.grownBy_alloc w3 (.cells #[.int .i64 (M.fr k).owner, .int .i64 (M.fr k).ty, .int .i64 (M.fr k).cnt, .int .i64 (M.fr k).tot] 93) none)); clear g3)
        | (go_at_call 52; refine (HRd.out _ HP3.out.p.m k hlt).mono ?_; rintro e w4 ⟨v4, rfl, hnew⟩; obtain ⟨p4, rfl, hp4, hc4, g4⟩ := newBytes_pos hnew (by rw [part_len]; omega); have HP4 := hid (HP3.out.more g4); have HG4 := hid (HG3.out.trans g4); rw [part_len] at hc4 ⊢; have HC4 := hid hc4; clear hnew hc4))
      clear hsF hy0 hp4
      have f0 := g4.cell (a := ⟨w3.heap.size, 0, none⟩) (v := .int .i64 (M.fr k).owner) (by simp [go_sem]) (by simp)
      have f1 := g4.cell (a := ⟨w3.heap.size, 1, none⟩) (v := .int .i64 (M.fr k).ty) (by simp [go_sem]) (by simp)
      have f2 := g4.cell (a := ⟨w3.heap.size, 2, none⟩) (v := .int .i64 (M.fr k).cnt) (by simp [go_sem]) (by simp)
      have f3 := g4.cell (a := ⟨w3.heap.size, 3, none⟩) (v := .int .i64 (M.fr k).tot) (by simp [go_sem]) (by simp)
      have ey := HP4.out.y.y0
      have e0 := HP4.out.y.r.slF
      have e1 := HP4.out.y.r.slB
      have e2 := HP4.out.y.r.owner hlt
      have e3 := HP4.out.y.r.ty hlt
      have e4 := HP4.out.y.r.cnt hlt
      have e5 := HP4.out.y.r.tot hlt
      have e6 := HP4.out.y.r.sl hlt
      have kc1 : ∀ n : Nat, (convert 31 9 (.slice (some ⟨p4, 0, none⟩) 256 256)).run Try.prog (w4.drewN n) = .ok (.string ⟨((M.fr k).part 0 256).toArray⟩) (w4.drewN n) := fun n =>
        vconv_row _ _ 0 256 _ _ (part_len _ _ _) fun q hq => by rw [Nat.zero_add]; exact (grownBy_drewN w4 n none).cell (HC4.out q hq) (by simp)
      have kc2 : ∀ n : Nat, (convert 31 9 (.slice (some ⟨L.g k, 0, none⟩) 256 (L.cg k))).run Try.prog (w4.drewN n) = .ok (.string ⟨((M.fr k).part 0 256).toArray⟩) (w4.drewN n) := fun n =>
        vconv_row _ _ 0 256 _ _ (part_len _ _ _) fun q hq => by rw [part_get _ _ _ _ hq]; simpa using (HP4.out.y.r.byte hlt hq)
      clear g4
      go_quiet (fail)
      clear f0 f1 f2 f3 e0 e1 e2 e3 e4 e5 e6 kc1 kc2 ey
      go_wp2
      go_roundw
      case rel => exact ⟨k + 1, by go_num, by omega, HP4.out.more (grownBy_drewN w4 nq none), HG4.out.trans (grownBy_drewN w4 nq none)⟩
      case measure => simp [intOf]; omega
    · have hge : (L.n : Int) ≤ k := by omega
      obtain rfl : k = L.n := by omega
      clear hk hlt
      go_wp2
      clear hsF hy0
      obtain ⟨wo, hwo⟩ : ∃ x, x = wr := ⟨_, rfl⟩
      subst hwo
      go_loopw [11] (fun i wr => ∃ d : Nat, i = .int .i64 d ∧ d ≤ 8 ∧ Bo w0 wr X B Y b M M sp sp pv L A ∧ w.grownBy wr none) (fun i _ => 8 - (intOf i).toNat)
      case atStart => exact ⟨0, rfl, by omega, HP.out, HG.out⟩
      case round =>
        clear HP HG
        obtain ⟨d, rfl, hd, hP, hg⟩ := hrel
        have HP := hid hP; have HG := hid hg
        clear hP hg
        have hd0 : (0 : Int) ≤ d := by omega
        by_cases hd8 : d < 8
        · have hd8' : (d : Int) < 8 := by omega
          have hlen := HA.out.len hd8
          obtain ⟨pa, ca, hpa⟩ := (HP.out.y.pin d hd8).slice
          have HPA := hid hpa
          clear hpa
          obtain ⟨l, hl⟩ : ∃ l, (sp d).pins = l := ⟨_, rfl⟩
          obtain ⟨rt, hrt⟩ : ∃ r, (sp d).root = r := ⟨_, rfl⟩
          have HLl := hid hl; have HRt := hid hrt
          rw [hl] at hlen HPA
          clear hl hrt
          go_wp2_with (go_at_call 54; refine (xPins_yes X B d _ M sp pv hd8 HP.out.p (by rw [HLl.out]; omega)).mono ?_; rintro e w5 ⟨v5, rfl, hp5, g5⟩; rw [HLl.out] at hp5; obtain ⟨p5, c5, rfl⟩ := hp5.slice; have HPi := hid hp5; have HP5 := hid (HP.out.more g5); have HG5 := hid (HG.out.trans g5); clear hp5 g5)
          have y1 := HP5.out.y.y1; have y2 := HP5.out.y.y2
          have ypin := HP5.out.y.pins hd8; have yrt := HP5.out.y.root hd8
          rw [HPA.out] at ypin
          rw [HRt.out] at yrt
          have hb1 : (rt != rt) = false := by simp
          have hb2 : ((l.length : Int) != (l.length : Int)) = false := by simp
          go_quiet (first | (go_at_call 51; refine Calls.quiet_of_same (v := .int .i64 rt) ((xRoot_yes X B d _ M sp pv hd8 (HP5.out.more (grownBy_drewN _ _ _)).p).mono ?_); rw [HRt.out]; rintro e w' ⟨rfl, rfl⟩; exact ⟨rfl, rfl⟩))
          clear y1 y2 ypin yrt
          go_wp2
          have HPi2 := hid (HPi.out.grown (grownBy_drewN w5 nq none) (fun g _ e => by cases e))
          have HP6 := hid (HP5.out.more (grownBy_drewN w5 nq none)); have HG6 := hid (HG5.out.trans (grownBy_drewN w5 nq none))
          clear HPi HP5 HG5 HP HG hb1 hb2
          obtain ⟨w6, hw6⟩ : ∃ x, w5.drewN nq = x := ⟨_, rfl⟩
          rw [hw6] at HPi2 HP6 HG6
          rw [hw6]
          clear hw6
          go_loopw [13] (fun i wr => ∃ j : Nat, i = .int .i64 j ∧ j ≤ l.length ∧ Bo w0 wr X B Y b M M sp sp pv L A ∧ PinsAt wr (.slice p5 l.length c5) l ∧ w.grownBy wr none) (fun i _ => l.length - (intOf i).toNat)
          case atStart => exact ⟨0, rfl, by omega, HP6.out, HPi2.out, HG6.out⟩
          case round =>
            clear HP6 HPi2 HG6
            obtain ⟨j, rfl, hj, hP, hpi, hg⟩ := hrel
            have HP := hid hP; have HG := hid hg; have HPi := hid hpi
            clear hP hg hpi
            have hj0 : (0 : Int) ≤ j := by omega
            by_cases hjl : j < l.length
            · have hjl' : (j : Int) < l.length := by omega
              have y1 := HP.out.y.y1
              have ypin := HP.out.y.pins hd8
              rw [HPA.out] at ypin
              obtain ⟨g, hg5, a0, a1⟩ := HPi.out.at hjl
              have hpy := HP.out.y.pin d hd8
              rw [HPA.out, HLl.out] at hpy
              obtain ⟨g', hg5', a2, a3⟩ := hpy.at hjl
              subst hg5 hg5'
              clear hpy
              generalize l[j] = q at a0 a1 a2 a3
              obtain ⟨qa, qb⟩ := q
              simp only at a0 a1 a2 a3
              go_wp2
              go_quiet (fail)
              clear y1 ypin a0 a1 a2 a3
              go_wp2
              go_roundw
              case rel => exact ⟨j + 1, by go_num, by omega, HP.out.more (grownBy_drewN _ _ none), HPi.out.grown (grownBy_drewN _ _ none) (fun g _ e => by cases e), HG.out.trans (grownBy_drewN _ _ none)⟩
              case measure => simp [intOf]; omega
            · obtain rfl : j = l.length := by omega
              have hge : (l.length : Int) ≤ l.length := by omega
              go_wp2
              go_roundw
              case rel => exact ⟨d + 1, by go_num, by omega, HP.out, HG.out⟩
              case measure => simp [intOf]; omega
        · obtain rfl : d = 8 := by omega
          have hge : (8 : Int) ≤ ((8 : Nat) : Int) := by omega
          go_wp2
          go_ret
          exact ⟨rfl, HG.out⟩
end Go.Proofs.Ytemeihamkdpmoaa

/-
  Package tenementlaw05: a script, call by call.
-/
set_option linter.unusedSimpArgs false
set_option linter.unusedVariables false
namespace Go.Proofs.Ytemeihamkdpmoaa
open Go.RowKit
set_option maxHeartbeats 1000000

/-- behind the first calls -/
def runM (os : List MOpR) (s : Mach × (Nat → Sp)) : Nat → Mach × (Nat → Sp)
  | 0 => s
  | k + 1 => playM (os.getD k ⟨default, none, 0⟩).o (runM os s k)
theorem runM_succ (os : List MOpR) (s : Mach × (Nat → Sp)) (k : Nat) (h : k < os.length) : runM os s (k + 1) = playM os[k].o (runM os s k) := by
  show playM (os.getD k _).o _ = _
  simp [List.getD, List.getElem?_eq_getElem h]
/-- all that holds in the midst of a script -/
structure Run (w W : World) (X B Y b : Nat) (s : Mach × (Nat → Sp)) (k : Nat) (pv : Nat → Value) (L : Lay) (A : YL) (E : Cnt) : Prop where
  bo : Bo w W X B Y b s.1 s.1 s.2 s.2 pv L A
  all : All s.1 s.2 E
  few : few E k
theorem Run.more {w W W' : World} {X B Y b : Nat} {s : Mach × (Nat → Sp)} {k : Nat} {pv : Nat → Value} {L : Lay} {A : YL} {E : Cnt} (h : Run w W X B Y b s k pv L A E) (hg : W.grownBy W' none) : Run w W' X B Y b s k pv L A E := ⟨h.bo.more hg, h.all, h.few⟩
theorem few0 : few E0 0 := fun i => by simp [E0]
theorem mem_mop {w : World} {p : Option Addr} {os : List MOpR} (h : MOpsIn w p os) {j : Nat} (hj : j < os.length) : okU os[j].o.l := (h j hj).ok
/-- a call in the midst of a script -/
theorem Run.play {w W : World} {X B Y b : Nat} {s : Mach × (Nat → Sp)} {k : Nat} {pv : Nat → Value} {L : Lay} {A : YL} {E : Cnt} (h : Run w W X B Y b s k pv L A E) (hk : k ≤ 140737488355328) (r : MOpR) (hok : okU r.o.l) (hlen : r.o.l.length * 24 ≤ 140737488355328) (hsrc : UpdsSrc w r.pa r.o.l) :
    Calls Try.prog 37 #[.pointer (some ⟨X, 0, none⟩), .pointer (some ⟨Y, 0, none⟩), .agg #[.int .i64 r.o.x, .int .i64 r.o.d, .int .i64 r.o.a, .int .i64 r.o.c, .slice r.pa r.o.l.length r.cap]] W fun e w' => e = .returned (.bool true) ∧ ∃ pv L A E', Run w w' X B Y b (playM r.o s) (k + 1) pv L A E' ∧ (r.o.x ≠ 5 → E' = E) := by
  refine (mPlay w W X B Y b r.o r.pa r.cap s.1 s.2 E k pv L A h.bo h.all h.few hk hok hlen hsrc).mono fun e w' ⟨he, pv', L', A', hb, _⟩ => ⟨he, pv', L', A', ?_⟩
  obtain ⟨E', h1, h2, h3⟩ := h.all.play (o := r.o) hok h.few
  exact ⟨E', ⟨hb, h1, h2⟩, h3⟩
end Go.Proofs.Ytemeihamkdpmoaa

/-
  Package tenementlaw05: how many frames there are, behind any calls. No walk here.
-/
set_option linter.unusedSimpArgs false
set_option linter.unusedVariables false
namespace Go.Proofs.Ytemeihamkdpmoaa
open Go.RowKit
set_option maxHeartbeats 1000000

theorem dropM_n (l : List (Int × Int)) : ∀ M : Mach, (dropM M l).n = M.n := by
  induction l with
  | nil => intro M; rfl
  | cons p l ih => intro M; exact (ih _).trans (unrefT_same _ _ _).n
theorem baseV_n (M : Mach) (sp : Nat → Sp) (o i : Int) : (baseV M sp o i).2.1.n = M.n := by
  unfold baseV
  split
  · rfl
  split
  · exact (dropRoot_same _ _).n
  split
  · rfl
  · exact (dropRoot_same _ _).n.trans (tabG_same lvl2 _ _ _).n
theorem dropV_n (M : Mach) (sp : Nat → Sp) (o : Int) : (dropV M sp o).2.1.n = M.n := by
  unfold dropV
  split
  · rfl
  · exact (baseV_n _ _ _ _).trans (dropM_n _ _)
theorem updsV_n (o : Int) : ∀ (l : List Upd) (M : Mach), (updsV o M l).2.2.n = M.n
  | [], _ => rfl
  | u :: l, M => by
    unfold updsV
    split
    · rfl
    · exact (updsV_n o l _).trans (updV_own _ _ _ _ _).n
theorem free_n' (M : Mach) (i : Int) : (M.free i).2.n = M.n := by unfold Mach.free; (repeat' split) <;> rfl
theorem playM_n (o : MOp) (s : Mach × (Nat → Sp)) : (playM o s).1.n = s.1.n := by
  unfold playM
  split
  · unfold pinV
    (repeat' split)
    · rfl
    · rfl
    · rfl
    · exact (refT_same _ _ _ _).n
  split
  · unfold unpinV
    (repeat' split)
    · rfl
    · rfl
    · exact (unrefT_same _ _ _).n
  split
  · exact baseV_n _ _ _ _
  split
  · exact updsV_n _ _ _
  split
  · exact dropV_n _ _ _
  split
  · exact Mach.get_vn _ _ _ _
  · exact free_n' _ _
theorem runM_n (os : List MOpR) (s : Mach × (Nat → Sp)) (k : Nat) : (runM os s k).1.n = s.1.n := by
  induction k with
  | zero => rfl
  | succ k ih => exact (playM_n _ _).trans ih
theorem dropsV_n (M : Mach) (sp : Nat → Sp) (k : Nat) : (dropsV M sp k).1.n = M.n := by
  induction k with
  | zero => rfl
  | succ k ih => exact (dropV_n _ _ _).trans ih
end Go.Proofs.Ytemeihamkdpmoaa

/-
  Package tenementlaw05: two sets of both sides at once.
-/
set_option linter.unusedSimpArgs false
set_option linter.unusedVariables false
namespace Go.Proofs.Ytemeihamkdpmoaa
open Go.RowKit
set_option maxHeartbeats 1000000

section
variable {w w1 W W' : World} {X B Y b U C V c : Nat} {M M' : Mach} {sp sp' : Nat → Sp} {s t : Mach × (Nat → Sp)} {k m : Nat} {pv pv2 : Nat → Value} {L L2 : Lay} {A A2 : YL} {E E2 : Cnt}
theorem Bo.weaken (h : Bo w1 W X B Y b M M' sp sp' pv L A) (hg : w.grownBy w1 none) : Bo w W X B Y b M M' sp sp' pv L A :=
  ⟨h.p, h.y, fun k hk => Nat.le_trans hg.size (h.farp k hk), fun k hk => Nat.le_trans hg.size (h.fary k hk), h.apart, hg.trans h.g⟩
theorem Bo.far (h : Bo w W X B Y b M M' sp sp' pv L A) : ∀ k, foots B X Y b pv L A k → w.heap.size ≤ k := fun k hk => hk.elim (h.farp k) (h.fary k)
theorem Bo.lt (h : Bo w W X B Y b M M' sp sp' pv L A) : ∀ k, foots B X Y b pv L A k → k < W.heap.size := fun k hk => hk.elim h.p.lt h.y.lt
theorem Bo.other (h : Bo w W X B Y b M M' sp sp' pv L A) {S : Nat → Prop} (hc : Chg S W W') (hS : ∀ k, S k → ¬ foots B X Y b pv L A k) (hfar : ∀ k, S k → w.heap.size ≤ k) : Bo w W' X B Y b M M' sp sp' pv L A :=
  ⟨h.p.chg hc fun k hk hS' => hS k hS' (.inl hk), h.y.chg hc fun k hk hS' => hS k hS' (.inr hk), h.farp, h.fary, h.apart, hc.grown h.g hfar⟩
theorem Run.playF (h : Run w W X B Y b s k pv L A E) (hk : k ≤ 140737488355328) (r : MOpR) (hok : okU r.o.l) (hlen : r.o.l.length * 24 ≤ 140737488355328) (hsrc : UpdsSrc w r.pa r.o.l) :
    Calls Try.prog 37 #[.pointer (some ⟨X, 0, none⟩), .pointer (some ⟨Y, 0, none⟩), .agg #[.int .i64 r.o.x, .int .i64 r.o.d, .int .i64 r.o.a, .int .i64 r.o.c, .slice r.pa r.o.l.length r.cap]] W fun e w' => e = .returned (.bool true) ∧ ∃ pv' L' A' E', Run w w' X B Y b (playM r.o s) (k + 1) pv' L' A' E' ∧ Framed W w' B X Y b pv L A pv' L' A' := by
  refine (mPlay w W X B Y b r.o r.pa r.cap s.1 s.2 E k pv L A h.bo h.all h.few hk hok hlen hsrc).mono fun e w' ⟨he, pv', L', A', hb, hf⟩ => ⟨he, pv', L', A', ?_⟩
  obtain ⟨E', h1, h2, h3⟩ := h.all.play (o := r.o) hok h.few
  exact ⟨E', ⟨hb, h1, h2⟩, hf⟩
/-- two sets of both sides -/
structure Two (w W : World) (X B Y b U C V c : Nat) (s t : Mach × (Nat → Sp)) (k m : Nat) (pv : Nat → Value) (L : Lay) (A : YL) (E : Cnt) (pv2 : Nat → Value) (L2 : Lay) (A2 : YL) (E2 : Cnt) : Prop where
  p : Run w W X B Y b s k pv L A E
  q : Run w W U C V c t m pv2 L2 A2 E2
  ap : ∀ i, foots B X Y b pv L A i → ¬ foots C U V c pv2 L2 A2 i
theorem Two.swap (h : Two w W X B Y b U C V c s t k m pv L A E pv2 L2 A2 E2) : Two w W U C V c X B Y b t s m k pv2 L2 A2 E2 pv L A E := ⟨h.q, h.p, fun i h1 h2 => h.ap i h2 h1⟩
theorem Two.more (h : Two w W X B Y b U C V c s t k m pv L A E pv2 L2 A2 E2) (hg : W.grownBy W' none) : Two w W' X B Y b U C V c s t k m pv L A E pv2 L2 A2 E2 := ⟨h.p.more hg, h.q.more hg, h.ap⟩
theorem Two.play (h : Two w W X B Y b U C V c s t k m pv L A E pv2 L2 A2 E2) (hk : k ≤ 140737488355328) (r : MOpR) (hok : okU r.o.l) (hlen : r.o.l.length * 24 ≤ 140737488355328) (hsrc : UpdsSrc w r.pa r.o.l) :
    Calls Try.prog 37 #[.pointer (some ⟨X, 0, none⟩), .pointer (some ⟨Y, 0, none⟩), .agg #[.int .i64 r.o.x, .int .i64 r.o.d, .int .i64 r.o.a, .int .i64 r.o.c, .slice r.pa r.o.l.length r.cap]] W fun e w' => e = .returned (.bool true) ∧ ∃ pv' L' A' E', Two w w' X B Y b U C V c (playM r.o s) t (k + 1) m pv' L' A' E' pv2 L2 A2 E2 := by
  refine (h.p.playF hk r hok hlen hsrc).mono fun e w' ⟨he, pv', L', A', E', hr, hf⟩ => ⟨he, pv', L', A', E', hr, ⟨h.q.bo.other hf.1 h.ap h.p.bo.far, h.q.all, h.q.few⟩, fun i hi hj => ?_⟩
  rcases hf.2 i hi with e | e
  · exact h.ap i e hj
  · have := h.q.bo.lt i hj; omega
/-- the program's sides alone -/
structure Pair2 (w W : World) (X B U C : Nat) (M N : Mach) (sp sq : Nat → Sp) (pv pv2 : Nat → Value) : Prop where
  p : PS W B X M sp pv
  q : PS W C U N sq pv2
  ap : ∀ i, xfoot B X pv i → ¬ xfoot C U pv2 i
  farp : ∀ i, xfoot B X pv i → w.heap.size ≤ i
  farq : ∀ i, xfoot C U pv2 i → w.heap.size ≤ i
  g : w.grownBy W none
theorem Two.pair (h : Two w W X B Y b U C V c s t k m pv L A E pv2 L2 A2 E2) : Pair2 w W X B U C s.1 t.1 s.2 t.2 pv pv2 :=
  ⟨h.p.bo.p, h.q.bo.p, fun i h1 h2 => h.ap i (.inl h1) (.inl h2), h.p.bo.farp, h.q.bo.farp, h.p.bo.g⟩
end
section
variable {w W W' : World} {X B U C : Nat} {M N M1 : Mach} {sp sq : Nat → Sp} {pv pv2 : Nat → Value}
theorem Pair2.swap (h : Pair2 w W X B U C M N sp sq pv pv2) : Pair2 w W U C X B N M sq sp pv2 pv := ⟨h.q, h.p, fun i h1 h2 => h.ap i h2 h1, h.farq, h.farp, h.g⟩
theorem Pair2.more (h : Pair2 w W X B U C M N sp sq pv pv2) (hg : W.grownBy W' none) : Pair2 w W' X B U C M N sp sq pv pv2 := ⟨h.p.grown hg, h.q.grown hg, h.ap, h.farp, h.farq, h.g.trans hg⟩
theorem Pair2.stepP (h : Pair2 w W X B U C M N sp sq pv pv2) (hx : XM W W' B X M1) : Pair2 w W' X B U C M1 N sp sq pv pv2 := by
  have hc : Chg (fun k => k = B) W W' := Chg.of hx.g fun j e => .inl (Option.some.inj e).symm
  exact ⟨h.p.core hx, h.q.chg hc fun i hi e => h.ap i (.inl e) hi, h.ap, h.farp, h.farq, hc.grown h.g fun i e => h.farp i (.inl e)⟩
end
/-- a batch cut to one change -/
theorem UpdsSrc.updsAt {w W : World} {pa : Option Addr} {l : List Upd} (h : UpdsSrc w pa l) (hg : w.grownBy W none) {B : Nat} (hB : w.heap.size ≤ B) (cap : Nat) : UpdsAt W B (.slice pa l.length cap) l :=
  ⟨_, _, rfl, fun j hj => by
    obtain ⟨g, o, e, hlt, h0, h1, h2⟩ := h j hj
    exact ⟨g, o, e, by omega, hg.cell h0 (by simp), hg.cell h1 (by simp), hg.cell h2 (by simp)⟩⟩
theorem UpdsSrc.one {w W : World} {g o : Nat} {l : List Upd} (h : UpdsSrc w (some ⟨g, o, none⟩) l) (hg : w.grownBy W none) {B : Nat} (hB : w.heap.size ≤ B) (cap : Nat) {j : Nat} (hj : j < l.length) : UpdsAt W B (.slice (some ⟨g, o + j * 3, none⟩) 1 cap) [l[j]] :=
  ⟨_, _, rfl, fun i hi => by
    obtain rfl : i = 0 := by simpa using hi
    obtain ⟨g', o', e, hlt, h0, h1, h2⟩ := h j hj
    cases e
    exact ⟨g, o + j * 3, rfl, by omega, by simpa using hg.cell h0 (by simp), by simpa using hg.cell h1 (by simp), by simpa using hg.cell h2 (by simp)⟩⟩
theorem updsV_one (o : Int) (M : Mach) (u : Upd) : updsV o M [u] = if (updV M o u.1 u.2.1 u.2.2).1 ≠ 0 then (0, (updV M o u.1 u.2.1 u.2.2).1, M) else (1, 0, (updV M o u.1 u.2.1 u.2.2).2) := by
  unfold updsV
  split
  · rfl
  · rfl
end Go.Proofs.Ytemeihamkdpmoaa
