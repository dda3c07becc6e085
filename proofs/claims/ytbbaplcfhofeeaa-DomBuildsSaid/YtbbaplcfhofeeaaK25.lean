/-
  Package dom: build makes a domain.
-/
import Derived.Test.YtbbaplcfhofeeaaK24
import Derived.Test.YtbbaplcfhofeeaaK11
import Derived.Defers
import Derived.Recover
import Derived.BigQuiet
import Derived.Deep.QuietTactic
set_option linter.unusedSimpArgs false
set_option linter.unusedVariables false
namespace Go.Proofs.Ytbbaplcfhofeeaa.Dm
open Go.RowKit
set_option maxHeartbeats 4000000

theorem frozen_chg {S : Nat → Prop} {w w' : World} (h : Chg S w w') {a : Addr} (hl : a.block < w.heap.size) (hb : ¬ S a.block) : w'.frozen? a = w.frozen? a := by
  unfold World.frozen?
  rw [h.block _ hl hb]
theorem Base_of (X B : Nat) (o i : Int) (w : World) (M : Mach) (T : Int) (sp : Nat → Sp) (E : Cnt) (pv : Nat → Value) (h : PS w B X M sp pv) (hA : All M sp E) (hok : M.ok T) (hT : T + 20000 < 4611686018427387904) :
    Calls Try.prog 32 #[.pointer (some ⟨X, 0, none⟩), .int .i64 o, .int .i64 i] w fun e w' => e = .returned (.int .i64 (baseV M sp o i).1) ∧ XL w w' B X pv (baseV M sp o i).2.1 (baseV M sp o i).2.2 := by
  refine xBase X B o i w M T _ sp pv h hok hT hA.inv fun e he hr => ?_
  have hq := (hA.sp e he).root hr
  refine ⟨Mach.is_iff.2 hq, outF (upS sp e { sp e with root := -1 }) E, ?_⟩
  have := outF_change (sp := sp) (E := E) (d := e) (s' := { sp e with root := -1 }) he (rootK (sp e).root) [] (fun x => by
    simp only [spK, List.count_append, rootK]
    simp)
  rw [Cnt.plus_nil] at this
  rw [← this, show rootK (sp e).root = [((sp e).root.toNat, 3)] from if_neg hr, Cnt.plus_one]
/-- the variables that the deferred function holds -/
structure BW (w : World) (b H : Nat) (d : Int) (e : Int) (fv : Value) (j : Bool) : Prop where
  h : w.cell? ⟨b, 0, none⟩ = some (.pointer (some ⟨H, 0, none⟩))
  d : w.cell? ⟨b + 1, 0, none⟩ = some (.int .i64 d)
  e : w.cell? ⟨b + 1 + 1, 0, none⟩ = some (.int .i64 e)
  f : w.cell? ⟨b + 1 + 1 + 1, 0, none⟩ = some fv
  j : w.cell? ⟨b + 1 + 1 + 1 + 1, 0, none⟩ = some (.bool j)
  ze : w.frozen? ⟨b + 1 + 1, 0, none⟩ = false
  zf : w.frozen? ⟨b + 1 + 1 + 1, 0, none⟩ = false
  zj : w.frozen? ⟨b + 1 + 1 + 1 + 1, 0, none⟩ = false
section
variable {w w' : World} {b H : Nat} {d e : Int} {fv : Value} {j : Bool}
theorem BW.lt (h : BW w b H d e fv j) : b + 5 ≤ w.heap.size := by have := World.block_lt_of_cell? _ _ h.j; simp only at this; omega
theorem BW.chg {S : Nat → Prop} (h : BW w b H d e fv j) (hc : Chg S w w') (hS : ∀ k, S k → k < b ∨ b + 5 ≤ k) : BW w' b H d e fv j := by
  have hl := h.lt
  have n : ∀ q, b ≤ q → q < b + 5 → ¬ S q := fun q h1 h2 h3 => by have := hS q h3; omega
  exact ⟨hc.cell h.h (n _ (by simp) (by simp)), hc.cell h.d (n _ (by simp) (by simp)), hc.cell h.e (n _ (by simp; omega) (by simp)), hc.cell h.f (n _ (by simp; omega) (by simp)), hc.cell h.j (n _ (by simp; omega) (by simp)),
    (frozen_chg hc (by simp; omega) (n _ (by simp; omega) (by simp))).trans h.ze, (frozen_chg hc (by simp; omega) (n _ (by simp; omega) (by simp))).trans h.zf, (frozen_chg hc (by simp; omega) (n _ (by simp; omega) (by simp))).trans h.zj⟩
theorem BW.grown (h : BW w b H d e fv j) {r : Option Nat} (hg : w.grownBy w' r) (hr : ∀ k, r = some k → k < b ∨ b + 5 ≤ k) : BW w' b H d e fv j := h.chg (S := fun k => r = some k) (Chg.of hg fun j e => .inl e) hr
theorem BW.sete (h : BW w b H d e fv j) (i : Int) : BW (w.setCell ⟨b + 1 + 1, 0, none⟩ (.int .i64 i)) b H d i fv j := by
  have hg := grownBy_setCell w (b + 1 + 1) 0 none (.int .i64 i)
  have hl := h.lt
  have lf := World.block_lt_of_cell? _ _ h.f
  have lj := World.block_lt_of_cell? _ _ h.j
  exact ⟨hg.cell h.h (by simp; try omega), hg.cell h.d (by simp; try omega), World.cell?_setCell_same _ _ _ h.e, hg.cell h.f (by simp; try omega), hg.cell h.j (by simp; try omega), by simpa [go_sem] using h.ze, (grown_frozen hg lf (by simp)).trans h.zf, (grown_frozen hg lj (by simp; try omega)).trans h.zj⟩
theorem BW.setf (h : BW w b H d e fv j) (v : Value) : BW (w.setCell ⟨b + 1 + 1 + 1, 0, none⟩ v) b H d e v j := by
  have hg := grownBy_setCell w (b + 1 + 1 + 1) 0 none v
  have le := World.block_lt_of_cell? _ _ h.e
  have lj := World.block_lt_of_cell? _ _ h.j
  exact ⟨hg.cell h.h (by simp; try omega), hg.cell h.d (by simp; try omega), hg.cell h.e (by simp; try omega), World.cell?_setCell_same _ _ _ h.f, hg.cell h.j (by simp; try omega), (grown_frozen hg le (by simp; try omega)).trans h.ze, by simpa [go_sem] using h.zf, (grown_frozen hg lj (by simp; try omega)).trans h.zj⟩
theorem BW.setj (h : BW w b H d e fv j) (v : Bool) : BW (w.setCell ⟨b + 1 + 1 + 1 + 1, 0, none⟩ (.bool v)) b H d e fv v := by
  have hg := grownBy_setCell w (b + 1 + 1 + 1 + 1) 0 none (.bool v)
  have le := World.block_lt_of_cell? _ _ h.e
  have lf := World.block_lt_of_cell? _ _ h.f
  exact ⟨hg.cell h.h (by simp; try omega), hg.cell h.d (by simp; try omega), hg.cell h.e (by simp; try omega), hg.cell h.f (by simp; try omega), World.cell?_setCell_same _ _ _ h.j, (grown_frozen hg le (by simp; try omega)).trans h.ze, (grown_frozen hg lf (by simp; try omega)).trans h.zf, by simpa [go_sem] using h.zj⟩
end
set_option maxRecDepth 100000 in
theorem undo_ok (e x t l k : Addr) (u : FrameMode) (w : World) (he : w.cell? e = some (.int .i64 0)) :
    CallsD Try.prog 26 #[.pointer (some e), .pointer (some x), .pointer (some t), .pointer (some l), .pointer (some k)] u w fun e' u' w' => u' = u ∧ (e' = .returned (.tuple #[]) ∧ w = w') := by
  go_enter_d Try.func26, Try.ntmps26
  go_wp2
  first | go_end0 | ((try simp only [Exit.inBlock, Exit.then]); refine bodyPost_ret (results_none rfl _ _ _) rfl ?_)
  exact ⟨rfl, rfl⟩
/-- what build leaves -/
def BuildPost (w0 w' : World) (H B X Y V G : Nat) (pm : Nat → Nat × Nat × Nat) (np : Nat) (s : Gs) (sp : Nat → Sp) (T : Nat) (D : Nat → DC) (E : Cnt) (d size : Nat) : Prop :=
  ∃ pv' x ps p0 r lf A0 A1 A2 A3 A4, ps.length = size ∧ (∃ h : 0 < ps.length, ps[0] = p0) ∧ Got s.M A0 d (ps ++ [r, lf]) ∧ Built A0 sp E d ps p0 r lf A1 A2 A3 A4 ∧
    HV w0 w' H B X Y V G pv' (upPm pm np x) (np + 1) ⟨A4, upP s.P np (placeM ps ps.length), s.g.setMem d (some ((p0 : Int), np))⟩ (upS sp d { sp d with root := r }) T (upD D d ⟨1, size, p0, some x.1⟩)
theorem split2 (l : List Nat) (n : Nat) (h : l.length = n + 2) : ∃ ps r lf, l = ps ++ [r, lf] ∧ ps.length = n := by
  have e : l = l.take n ++ l.drop n := (List.take_append_drop n l).symm
  have h2 : (l.drop n).length = 2 := by rw [List.length_drop]; omega
  match hd : l.drop n, h2 with
  | [r, lf], _ => exact ⟨l.take n, r, lf, by rw [← hd]; exact e, by rw [List.length_take]; omega⟩
/-- an own row of numbers: its cells -/
theorem own_ints {w : World} {base n : Nat} {v : Value} {l : List Nat} (h : w.ownsRow base 3 1 v n (icells l)) (hn : 0 < n) : ∃ g cap, v = .slice (some ⟨g, 0, none⟩) n cap ∧ base ≤ g ∧ n ≤ cap ∧ cap ≤ maxLen ∧ ∀ j (x : Nat), l[j]? = some x → w.cell? ⟨g, j, none⟩ = some (.int .i64 x) := by
  obtain ⟨h1, ⟨rfl, h2⟩ | ⟨g, cap, cur, rfl, hbg, hg, hc, hc2, _, ht⟩⟩ := h
  · omega
  · refine ⟨g, cap, rfl, hbg, hc, hc2, fun j x hx => ?_⟩
    have hj : j < l.length := (List.getElem?_eq_some_iff.1 hx).1
    rw [icells_len] at h1
    rw [cell_of_row w g j _ _ _ hg, ← Array.getElem?_toList]
    have e : (cur.toList.take (n * 1))[j]? = (icells l)[j]? := by rw [ht]
    rw [List.getElem?_take, if_pos (by omega)] at e
    rw [e]
    simp [icells, hx]
/-- numbers at the beginning of a block -/
def PgAt (w : World) (g : Nat) (l : List Nat) : Prop := ∀ j (h : j < l.length), w.cell? ⟨g, j, none⟩ = some (.int .i64 (l[j] : Nat))
theorem PgAt.grown {w w' : World} {g : Nat} {l : List Nat} {r : Option Nat} (h : PgAt w g l) (hg : w.grownBy w' r) (hr : some g ≠ r) : PgAt w' g l := fun j hj => hg.cell (h j hj) hr
theorem PgAt.chg {S : Nat → Prop} {w w' : World} {g : Nat} {l : List Nat} (h : PgAt w g l) (hg : Chg S w w') (hr : ¬ S g) : PgAt w' g l := fun j hj => hg.cell (h j hj) hr
theorem PgAt.ints {w : World} {g n : Nat} {l : List Nat} (h : PgAt w g l) (c : Nat) (hn : l.length = n) : IntsAt w (.slice (some ⟨g, 0, none⟩) n c) l := ⟨g, 0, c, by rw [hn], fun j hj => by rw [Nat.zero_add]; exact h j hj⟩
theorem hfoot_add {w : World} {H B X Y G : Nat} {pv : Nat → Value} {pm : Nat → Nat × Nat × Nat} {np b f p : Nat} (hf : ∀ k, pfoot b f p k → w.heap.size ≤ k) {k : Nat} (hk : hfoot H B X Y G pv (upPm pm np (b, f, p)) (np + 1) k) : hfoot H B X Y G pv pm np k ∨ w.heap.size ≤ k := by
  rcases hk with e | e | e | e | e | ⟨i, hi, e⟩
  · exact .inl (.inl e)
  · exact .inl (.inr (.inl e))
  · exact .inl (.inr (.inr (.inl e)))
  · exact .inl (.inr (.inr (.inr (.inl e))))
  · exact .inl (.inr (.inr (.inr (.inr (.inl e)))))
  · by_cases ei : i = np
    · subst ei
      unfold pft at e
      rw [upPm_same] at e
      exact .inr (hf k e)
    · unfold pft at e
      rw [upPm_other _ _ _ _ ei] at e
      exact .inl (.inr (.inr (.inr (.inr (.inr ⟨i, by omega, e⟩)))))
set_option maxRecDepth 100000 in
theorem hBuild (w0 w : World) (H B X Y V G : Nat) (pv : Nat → Value) (pm : Nat → Nat × Nat × Nat) (np : Nat) (s : Gs) (sp : Nat → Sp) (T : Nat) (D : Nat → DC) (E : Cnt) (h : HV w0 w H B X Y V G pv pm np s sp T D) (hA : All s.M sp E) (K : Int)
    (hK : ∀ A sp' E', (E' = E ∨ ∃ p, E' = E.add p 1) → All A sp' E' → A.ok K) (hK2 : K + 20000 < 4611686018427387904) (d size : Nat) (hd : d < 8) (hs1 : 1 ≤ size) (hs2 : size ≤ 48) (hleft : size + 2 ≤ (s.M.ownedL (-1)).length) (hroot : (sp d).root = -1) (hmem : s.g.mem d = none)
    (hmm : ∀ d t i, s.g.mem d = some (t, i) → i < np) (hTT : 48 ≤ T) :
    Calls Try.prog 17 #[.pointer (some ⟨H, 0, none⟩), .int .i64 d, .int .i64 size] w fun e w' => e = .returned (.tuple #[.int .i64 d, .int .i64 0]) ∧ BuildPost w0 w' H B X Y V G pm np s sp T D E d size := by
  obtain ⟨i0, hi, hz0, hz1, hz2⟩ := info_parts info_int
  have Hi := hid hi; have Hz0 := hid hz0; have Hz1 := hid hz1; have Hz2 := hid hz2
  clear hi hz0 hz1 hz2
  have FL := hid (show ∀ k, hfoot H B X Y G pv pm np k → k < w.heap.size from fun k hk => h.lt hk)
  have HB0 := hid (show B < w.heap.size from h.lt (.inr (.inl (.inl rfl))))
  have HH0 := hid (show H < w.heap.size from h.top.lt)
  have W0 := hid h.g.size
  have HA := hid hA; have HK := hid hK; have HLeft := hid hleft; have HMm := hid hmm; have HRoot := hid hroot; have HMem := hid hmem
  have hd0 : (0 : Int) ≤ d := by omega
  have hs0 : (0 : Int) ≤ size := by omega
  have hs48 : (size : Int) ≤ 48 := by omega
  obtain ⟨W, hW⟩ : ∃ W, (((((w.alloc (.cells #[.pointer (some ⟨H, 0, none⟩)] 23)).alloc (.cells #[.int .i64 d] 3)).alloc (.cells #[.int .i64 0] 24)).alloc (.cells #[.slice none 0 0] 22)).alloc (.cells #[.bool false] 4)) = W := ⟨_, rfl⟩
  have HV0 := hid (show HV w0 W H B X Y V G pv pm np s sp T D by rw [← hW]; exact h.grown (((((World.grownBy_alloc _ _ none).trans (World.grownBy_alloc _ _ none)).trans (World.grownBy_alloc _ _ none)).trans (World.grownBy_alloc _ _ none)).trans (World.grownBy_alloc _ _ none)))
  have HW0 := hid (show BW W w.heap.size H d 0 (.slice none 0 0) false by rw [← hW]; constructor <;> simp [go_sem])
  have HS := hid (show W.heap.size = w.heap.size + 5 by rw [← hW]; simp)
  have hmf : ∀ (fn : Fn) (first cap : Array Value) (w : World), (Instr.makeFunc fn first cap).run Try.prog w = .ok (.func fn first cap) w := fun _ _ _ _ => rfl
  clear h hA hK hleft hmm hroot hmem
  have k0 := HW0.out.j; have k1 := HW0.out.zj
  have HW1 := hid (HW0.out.setj false)
  have HV1 := hid (HV0.out.but (grownBy_setCell W (w.heap.size + 1 + 1 + 1 + 1) 0 none (.bool false)) fun b e => ⟨by have := W0.out; have := Option.some.inj e; omega, fun hk => by have := FL.out b hk; have := Option.some.inj e; omega⟩)
  have HS1 := hid (show (W.setCell ⟨w.heap.size + 1 + 1 + 1 + 1, 0, none⟩ (.bool false)).heap.size = w.heap.size + 5 by simp [HS.out])
  clear HW0 HV0
  go_enter_defers Try.func17, Try.ntmps17
  go_wp2
  clear k0 k1
  go_loopw [23] (fun x wr => ∃ k : Nat, ∃ A l v, x = .int .i64 k ∧ k ≤ size + 2 ∧ l.length = k ∧ Got s.M A d l ∧ All A sp E ∧ HV w0 wr H B X Y V G pv pm np (s.setM A) sp T D ∧ BW wr w.heap.size H d 0 v false ∧ wr.ownsRow (w.heap.size + 5) 3 1 v k (icells l)) (fun x _ => size + 2 - (intOf x).toNat)
  case atStart => exact ⟨0, s.M, [], _, rfl, by omega, rfl, Got.nil _ _, HA.out, HV1.out, HW1.out, World.ownsRow_nil _ _ _ _⟩
  case round =>
    clear HW1 HV1 hW
    obtain ⟨k, A, l, v, rfl, hk, hl, hgot, hall, hh, hbw, hown⟩ := hrel
    have hk0 : (0 : Int) ≤ k := by omega
    by_cases hlt : k < size + 2
    · have hlt' : (k : Int) < size + 2 := by omega
      obtain ⟨q, q1, q2, q3, q4, q5⟩ := hgot.more hall hd (by have := HLeft.out; omega)
      have Q1 := hid q1; have Q2 := hid q2; have Q3 := hid q3; have Q4 := hid q4
      have HH := hid hh; have HBW := hid hbw
      have hok := HK.out A sp E (.inl rfl) hall
      have HOk := hid hok
      obtain ⟨pv1, cv, hv⟩ := ownsRow_slice hown
      subst hv
      have HOwn := hid hown
      have HOb := hid (show ∀ gg, (Value.slice pv1 k cv).ownBlock = some gg → w.heap.size + 5 ≤ gg from fun gg e => (hown.lt gg e).1)
      have f0 := hbw.h; have f1 := hbw.d; have f2 := hbw.f; have f3 := hbw.zf; have f4 := hh.c0
      have HL := hid hl
      clear hgot hall hh hbw hown hok q1 q2 q3 q4 hl
      go_wp2
      go_region_held3 (fun w' => w'.cell? ⟨w.heap.size, 0, none⟩ = some (.pointer (some ⟨H, 0, none⟩)) ∧ w'.cell? ⟨w.heap.size + 1, 0, none⟩ = some (.int .i64 d) ∧ w'.cell? ⟨H, 0, none⟩ = some (.pointer (some ⟨B, 0, none⟩))) (first | exact ⟨by assumption, by assumption, by assumption⟩ | go_keep)
        (first | (go_at_call 11; refine (Alloc_any B d _ A K (HH.out.grown (grownBy_drew _ none)).ps.m HOk.out).mono ?_; rintro e w2 ⟨e1, hm2, hg2⟩; rw [Q1.out, Q2.out] at e1; subst e1; have HH2 := hid ((HH.out.grown (grownBy_drew _ none)).mach hm2 hg2); have HBW2 := hid ((HBW.out.grown (grownBy_drew _ none) (by simp)).grown hg2 (fun k e => .inl (by have := HB0.out; have := Option.some.inj e; omega))); have HOwn2 := hid ((own_grown HOwn.out (grownBy_drew _ none)).kept hg2 (own_ne HOwn.out (by have := HB0.out; omega))); have j1 := HBW2.out.f; have j2 := HBW2.out.zf; have j3 := HBW2.out.h; have j4 := HBW2.out.d; have j5 := HH2.out.c0; clear hm2 hg2))
      clear f0 f1 f2 f3 f4
      go_wp2_with (first
        | (at_builtin; refine wpList_append_own _ rfl _ _ 22 rfl (w.heap.size + 5) 3 i0 (.int .i64 0) 1 8 Try.underlying22 Hi.out Hz0.out Hz1.out Hz2.out rfl (by decide) _ _ _ rfl (HOwn2.out.alloc _) ⟨w2.heap.size, 0, none⟩ 1 1 [.int .i64 (q : Int)] rfl rfl (World.news_of_block (heap_alloc_new w2 _)) (by simp [Value.oneCell']) (by unfold maxLen; omega) (by omega) (by have := HBW2.out.lt; simp; omega) ?_; intro v' w3 hown' hgrow hnil; clear hnil; obtain ⟨pv2, cv2, hv2⟩ := ownsRow_slice hown'; subst hv2;
            have HBW3 := hid ((HBW2.out.grown (World.grownBy_alloc w2 _ none) (by simp)).grown hgrow (fun k e => .inr (HOb.out k e)));
            have HH3 := hid ((HH2.out.grown (World.grownBy_alloc w2 _ none)).but hgrow (fun b e => ⟨by have := HOb.out b e; have := W0.out; omega, fun hk => by have := HOb.out b e; have := FL.out b hk; omega⟩));
            have HO3 := hid hown'; have m1 := HBW3.out.f; have m2 := HBW3.out.zf; clear hown' hgrow j1 j2 j3 j4 j5)
        | fail)
      go_roundw
      case rel =>
        have hg4 := grownBy_setCell w3 (w.heap.size + 1 + 1 + 1) 0 none (.slice pv2 (k + 1) cv2)
        refine ⟨k + 1, _, l ++ [q], .slice pv2 (k + 1) cv2, by go_num, by omega, by rw [List.length_append, HL.out]; rfl, Q3.out, Q4.out, HH3.out.but hg4 (fun b e => ⟨by have := W0.out; have := Option.some.inj e; omega, fun hk => by have := FL.out b hk; have := Option.some.inj e; omega⟩), HBW3.out.setf _, ?_⟩
        rw [icells_snoc]
        exact HO3.out.kept hg4 (own_ne HO3.out (by omega))
      case measure => simp [intOf]; omega
    · obtain rfl : k = size + 2 := by omega
      have hge : ¬ (((size + 2 : Nat) : Int) < size + 2) := by omega
      have hge' : ¬ ((size : Int) + 2 < size + 2) := by omega
      obtain ⟨ps, r, lf, hls, hpl⟩ := split2 l size hl
      subst hls
      obtain ⟨g, cap, hv, hgb, hcap, hcap2, hcells⟩ := own_ints hown (by omega)
      subst hv
      have cr : wr.cell? ⟨g, size, none⟩ = some (.int .i64 r) := by have := hcells size r (by rw [List.getElem?_append_right (by omega), hpl, Nat.sub_self]; rfl); exact this
      have cl : wr.cell? ⟨g, size + 1, none⟩ = some (.int .i64 lf) := by have := hcells (size + 1) lf (by rw [List.getElem?_append_right (by omega), hpl, show size + 1 - size = 1 by omega]; rfl); exact this
      have hp0 : 0 < ps.length := by omega
      obtain ⟨p0, hp0e⟩ : ∃ p, ps[0] = p := ⟨_, rfl⟩
      have cp : wr.cell? ⟨g, 0, none⟩ = some (.int .i64 p0) := hcells 0 p0 (by rw [List.getElem?_append_left hp0, List.getElem?_eq_getElem hp0, hp0e])
      have hPg : PgAt wr g ps := fun j hj => hcells j _ (by rw [List.getElem?_append_left hj, List.getElem?_eq_getElem hj])
      have hnA : A.n ≤ 256 := hall.n0.2
      have hm256 : ∀ x ∈ ps, x < 256 := fun x hx => by have := (hgot.mem x (by simp [hx])).1; have := hgot.n; omega
      have hlf256 : lf < 256 := by have := (hgot.mem lf (by simp)).1; have := hgot.n; omega
      have hndp : ps.Nodup := (List.nodup_append.1 hgot.nodup).1
      obtain ⟨A1, A2, A3, A4, hb⟩ := build_ok hgot hall hd (hp0e ▸ List.getElem_mem hp0) (by omega) HRoot.out
      have HGot := hid hgot; have HAll := hid hall; have HBt := hid hb; have HH := hid hh; have HBW := hid hbw; have HPg := hid hPg; have HM := hid hm256; have HNd := hid hndp; have HPl := hid hpl; have HP0 := hid hp0e
      have HGb := hid hgb
      have HPp := hid hp0
      have HOkA := hid (HK.out A sp E (.inl rfl) HAll.out)
      have HLf := hid hlf256
      have f0 := hbw.h; have f1 := hbw.d; have f2 := hbw.f; have f3 := hbw.e; have f4 := hbw.ze; have f5 := hbw.zj; have f6 := hbw.j
      have hsz : (size : Int) ≤ cap := by omega
      have hcap0 : (cap : Int) ≤ 9223372036854775807 := by simp only [maxLen] at hcap2; omega
      clear hgot hall hb hh hbw hown hPg hm256 hndp hcells hl hk hnA hcap2 hp0e
      go_wp2
      go_quiet (fail)
      generalize hwq : wr.drewN _ = wq
      have gq : wr.grownBy wq none := hwq ▸ grownBy_drewN _ _ none
      have HHq := hid (HH.out.grown gq); have HBq := hid (HBW.out.grown gq (by simp)); have HPq := hid (HPg.out.grown gq (by simp))
      have HIq := hid (HPq.out.ints cap HPl.out)
      have HSq := hid HBq.out.lt
      have HGl := hid (show g < wq.heap.size from World.block_lt_of_cell? _ _ (HPq.out 0 HPp.out))
      have hsz1 : (0 : Int) < size := by omega
      have hsz2 : 0 < size := by omega
      have q1 := HBq.out.e; have q2 := HBq.out.ze; have q3 := HBq.out.h
      clear hwq gq f0 f1 f2 f3 f4 f5 f6 cr cl cp HH HBW HPg
      go_wp2_with (first
        | (go_at_call 29; refine (hPlaced ps _ _ HIq.out (by rw [HPl.out]; exact hs2) HM.out HNd.out).mono ?_; rintro e w3 ⟨v3, rfl, b3, p3f, p3, rfl, hP3, hg3, hf3⟩;
            have HH3 := hid (HHq.out.add HMm.out hP3 hTT hg3 hf3);
            have FL3 := hid (show ∀ k, hfoot H B X Y G pv (upPm pm np (b3, p3f, p3)) (np + 1) k → k < w.heap.size ∨ wq.heap.size ≤ k from fun k hk => (hfoot_add hf3 hk).imp (FL.out k) id);
            have HB3 := hid (HBq.out.grown hg3 (by simp)); have HP3 := hid (HPq.out.grown hg3 (by simp)); clear hP3 hf3 hg3;
            obtain ⟨w4, hw4⟩ : ∃ w4, w3.setCell ⟨w.heap.size + 1 + 1, 0, none⟩ (.int .i64 0) = w4 := ⟨_, rfl⟩;
            have hg4 : w3.grownBy w4 (some (w.heap.size + 1 + 1)) := hw4 ▸ grownBy_setCell w3 (w.heap.size + 1 + 1) 0 none (.int .i64 0);
            have HB4 := hid (show BW w4 w.heap.size H d 0 _ false from hw4 ▸ HB3.out.sete 0);
            have HH4 := hid (HH3.out.but hg4 (fun b e => ⟨by have := W0.out; have := Option.some.inj e; omega, fun hk => by have := Option.some.inj e; have := HSq.out; rcases FL3.out b hk with h | h <;> omega⟩));
            have HP4 := hid (HP3.out.grown hg4 (by have := HGb.out; simp; omega));
            obtain ⟨w5, hw5⟩ : ∃ w5, w4.alloc (.cells #[.int .i64 lf] 3) = w5 := ⟨_, rfl⟩;
            have hg5 : w4.grownBy w5 none := hw5 ▸ World.grownBy_alloc _ _ none;
            have HB5 := hid (HB4.out.grown hg5 (by simp)); have HH5 := hid (HH4.out.grown hg5); have HP5 := hid (HP4.out.grown hg5 (by simp));
            have HI5 := hid (show IntsAt w5 (.slice (some ⟨w4.heap.size, 0, none⟩) 1 1) [lf] from ⟨w4.heap.size, 0, 1, rfl, fun j hj => by simp at hj; subst hj; rw [← hw5]; simp [go_sem]⟩);
            have HL1 := hid (hLay H B r A K [lf] _ w5 HH5.out.ps.m HOkA.out HH5.out.c0 HI5.out (by simp) (by have := HLf.out; simpa using this));
            have r1 := HB3.out.e; have r2 := HB3.out.ze; have r3 := HB4.out.h; have r4 := HB4.out.e; clear q1 q2 q3 hg4 hg5)
        | (go_at_call 30; first
            | ((with_reducible refine HL1.out.mono ?_); rintro e w6 ⟨e1, hm6, hg6⟩; rw [HBt.out.w1] at e1 hm6; subst e1; have HH6 := hid (HH5.out.mach hm6 hg6); have HB6 := hid (HB5.out.grown hg6 (fun k e => .inl (by have := HB0.out; have := Option.some.inj e; omega))); have HP6 := hid (HP5.out.grown hg6 (by have := HB0.out; have := HGb.out; simp; omega)); have HI6 := hid (HP6.out.ints cap HPl.out); have HL2 := hid (hLay H B lf A1 K ps _ w6 HH6.out.ps.m (HK.out A1 sp E (.inl rfl) HBt.out.a1) HH6.out.c0 HI6.out (by rw [HPl.out]; exact hs2) HM.out); have r5 := HB6.out.h; clear hm6 hg6 r1 r2 r3 r4)
            | ((with_reducible refine HL2.out.mono ?_); rintro e w7 ⟨e1, hm7, hg7⟩; rw [HBt.out.w2] at e1 hm7; subst e1; have HH7 := hid (HH6.out.mach hm7 hg7); have HB7 := hid (HB6.out.grown hg7 (fun k e => .inl (by have := HB0.out; have := Option.some.inj e; omega))); have HP7 := hid (HP6.out.grown hg7 (by have := HB0.out; have := HGb.out; simp; omega)); have s1 := HB7.out.h; have s2 := HB7.out.d; have s3 := HH7.out.c2; have s4 := HP7.out 0 HPp.out; rw [HP0.out] at s4; clear hm7 hg7 r5)
            | fail)
        | fail)
      have hjn : (s.g.mem d).isSome = false := by rw [HMem.out]; rfl
      have hgd : gdom (d : Int) = true := by simp [gdom, hd0]; omega
      have HJ := hid (fun wX (hg : GA wX Y B G (upPm pm np (b3, p3f, p3)) (np + 1) ⟨A2, upP s.P np (placeM ps ps.length), s.g⟩ T) => show Calls Try.prog 31 #[.pointer (some ⟨Y, 0, none⟩), .int .i64 d, .int .i64 p0, .pointer (some ⟨b3, 0, none⟩)] wX (fun e w' => e = .returned (.int .i64 0) ∧ GL wX Y B G (upPm pm np (b3, p3f, p3)) (np + 1) ⟨A3, upP s.P np (placeM ps ps.length), s.g.setMem d (some ((p0 : Int), np))⟩ T w') from by
        have e1 : Gs.join ⟨A2, upP s.P np (placeM ps ps.length), s.g⟩ (d : Int) (p0 : Int) np = (0, ⟨A3, upP s.P np (placeM ps ps.length), s.g.setMem d (some ((p0 : Int), np))⟩) := by
          unfold Gs.join
          rw [if_neg (by rw [hgd]; simp), Int.toNat_natCast]
          simp only [hjn, HBt.out.j]
          simp
        have := gJoin hg (HK.out A2 sp E (.inl rfl) HBt.out.a2) (by omega) (d : Int) (p0 : Int) np (by omega)
        rw [e1, upPm_same] at this
        exact this)
      clear hjn hgd
      go_region_held3 (fun w' => w'.cell? ⟨w.heap.size, 0, none⟩ = some (.pointer (some ⟨H, 0, none⟩)) ∧ w'.cell? ⟨w.heap.size + 1, 0, none⟩ = some (.int .i64 d) ∧ w'.cell? ⟨H, 2, none⟩ = some (.pointer (some ⟨Y, 0, none⟩)) ∧ w'.cell? ⟨g, 0, none⟩ = some (.int .i64 p0)) (first | exact ⟨by assumption, by assumption, by assumption, by assumption⟩ | go_keep)
        (first | (go_at_call 31; refine (HJ.out _ (HH7.out.grown (grownBy_drew _ none)).ga).mono ?_; rintro e w8 ⟨rfl, hl8⟩; have HH8 := hid ((HH7.out.grown (grownBy_drew _ none)).grants hl8); have HB8 := hid ((HB7.out.grown (grownBy_drew _ none) (by simp)).chg hl8.c (fun k hk => by have := HSq.out; rcases FL3.out k (.inr (.inr hk)) with h | h <;> omega)); have HP8 := hid ((HP7.out.grown (grownBy_drew _ none) (by simp)).chg hl8.c (fun hk => by have := HGl.out; have := HGb.out; rcases FL3.out g (.inr (.inr hk)) with h | h <;> omega)); have t0 := HH8.out.c2; have t1 := HB8.out.h; have t2 := HB8.out.d; have t3 := HH8.out.c1; have t4 := HB8.out.j; have t5 := HB8.out.zj; have t6 := HP8.out 0 HPp.out; rw [HP0.out] at t6; clear hl8))
      clear s1 s2 s3 s4
      obtain ⟨w9, hw9⟩ : ∃ w9, w8.setCell ⟨w.heap.size + 1 + 1 + 1 + 1, 0, none⟩ (.bool true) = w9 := ⟨_, rfl⟩
      have hg9 : w8.grownBy w9 (some (w.heap.size + 1 + 1 + 1 + 1)) := hw9 ▸ grownBy_setCell w8 (w.heap.size + 1 + 1 + 1 + 1) 0 none (.bool true)
      have HB9 := hid (show BW w9 w.heap.size H d 0 _ true from hw9 ▸ HB8.out.setj true)
      have HH9 := hid (HH8.out.but hg9 (fun b e => ⟨by have := W0.out; have := Option.some.inj e; omega, fun hk => by have := Option.some.inj e; have := HSq.out; rcases FL3.out b hk with h | h <;> omega⟩))
      have HP9 := hid (HP8.out.grown hg9 (by have := HGb.out; simp; omega))
      clear hg9
      go_wp2
      clear t0 t1 t2 t3 t4 t5 t6 hw9
      have s1 := HB9.out.h; have s2 := HB9.out.d; have s3 := HH9.out.c1; have s4 := HP9.out 0 HPp.out; rw [HP0.out] at s4
      have HBs := hid (fun wX (hp : PS wX B X A3 sp pv) => show Calls Try.prog 32 #[.pointer (some ⟨X, 0, none⟩), .int .i64 d, .int .i64 r] wX (fun e w' => e = .returned (.int .i64 0) ∧ XL wX w' B X pv A4 (upS sp d { sp d with root := r })) from by
        have := Base_of X B d r wX A3 K sp (E.add p0 1) pv hp HBt.out.a3 (HK.out A3 sp (E.add p0 1) (.inr ⟨p0, rfl⟩) HBt.out.a3) hK2
        rw [HBt.out.b] at this
        exact this)
      go_region_held3 (fun w' => w'.cell? ⟨w.heap.size, 0, none⟩ = some (.pointer (some ⟨H, 0, none⟩)) ∧ w'.cell? ⟨w.heap.size + 1, 0, none⟩ = some (.int .i64 d) ∧ w'.cell? ⟨H, 1, none⟩ = some (.pointer (some ⟨X, 0, none⟩))) (first | exact ⟨by assumption, by assumption, by assumption⟩ | go_keep)
        (first | (go_at_call 32; refine (HBs.out _ (HH9.out.grown (grownBy_drew _ none)).ps).mono ?_; rintro e w10 ⟨rfl, hx10⟩; obtain ⟨pv', hh10, hc10, hf10⟩ := (HH9.out.grown (grownBy_drew _ none)).tables hx10; have HH10 := hid hh10; have FL10 := hid (show ∀ k, hfoot H B X Y G pv' (upPm pm np (b3, p3f, p3)) (np + 1) k → k < w.heap.size ∨ w.heap.size + 5 ≤ k from fun k hk => by have := HSq.out; have h9 := HB9.out.lt; rcases hk with hk | hk | hk; (rcases FL3.out k (.inl hk) with h | h <;> omega); (rcases hf10 k hk with hk | hk; (rcases FL3.out k (.inr (.inl hk)) with h | h <;> omega); exact .inr (Nat.le_trans h9 hk)); (rcases FL3.out k (.inr (.inr hk)) with h | h <;> omega)); have HB10 := hid ((HB9.out.grown (grownBy_drew _ none) (by simp)).chg hc10 (fun k hk => by have := HSq.out; rcases FL3.out k (.inr (.inl hk)) with h | h <;> omega)); have HP10 := hid ((HP9.out.grown (grownBy_drew _ none) (by simp)).chg hc10 (fun hk => by have := HGl.out; have := HGb.out; rcases FL3.out g (.inr (.inl hk)) with h | h <;> omega)); have t0 := HH10.out.c1; have t1 := HB10.out.h; have t2 := HB10.out.d; have t6 := HP10.out 0 HPp.out; rw [HP0.out] at t6; have z := HH10.out.top.frozen; have c1 := HH10.out.cell hd (r := 0) (by omega); have c2 := HH10.out.cell hd (r := 1) (by omega); have c3 := HH10.out.cell hd (r := 2) (by omega); have c4 := HH10.out.cell hd (r := 3) (by omega); clear hx10 hh10 hc10 hf10))
      clear s1 s2 s3 s4
      go_wp2
      clear t0
      have z0 := z (4 + d * 4); have z1 := z (4 + d * 4 + 1); have z2 := z (4 + d * 4 + 2); have z3 := z (4 + d * 4 + 3)
      clear z
      rw [Nat.add_zero] at c1
      generalize dcell (D d) 0 = y0 at c1
      generalize dcell (D d) 1 = y1 at c2
      generalize dcell (D d) 2 = y2 at c3
      generalize dcell (D d) 3 = y3 at c4
      have hd8 : (d : Int) < 8 := by omega
      obtain ⟨w11, hw11⟩ : ∃ w11, ((((w10.setCell ⟨H, 4 + d * 4, none⟩ (.int .i64 1)).setCell ⟨H, 4 + d * 4 + 1, none⟩ (.int .i64 size)).setCell ⟨H, 4 + d * 4 + 2, none⟩ (.int .i64 p0)).setCell ⟨H, 4 + d * 4 + 3, none⟩ (.pointer (some ⟨b3, 0, none⟩))) = w11 := ⟨_, rfl⟩
      have hg11 : w10.grownBy w11 (some H) := hw11 ▸ (((grownBy_setCell w10 H (4 + d * 4) none _).trans (grownBy_setCell _ H (4 + d * 4 + 1) none _)).trans (grownBy_setCell _ H (4 + d * 4 + 2) none _)).trans (grownBy_setCell _ H (4 + d * 4 + 3) none _)
      have hh11 := HH10.out.setD hd ⟨1, size, p0, some b3⟩
      simp only [plB] at hh11
      rw [hw11] at hh11
      have HH11 := hid (hh11.grown (grownBy_drew w11 none))
      have HB11 := hid ((HB10.out.grown hg11 (fun k e => .inl (by have := HH0.out; have := Option.some.inj e; omega))).grown (grownBy_drew w11 none) (by simp))
      have HP11 := hid ((HP10.out.grown hg11 (by have := HH0.out; have := HGb.out; simp; omega)).grown (grownBy_drew w11 none) (by simp))
      have u0 := HB11.out.h; have u1 := HB11.out.d; have u2 := HP11.out 0 HPp.out; rw [HP0.out] at u2
      clear hg11 hh11
      go_region_held3 (fun w' => w'.cell? ⟨w.heap.size, 0, none⟩ = some (.pointer (some ⟨H, 0, none⟩)) ∧ w'.cell? ⟨w.heap.size + 1, 0, none⟩ = some (.int .i64 d) ∧ w'.cell? ⟨g, 0, none⟩ = some (.int .i64 p0)) (first | exact ⟨by assumption, by assumption, by assumption⟩ | go_keep)
        (fail)
      all_goals clear hw11 u2
      all_goals (have v1 := HB11.out.e; have v2 := HB11.out.ze)
      all_goals go_wp2
      all_goals (have HB12 := hid (HB11.out.sete 0); have hr := HB12.out.e; have hr2 : (w11.setCell ⟨w.heap.size + 1 + 1, 0, none⟩ (.int .i64 0)).cell? ⟨w.heap.size + 1 + 1, 0, none⟩ = some (.int .i64 0) := hr)
      all_goals (have HH12 := hid (HH11.out.but (grownBy_setCell w11.drew (w.heap.size + 1 + 1) 0 none (.int .i64 0)) (fun b e => ⟨by have := W0.out; have := Option.some.inj e; omega, fun hk => by have := Option.some.inj e; rcases FL10.out b hk with h | h <;> omega⟩)))
      all_goals refine leaves_cons (f := 26) (args := #[.pointer (some ⟨w.heap.size + 1 + 1, 0, none⟩), .pointer (some ⟨w.heap.size + 1 + 1 + 1 + 1, 0, none⟩), .pointer (some ⟨w.heap.size, 0, none⟩), .pointer (some ⟨w.heap.size + 1, 0, none⟩), .pointer (some ⟨w.heap.size + 1 + 1 + 1, 0, none⟩)]) (by simp) (by simp [go_sem]) ?_
      all_goals refine (undo_ok _ _ _ _ _ .returning _ hr).mono ?_
      all_goals rintro e u' w12 ⟨rfl, rfl, rfl⟩
      all_goals refine ⟨.tuple #[.int .i64 d, .int .i64 0], by simp [results, Try.results17, go_sem, hr2], rfl, pv', (b3, p3f, p3), ps, p0, r, lf, A, A1, A2, A3, A4, HPl.out, ⟨HPp.out, HP0.out⟩, HGot.out, HBt.out, HH12.out⟩
end Go.Proofs.Ytbbaplcfhofeeaa.Dm
