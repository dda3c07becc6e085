/-
  Package tenementref04: each.
-/
import Derived.Test.YtdjhkacjgdnglaaPteQ
import Derived.Test.YtdjhkacjgdnglaaPteH
import Derived.Test.YtdjhkacjgdnglaaRefI
import Derived.Test.YtdjhkacjgdnglaaPteV
namespace Go.Proofs.Ytdjhkacjgdnglaa
open Go.RowKit
set_option maxHeartbeats 2000000

/-- two slices that lie in no one block -/
def Dj (v u : Value) : Prop := ∀ j, v.ownBlock = some j → u.ownBlock ≠ some j
theorem Dj.keep {v u : Value} (h : Dj v u) : u.ownBlock = none ∨ u.ownBlock ≠ v.ownBlock := by
  cases hv : v.ownBlock with
  | none => cases hu : u.ownBlock with
    | none => exact .inl rfl
    | some j => exact .inr (by simp)
  | some j => exact .inr (h j hv)
theorem Dj.symm {v u : Value} (h : Dj v u) : Dj u v := fun j hj e => h j e hj
theorem Dj.step {v v' u : Value} {N : Nat} (h : Dj v u) (hat : v'.ownBlock = v.ownBlock ∨ v'.ownBlock = some N) (hu : ∀ j, u.ownBlock = some j → j < N) : Dj v' u := fun j hj e => by
  rcases hat with g | g
  · exact h j (g ▸ hj) e
  · rw [g] at hj; cases hj; have := hu _ e; omega
def IntsAt (lo : Nat) (w : World) (v : Value) (l : List Nat) : Prop := ∃ p c, v = .slice p l.length c ∧ ∀ j, j < l.length → ∃ g, p = some ⟨g, 0, none⟩ ∧ lo ≤ g ∧ g < w.heap.size ∧ w.cell? ⟨g, j, none⟩ = some (.int .i64 (l.getD j 0 : Nat))
theorem intsAt_of {lo k : Nat} {w : World} {v : Value} {l : List Nat} (h : w.ownsRow lo 3 1 v k (icells l)) (hl : l.length = k) : IntsAt lo w v l := by
  subst hl
  obtain ⟨p, c, rfl⟩ := ownsRow_slice h
  refine ⟨p, c, rfl, fun j hj => ?_⟩
  obtain ⟨m, hm⟩ : ∃ m, l.length = m + 1 := ⟨l.length - 1, by omega⟩
  have h' := h
  rw [hm] at h'
  obtain ⟨g, cap, e⟩ := ownsRow_succ h'
  cases e
  have hb := h'.lt g rfl
  refine ⟨g, rfl, hb.1, hb.2, ?_⟩
  rw [h'.cellAt j (by omega)]
  simp [icells, List.getD, List.getElem?_eq_getElem hj]
theorem IntsAt.grown {lo : Nat} {w w' : World} {v : Value} {l : List Nat} {row : Option Nat} (h : IntsAt lo w v l) (hg : w.grownBy w' row) (hr : ∀ j, row = some j → j < lo) : IntsAt lo w' v l := by
  obtain ⟨p, c, e, hc⟩ := h
  refine ⟨p, c, e, fun j hj => ?_⟩
  obtain ⟨g, e1, h1, h2, h3⟩ := hc j hj
  exact ⟨g, e1, h1, Nat.lt_of_lt_of_le h2 hg.size, hg.cell h3 fun e => by have := hr g e.symm; omega⟩
/-- where the k-th byte lies, given its two pages -/
def mkK (off : Nat) (m1 m2 : Nat) (k : Nat) : Nat := if off + k < 256 then m1 else m2
def okK (off : Nat) (k : Nat) : Nat := if off + k < 256 then off + k else off + k - 256
def mks (off m1 m2 n : Nat) : List Nat := (List.range n).map (mkK off m1 m2)
def oks (off n : Nat) : List Nat := (List.range n).map (okK off)
theorem mks_succ (off m1 m2 n : Nat) : mks off m1 m2 (n + 1) = mks off m1 m2 n ++ [mkK off m1 m2 n] := by simp [mks, List.range_succ]
theorem oks_succ (off n : Nat) : oks off (n + 1) = oks off n ++ [okK off n] := by simp [oks, List.range_succ]
theorem mks_len (off m1 m2 n : Nat) : (mks off m1 m2 n).length = n := by simp [mks]
theorem oks_len (off n : Nat) : (oks off n).length = n := by simp [oks]
def eF (off m1 m2 s n : Nat) : List Nat := if s = n then mks off m1 m2 n else []
def eO (off s n : Nat) : List Nat := if s = n then oks off n else []
def eC (s n : Nat) (c : Int) : Int := if s = n then 0 else c
theorem ownsRow_grown' {W W' : World} {base : Nat} {e : TypeId} {size n : Nat} {v : Value} {xs : List Value} (h : W.ownsRow base e size v n xs) (hg : W.grownBy W' none) : W'.ownsRow base e size v n xs := h.kept hg (none_row' v)
def EachLeft (w : World) (fs os : List Nat) (c : Int) (e : Ending) (w' : World) : Prop := ∃ vf vo, e = .returned (.tuple #[vf, vo, .int .i64 c]) ∧ IntsAt w.heap.size w' vf fs ∧ IntsAt w.heap.size w' vo os ∧ w.grownBy w' none
theorem intsAt_nil (lo : Nat) (w : World) : IntsAt lo w (.slice none 0 0) [] := ⟨none, 0, rfl, fun j h => by simp at h⟩
set_option maxRecDepth 100000 in
theorem each_bad (b : Nat) (r : Int) (va : Nat) (n : Int) (x : Bool) (w : World) (hv : va < 4294967296) (h0 : n ≠ 0) (hbad : badR va n) : Calls Try.prog 73 #[.pointer (some ⟨b, 0, none⟩), .int .i64 r, .int .u32 va, .int .i64 n, .bool x] w (EachLeft w [] [] 1) := by
  have hb : n < 0 ∨ (0 ≤ n ∧ 256 < n) ∨ (0 ≤ n ∧ n ≤ 256 ∧ 0 < n ∧ 1048576 < (va : Int) + n) := by unfold badR at hbad; omega
  clear h0 hbad
  rcases hb with hb | ⟨hb, hb1⟩ | ⟨hb, hb1, hb3, hb2⟩
  · go_enter Try.func73, Try.ntmps73
    go_wp2_with fail
    go_ret3
    exact ⟨_, _, rfl, intsAt_nil _ _, intsAt_nil _ _, World.grownBy.refl _ _⟩
  · have d0 : decide (n < 0) = false := by rw [decide_eq_false_iff_not]; omega
    have d1 : decide (256 < n) = true := by simp [hb1]
    go_enter Try.func73, Try.ntmps73
    go_wp2_with fail
    go_ret3
    exact ⟨_, _, rfl, intsAt_nil _ _, intsAt_nil _ _, World.grownBy.refl _ _⟩
  · have d0 : decide (n < 0) = false := by rw [decide_eq_false_iff_not]; omega
    have d1 : decide (256 < n) = false := by rw [decide_eq_false_iff_not]; omega
    have d2 : decide (0 < n) = true := by simp [hb3]
    have d3 : decide (1048576 < (va : Int) + n) = true := by simp [hb2]
    go_enter Try.func73, Try.ntmps73
    go_wp2_with fail
    go_ret3
    exact ⟨_, _, rfl, intsAt_nil _ _, intsAt_nil _ _, World.grownBy.refl _ _⟩

set_option maxRecDepth 100000 in
theorem each_go (b : Nat) (r : Int) (va n s : Nat) (x : Bool) (w : World) (M : Mach) (L : Lay) (hR : RM w b M L) (hv : va + n ≤ 1048576) (hn : n ≤ 256) (hs : s ≤ n) (off m1 m2 : Nat) (c : Int)
    (hok : ∀ k, k < s → M.walkV r (va + k) x = (((mkK off m1 m2 k : Nat) : Int), ((okK off k : Nat) : Int), 0)) (herr : s < n → M.walkV r (va + s) x = (0, 0, c) ∧ c ≠ 0) (h0 : 0 < n) :
    Calls Try.prog 73 #[.pointer (some ⟨b, 0, none⟩), .int .i64 r, .int .u32 va, .int .i64 n, .bool x] w (EachLeft w (eF off m1 m2 s n) (eO off s n) (eC s n c)) := by
  have d0 : decide ((n : Int) < 0) = false := by rw [decide_eq_false_iff_not]; omega
  have d1 : decide ((256 : Int) < n) = false := by rw [decide_eq_false_iff_not]; omega
  have d2 : decide ((0 : Int) < n) = true := by rw [decide_eq_true_iff]; omega
  have d3 : decide ((1048576 : Int) < (va : Int) + n) = false := by rw [decide_eq_false_iff_not]; omega
  have HR := hid hR
  have HOk := hid hok; have HErr := hid herr
  have HW := hid (fun k (hk : k < n) W hR => rWalk b r (va + k) x W M L hR (by omega))
  obtain ⟨i0, hi, hz0, hz1, hz2⟩ := info_parts info_int
  have Hi := hid hi; have Hz0 := hid hz0; have Hz1 := hid hz1; have Hz2 := hid hz2
  clear hR hok herr hi hz0 hz1 hz2
  go_enter Try.func73, Try.ntmps73
  go_wp2_with fail
  clear d0 d1 d2 d3
  go_loopw [13, 14, 15] (fun vf vo i wr => ∃ k : Nat, k ≤ s ∧ i = .int .i64 k ∧ wr.ownsRow w.heap.size 3 1 vf k (icells (mks off m1 m2 k)) ∧ wr.ownsRow w.heap.size 3 1 vo k (icells (oks off k)) ∧ Dj vf vo ∧ w.grownBy wr none) (fun _ _ i _ => n - (intOf i).toNat)
  case atStart => exact ⟨0, Nat.zero_le _, rfl, World.ownsRow_nil _ _ _ _, World.ownsRow_nil _ _ _ _, (fun j hj => by cases hj), World.grownBy.refl _ _⟩
  case round =>
    obtain ⟨k, hk, rfl, hf, ho, hd, hg⟩ := hrel
    have HF := hid hf; have HO := hid ho; have HD := hid hd; have HG := hid hg
    clear hf ho hd hg
    by_cases hkn : k < n
    · have hkn' : (k : Int) < n := by omega
      have hvk : (va : Int) + k ≤ 1048576 := by omega
      have ek : ((va + k : Nat) : Int) = (va : Int) + k := by omega
      have HWk := hid (HW.out k hkn _ (HR.out.grown HG.out))
      rw [ek] at HWk
      by_cases hks : k < s
      · rw [HOk.out k hks] at HWk
        have HS1 := hid (mks_succ off m1 m2 k); have HS2 := hid (oks_succ off k)
        generalize mkK off m1 m2 k = m at *
        generalize okK off k = o at *
        clear ek
        go_wp2_with (first
          | (go_at_call 27; refine HWk.out.mono ?_; rintro e w2 ⟨rfl, hg⟩; have HG2 := hid hg; clear hg; simp only [walk3])
          | (at_builtin; refine wpList_append_own_at _ rfl (.tmp 57) (.tmp 59) 120 rfl w.heap.size 3 i0 (.int .i64 0) 1 8 Try.underlying120 Hi.out Hz0.out Hz1.out Hz2.out rfl (by decide) _ _ _ rfl ((ownsRow_grown' HF.out HG2.out).alloc _) ⟨w2.heap.size, 0, none⟩ 1 1 [.int .i64 m] rfl rfl (cell_one_new _ _ _) (by simp [Value.oneCell']) (by unfold maxLen; omega) (by omega) (by have := HG.out.size; have := HG2.out.size; simp; omega) ?_; intro vf' w3 hown hgrow _ hat; have HF3 := hid hown; have HO3 := hid (((ownsRow_grown' HO.out HG2.out).alloc _).kept hgrow HD.out.keep); have HD3 := hid (HD.out.step hat (fun j hj => (((ownsRow_grown' HO.out HG2.out).alloc _).lt j hj).2)); have HG3 := hid ((HG.out.trans (HG2.out.trans (World.grownBy_alloc _ _ _))).andThen hgrow (fun j hj => .inl (HF.out.lt j hj).1)); clear hown hgrow hat)
          | (at_builtin; refine wpList_append_own_at _ rfl (.tmp 61) (.tmp 63) 120 rfl w.heap.size 3 i0 (.int .i64 0) 1 8 Try.underlying120 Hi.out Hz0.out Hz1.out Hz2.out rfl (by decide) _ _ _ rfl (HO3.out.alloc _) ⟨w3.heap.size, 0, none⟩ 1 1 [.int .i64 o] rfl rfl (cell_one_new _ _ _) (by simp [Value.oneCell']) (by unfold maxLen; omega) (by omega) (by have := HG3.out.size; simp; omega) ?_; intro vo' w4 hown hgrow _ hat; have HO4 := hid hown; have HF4 := hid ((HF3.out.alloc _).kept hgrow HD3.out.symm.keep); have HD4 := hid (HD3.out.symm.step hat (fun j hj => ((HF3.out.alloc _).lt j hj).2)); have HG4 := hid ((HG3.out.trans (World.grownBy_alloc _ _ _)).andThen hgrow (fun j hj => .inl (HO3.out.lt j hj).1)); clear hown hgrow hat))
        go_roundw
        case rel => exact ⟨k + 1, hks, by go_num, by rw [HS1.out, icells_snoc]; exact HF4.out, by rw [HS2.out, icells_snoc]; exact HO4.out, HD4.out.symm, HG4.out⟩
        case measure => simp [intOf]; omega
      · obtain rfl : k = s := by omega
        obtain ⟨he, hc⟩ := HErr.out hkn
        rw [he] at HWk
        have hc' : (c != 0) = true := by simpa using hc
        clear he hc ek
        go_wp2_with (go_at_call 27; refine HWk.out.mono ?_; rintro e w2 ⟨rfl, hg⟩; have HG2 := hid hg; clear hg; simp only [walk3])
        go_ret3
        unfold eF eO eC
        rw [if_neg (by omega), if_neg (by omega), if_neg (by omega)]
        exact ⟨_, _, rfl, intsAt_nil _ _, intsAt_nil _ _, HG.out.trans HG2.out⟩
    · obtain rfl : k = n := by omega
      obtain rfl : s = k := by omega
      have hge : ¬ (s : Int) < s := by omega
      clear hkn
      go_wp2
      go_ret3
      unfold eF eO eC
      rw [if_pos rfl, if_pos rfl, if_pos rfl]
      exact ⟨_, _, rfl, intsAt_of HF.out (mks_len _ _ _ _), intsAt_of HO.out (oks_len _ _), HG.out⟩
end Go.Proofs.Ytdjhkacjgdnglaa
