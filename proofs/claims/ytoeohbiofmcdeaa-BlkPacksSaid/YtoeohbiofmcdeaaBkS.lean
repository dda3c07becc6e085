/-
  Package blk: slices.ContainsFunc of segments; fitsRequest.
-/
import Derived.Test.YtoeohbiofmcdeaaBkE
import Derived.Test.YtoeohbiofmcdeaaBkI
import Derived.Test.YtoeohbiofmcdeaaBkK
import Derived.Deep.Cut
set_option linter.unusedSimpArgs false
set_option linter.unusedVariables false
namespace Go.Proofs.Ytoeohbiofmcdeaa.Bk
open Go.RowKit Gen
set_option maxHeartbeats 4000000

/-- a segment's numbers are Go's -/
structure Seg.fits (s : Seg) : Prop where
  ref : I64 s.ref
  first : I64 s.first
  last : I64 s.last
theorem bUnfit (s : Seg) (hf : s.fits) (w : World) : Calls Try.prog 42 #[s.val] w fun e w' => e = .returned (.bool (!s.ok)) ∧ w.grownBy w' none := by
  obtain ⟨r, f, g⟩ := s
  obtain ⟨f1, f2, f3⟩ := hf
  simp only [Seg.val, Seg.ok] at *
  have H1 := hid fun w' => bFits8 r w' f1
  have H2 := hid fun w' => bFits2 f w' f2
  have H3 := hid fun w' => bFits2 g w' f3
  clear f1 f2 f3
  obtain ⟨W, hW⟩ : ∃ W, w.alloc (.cells #[.int .i64 r, .int .i64 f, .int .i64 g] 57) = W := ⟨_, rfl⟩
  have HG0 := hid (show w.grownBy W none from hW ▸ World.grownBy_alloc _ _ _)
  have c0 : W.cell? ⟨w.heap.size, 0, none⟩ = some (.int .i64 r) := by rw [← hW]; simp [go_sem]
  have c1 : W.cell? ⟨w.heap.size, 1, none⟩ = some (.int .i64 f) := by rw [← hW]; simp [go_sem]
  have c2 : W.cell? ⟨w.heap.size, 2, none⟩ = some (.int .i64 g) := by rw [← hW]; simp [go_sem]
  generalize fitsV r 256 = b1 at *
  generalize fitsV f 4 = b2 at *
  generalize fitsV g 4 = b3 at *
  cases b1 with
  | false =>
    clear H2 H3
    go_enter Try.func42, Try.ntmps42
    go_wp2_with (go_at_call 23; refine (H1.out _).mono ?_; rintro e w' ⟨rfl, rfl⟩)
    go_ret
    exact ⟨rfl, HG0.out⟩
  | true =>
  cases b2 with
  | false =>
    clear H3
    go_enter Try.func42, Try.ntmps42
    go_wp2_with (go_at_call 23; first | ((with_reducible refine (H1.out _).mono ?_); rintro e w' ⟨rfl, rfl⟩; clear H1) | ((with_reducible refine (H2.out _).mono ?_); rintro e w' ⟨rfl, rfl⟩))
    go_ret
    exact ⟨rfl, HG0.out⟩
  | true =>
    go_enter Try.func42, Try.ntmps42
    go_wp2_with (go_at_call 23; first | ((with_reducible refine (H1.out _).mono ?_); rintro e w' ⟨rfl, rfl⟩; clear H1) | ((with_reducible refine (H2.out _).mono ?_); rintro e w' ⟨rfl, rfl⟩; clear H2) | ((with_reducible refine (H3.out _).mono ?_); rintro e w' ⟨rfl, rfl⟩))
    go_ret
    exact ⟨by simp, HG0.out⟩
theorem any_next {P : Seg → Bool} {l : List Seg} {k : Nat} {s : Seg} (h : l[k]? = some s) (ha : (l.take k).any P = false) (hs : P s = false) : (l.take (k + 1)).any P = false := by
  rw [take_next h, List.any_append, ha]; simp [hs]
theorem any_hit {P : Seg → Bool} {l : List Seg} {k : Nat} {s : Seg} (h : l[k]? = some s) (hs : P s = true) : l.any P = true := List.any_eq_true.2 ⟨s, List.mem_of_getElem? h, hs⟩
theorem any_all {P : Seg → Bool} {l : List Seg} {k : Nat} (hk : l.length ≤ k) (ha : (l.take k).any P = false) : l.any P = false := by rw [take_all hk] at ha; exact ha
set_option maxRecDepth 100000 in
theorem sIdx_back (l : List Seg) (p : Option Addr) (c : Nat) (w : World) (h : SA w p l) (hl : l.length ≤ 9223372036854775000) :
    Calls Try.prog 43 #[.slice p l.length c, .func (.func 26) #[] #[]] w fun e w' => ∃ k : Int, e = .returned (.int .i64 k) ∧ decide (0 ≤ k) = l.any Seg.back ∧ w.grownBy w' none := by
  have HP := hid h

  obtain ⟨n, hn⟩ : ∃ n, l.length = n := ⟨_, rfl⟩
  have HN := hid hn
  rw [hn] at hl ⊢
  clear h hn
  go_enter Try.func43, Try.ntmps43
  go_wp2
  go_loopw [8] (fun i wr => ∃ k : Nat, i = .int .i64 k ∧ k ≤ n ∧ (l.take k).any Seg.back = false ∧ w.grownBy wr none) (fun i _ => n - (intOf i).toNat)
  case atStart => exact ⟨0, rfl, by omega, by simp, grownBy_refl _ _⟩
  case round =>
    obtain ⟨k, rfl, hk, ha, hg⟩ := hrel
    by_cases hlt : k < n
    · have hlt' : (k : Int) < n := by omega
      have hk0 : (0 : Int) ≤ k := by omega
      obtain ⟨s, hs⟩ : ∃ s, l[k]? = some s := ⟨_, List.getElem?_eq_getElem (by rw [HN.out]; exact hlt)⟩
      obtain ⟨b1, o1, rfl, x0, x1, x2⟩ := (HP.out.grown hg) k s hs
      have HC := hid fun w' => bBack s w'
      have HS := hid hs
      have HA := hid ha
      have HG := hid hg
      obtain ⟨r, hr⟩ : ∃ r, (s.back) = r := ⟨_, rfl⟩
      rw [hr] at HC
      have HR := hid hr
      obtain ⟨v0, v1, v2⟩ := s
      simp only [Seg.val] at x0 x1 x2 HC
      clear hs hr ha hg
      cases r with
      | true =>
        go_wp2_with (go_at_call 26; refine (HC.out _).mono ?_; rintro e w' ⟨rfl, hg2⟩; have HG2 := hid (HG.out.trans hg2); clear hg2)
        go_ret
        exact ⟨k, rfl, by rw [any_hit HS.out HR.out]; simp, HG2.out⟩
      | false =>
        go_wp2_with (go_at_call 26; refine (HC.out _).mono ?_; rintro e w' ⟨rfl, hg2⟩; have HG2 := hid (HG.out.trans hg2); clear hg2)
        go_roundw
        case rel => exact ⟨k + 1, by go_num, hlt, any_next HS.out HA.out HR.out, HG2.out⟩
        case measure => simp [intOf]; omega
    · have hge : ¬ ((k : Int) < n) := by omega
      have HA := hid (any_all (by rw [HN.out]; omega) ha)
      have HG := hid hg
      clear ha hg
      go_wp2
      go_ret
      exact ⟨-1, rfl, by rw [HA.out]; rfl, HG.out⟩
theorem sHas_back (l : List Seg) (p : Option Addr) (c : Nat) (w : World) (h : SA w p l) (hl : l.length ≤ 9223372036854775000) :
    Calls Try.prog 25 #[.slice p l.length c, .func (.func 26) #[] #[]] w fun e w' => e = .returned (.bool (l.any Seg.back)) ∧ w.grownBy w' none := by
  have H := hid (sIdx_back l p c w h hl)
  generalize l.length = n at *
  clear h hl
  go_enter Try.func25, Try.ntmps25
  go_wp2_with (go_at_call 43; refine H.out.mono ?_; rintro e w' ⟨k, rfl, hk, hg⟩; have HK := hid hk; have HG := hid hg; clear hk hg)
  go_ret
  exact ⟨by rw [← HK.out]; rfl, HG.out⟩
set_option maxRecDepth 100000 in
theorem sIdx_unfit (l : List Seg) (p : Option Addr) (c : Nat) (w : World) (h : SA w p l) (hl : l.length ≤ 9223372036854775000) (hf : ∀ s ∈ l, s.fits) :
    Calls Try.prog 43 #[.slice p l.length c, .func (.func 42) #[] #[]] w fun e w' => ∃ k : Int, e = .returned (.int .i64 k) ∧ decide (0 ≤ k) = l.any (fun s => !s.ok) ∧ w.grownBy w' none := by
  have HP := hid h
  have HF := hid hf
  obtain ⟨n, hn⟩ : ∃ n, l.length = n := ⟨_, rfl⟩
  have HN := hid hn
  rw [hn] at hl ⊢
  clear h hn hf
  go_enter Try.func43, Try.ntmps43
  go_wp2
  go_loopw [8] (fun i wr => ∃ k : Nat, i = .int .i64 k ∧ k ≤ n ∧ (l.take k).any (fun s => !s.ok) = false ∧ w.grownBy wr none) (fun i _ => n - (intOf i).toNat)
  case atStart => exact ⟨0, rfl, by omega, by simp, grownBy_refl _ _⟩
  case round =>
    obtain ⟨k, rfl, hk, ha, hg⟩ := hrel
    by_cases hlt : k < n
    · have hlt' : (k : Int) < n := by omega
      have hk0 : (0 : Int) ≤ k := by omega
      obtain ⟨s, hs⟩ : ∃ s, l[k]? = some s := ⟨_, List.getElem?_eq_getElem (by rw [HN.out]; exact hlt)⟩
      obtain ⟨b1, o1, rfl, x0, x1, x2⟩ := (HP.out.grown hg) k s hs
      have HC := hid fun w' => bUnfit s (HF.out s (List.mem_of_getElem? hs)) w'
      have HS := hid hs
      have HA := hid ha
      have HG := hid hg
      obtain ⟨r, hr⟩ : ∃ r, (!s.ok) = r := ⟨_, rfl⟩
      rw [hr] at HC
      have HR := hid hr
      obtain ⟨v0, v1, v2⟩ := s
      simp only [Seg.val] at x0 x1 x2 HC
      clear hs hr ha hg
      cases r with
      | true =>
        go_wp2_with (go_at_call 42; refine (HC.out _).mono ?_; rintro e w' ⟨rfl, hg2⟩; have HG2 := hid (HG.out.trans hg2); clear hg2)
        go_ret
        exact ⟨k, rfl, by rw [any_hit HS.out HR.out]; simp, HG2.out⟩
      | false =>
        go_wp2_with (go_at_call 42; refine (HC.out _).mono ?_; rintro e w' ⟨rfl, hg2⟩; have HG2 := hid (HG.out.trans hg2); clear hg2)
        go_roundw
        case rel => exact ⟨k + 1, by go_num, hlt, any_next HS.out HA.out HR.out, HG2.out⟩
        case measure => simp [intOf]; omega
    · have hge : ¬ ((k : Int) < n) := by omega
      have HA := hid (any_all (by rw [HN.out]; omega) ha)
      have HG := hid hg
      clear ha hg
      go_wp2
      go_ret
      exact ⟨-1, rfl, by rw [HA.out]; rfl, HG.out⟩
theorem sHas_unfit (l : List Seg) (p : Option Addr) (c : Nat) (w : World) (h : SA w p l) (hl : l.length ≤ 9223372036854775000) (hf : ∀ s ∈ l, s.fits) :
    Calls Try.prog 25 #[.slice p l.length c, .func (.func 42) #[] #[]] w fun e w' => e = .returned (.bool (l.any (fun s => !s.ok))) ∧ w.grownBy w' none := by
  have H := hid (sIdx_unfit l p c w h hl hf)
  generalize l.length = n at *
  clear h hl hf
  go_enter Try.func25, Try.ntmps25
  go_wp2_with (go_at_call 43; refine H.out.mono ?_; rintro e w' ⟨k, rfl, hk, hg⟩; have HK := hid hk; have HG := hid hg; clear hk hg)
  go_ret
  exact ⟨by rw [← HK.out]; rfl, HG.out⟩
theorem all_any (l : List Seg) : l.all Seg.ok = !l.any (fun s => !s.ok) := by
  induction l with
  | nil => rfl
  | cons s l ih => simp only [List.all_cons, List.any_cons, ih]; cases s.ok <;> simp
/-- a request's numbers but for the page -/
def Rq.ok (r : Rq) : Bool := decide (0 ≤ r.op) && decide (r.op ≤ 2) && fitsV r.id 65536 && fitsV r.sec 4294967296 && r.segs.all Seg.ok
structure Rq.fits (r : Rq) : Prop where
  op : I64 r.op
  id : I64 r.id
  sec : I64 r.sec
  segs : ∀ s ∈ r.segs, s.fits
def Rq.val (r : Rq) (p : Option Addr) (c : Nat) : Value := .agg #[.int .i64 r.op, .int .i64 r.id, .int .i64 r.sec, .slice p r.segs.length c]
theorem bFitsRq (r : Rq) (hf : r.fits) (p : Option Addr) (c : Nat) (w : World) (h : SA w p r.segs) (hl : r.segs.length ≤ 9223372036854775000) : Calls Try.prog 22 #[r.val p c] w fun e w' => e = .returned (.bool r.ok) ∧ w.grownBy w' none := by
  obtain ⟨op, id, sec, segs⟩ := r
  obtain ⟨f1, f2, f3, f4⟩ := hf
  simp only [Rq.val, Rq.ok] at *
  rw [all_any]
  have H2 := hid fun w' => bFits16 id w' f2
  have H3 := hid fun w' => bFits32 sec w' f3
  have H4 := hid fun w' (h' : SA w' p segs) => sHas_unfit segs p c w' h' hl f4
  generalize segs.any (fun s => !s.ok) = b4 at *
  generalize fitsV id 65536 = b2 at *
  generalize fitsV sec 4294967296 = b3 at *
  have HS := hid h
  clear f1 f2 f3 f4 h hl
  obtain ⟨b0, hb0⟩ : ∃ b, decide (op < 0) = b := ⟨_, rfl⟩
  obtain ⟨b1, hb1⟩ : ∃ b, decide (2 < op) = b := ⟨_, rfl⟩
  have e0 : decide (0 ≤ op) = !b0 := by rw [← hb0]; by_cases x : op < 0 <;> simp [x] <;> omega
  have e1 : decide (op ≤ 2) = !b1 := by rw [← hb1]; by_cases x : 2 < op <;> simp [x] <;> omega
  rw [e0, e1]
  clear e0 e1
  generalize segs.length = n at *
  obtain ⟨W, hW⟩ : ∃ W, w.alloc (.cells #[.int .i64 op, .int .i64 id, .int .i64 sec, .slice p n c] 24) = W := ⟨_, rfl⟩
  have HG0 := hid (show w.grownBy W none from hW ▸ World.grownBy_alloc _ _ _)
  have c0 : W.cell? ⟨w.heap.size, 0, none⟩ = some (.int .i64 op) := by rw [← hW]; simp [go_sem]
  have c1 : W.cell? ⟨w.heap.size, 1, none⟩ = some (.int .i64 id) := by rw [← hW]; simp [go_sem]
  have c2 : W.cell? ⟨w.heap.size, 2, none⟩ = some (.int .i64 sec) := by rw [← hW]; simp [go_sem]
  have c3 : W.cell? ⟨w.heap.size, 3, none⟩ = some (.slice p n c) := by rw [← hW]; simp [go_sem]
  have hh : b0 = true ∨ (b0 = false ∧ b1 = true) ∨ (b0 = false ∧ b1 = false ∧ b2 = false) ∨ (b0 = false ∧ b1 = false ∧ b2 = true ∧ b3 = false) ∨ (b0 = false ∧ b1 = false ∧ b2 = true ∧ b3 = true) := by
    clear hb0 hb1; cases b0 <;> cases b1 <;> cases b2 <;> cases b3 <;> simp
  rcases hh with rfl | ⟨rfl, rfl⟩ | ⟨rfl, rfl, rfl⟩ | ⟨rfl, rfl, rfl, rfl⟩ | ⟨rfl, rfl, rfl, rfl⟩
  · go_enter Try.func22, Try.ntmps22
    go_wp2
    go_ret
    exact ⟨by simp, HG0.out⟩
  · go_enter Try.func22, Try.ntmps22
    go_wp2
    go_ret
    exact ⟨by simp, HG0.out⟩
  · go_enter Try.func22, Try.ntmps22
    go_wp2_with (go_at_call 23; refine (H2.out _).mono ?_; rintro e w' ⟨rfl, rfl⟩)
    go_ret
    exact ⟨by simp, HG0.out⟩
  · go_enter Try.func22, Try.ntmps22
    go_wp2_with (go_at_call 23; first | ((with_reducible refine (H2.out _).mono ?_); rintro e w' ⟨rfl, rfl⟩) | ((with_reducible refine (H3.out _).mono ?_); rintro e w' ⟨rfl, rfl⟩))
    go_ret
    exact ⟨by simp, HG0.out⟩
  · go_enter Try.func22, Try.ntmps22
    go_wp2_with (first
      | (go_at_call 23; first | ((with_reducible refine (H2.out _).mono ?_); rintro e w' ⟨rfl, rfl⟩) | ((with_reducible refine (H3.out _).mono ?_); rintro e w' ⟨rfl, rfl⟩))
      | (go_at_call 25; refine (H4.out _ (HS.out.grown HG0.out)).mono ?_; rintro e w' ⟨rfl, g4⟩; have G4 := hid g4; clear g4))
    go_ret
    exact ⟨by simp, HG0.out.trans G4.out⟩
end Go.Proofs.Ytoeohbiofmcdeaa.Bk
