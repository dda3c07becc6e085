/-
  Package mmu: a reference as a table is taken, goes.
-/
import Derived.Test.YtbbaplcfhofeeaaK09
import Derived.ArgAppend
set_option linter.unusedSimpArgs false
set_option linter.unusedVariables false
namespace Go.Proofs.Ytbbaplcfhofeeaa
open Go.RowKit
set_option maxHeartbeats 1000000

/-- the level of a kind, as levelBy answers it -/
def LvBy (K fn : Nat) : Prop := ∀ wd : World, Calls Try.prog 59 #[.int .i64 K] wd fun x w' => x = .returned (.tuple #[.agg #[.int .i64 K, .func (.func fn) #[] #[]], .bool true]) ∧ wd.grownBy w' none
theorem lvBy2 : LvBy 2 69 := levelBy_2
theorem lvBy3 : LvBy 3 70 := levelBy_3
set_option maxRecDepth 100000 in
theorem xtakeK (B X K fn : Nat) (tk : Mach → Int → Nat → Int × Mach) (o i : Int) (w : World) (M : Mach) (T : Int) (h : XM w w B X M) (hok : M.ok T) (hT : T < 4611686018427387904) (hlv : LvBy K fn)
    (hv : (M.get i o K).1 = 0 → ¬ 1 < ((M.get i o K).2.fr i.toNat).cnt → ∀ W, XM W W B X (M.get i o K).2 → Calls Try.prog 61 #[.pointer (some ⟨X, 0, none⟩), .int .i64 o, .int .i64 i, .agg #[.int .i64 K, .func (.func fn) #[] #[]]] W fun e w' => e = .returned (.int .i64 (ents tk (M.get i o K).2 o i.toNat 64).1) ∧ XM W w' B X (if (ents tk (M.get i o K).2 o i.toNat 64).1 = 0 then (ents tk (M.get i o K).2 o i.toNat 64).2 else M)) :
    Calls Try.prog 48 #[.pointer (some ⟨X, 0, none⟩), .int .i64 o, .int .i64 i, .int .i64 K] w fun e w' => e = .returned (.int .i64 (tabG K tk M o i).1) ∧ XM w w' B X (tabG K tk M o i).2 := by
  have hx := h.x
  have H := hid h
  have HL := hid hlv
  have HG := hid (Get_any B i o K w M T h.m hok (by omega))
  have HO := hid (Mach.get_ok hok i o K)
  have HNo := hid (M.get_no i o K)
  unfold tabG
  obtain ⟨r, hr⟩ : ∃ r, M.get i o K = r := ⟨_, rfl⟩
  have HI := hid (show r.1 = 0 → r.2.is i = true from fun e => by rw [← hr] at e ⊢; rw [(M.get_same i o K).is]; exact Mach.get_is e)
  rw [hr] at HG HO HNo ⊢
  rw [hr] at hv
  obtain ⟨c, M'⟩ := r
  have HV := hid hv
  clear h hok hr hlv hv
  simp only at HV HI HO HNo ⊢
  by_cases h0 : c = 0
  · subst h0
    have hi := Mach.is_iff.1 (HI.out rfl)
    obtain ⟨j, rfl⟩ := Int.eq_ofNat_of_zero_le hi.1
    have HJ := hid hi.2
    clear hi HI
    simp only [ne_eq, not_true, if_false, Int.toNat_natCast] at HV ⊢
    by_cases h1 : 1 < (M'.fr j).cnt
    · rw [if_pos h1]
      go_enter Try.func48, Try.ntmps48
      go_wp2_with (first
        | (go_at_call 46; refine HG.out.mono ?_; rintro e w1 ⟨rfl, hm, g1⟩; have H1 := hid (H.out.put hm g1); clear hm g1)
        | (go_at_call 59; refine (HL.out _).mono ?_; rintro e w2 ⟨rfl, g2⟩; have H2 := hid (H1.out.more (g2.trans (World.grownBy_alloc w2 (.cells #[.int .i64 K, .func (.func fn) #[] #[]] 123) none))); have hx2 := H2.out.x; have l0 : (w2.alloc (.cells #[.int .i64 K, .func (.func fn) #[] #[]] 123)).cell? ⟨w2.heap.size, 0, none⟩ = some (.int .i64 K) := (by simp [go_sem]); have l1 : (w2.alloc (.cells #[.int .i64 K, .func (.func fn) #[] #[]] 123)).cell? ⟨w2.heap.size, 1, none⟩ = some (.func (.func fn) #[] #[]) := (by simp [go_sem]); clear g2)
        | (go_at_call 60; refine (Frame_out B j _ M' _ H2.out.m HO.out HJ.out).mono ?_; rintro e w3 ⟨rfl, g3⟩; have g3' := (g3.trans (World.grownBy_alloc w3 (.cells #[.int .i64 (M'.fr j).owner, .int .i64 (M'.fr j).ty, .int .i64 (M'.fr j).cnt, .int .i64 (M'.fr j).tot] 62) none)); have H3 := hid (H2.out.more g3'); have m0 := g3'.cell l0 (by simp); have m1 := g3'.cell l1 (by simp); clear g3 g3' l0 l1))
      go_ret
      exact ⟨rfl, H3.out⟩
    · rw [if_neg h1]
      have h1' : (M'.fr j).cnt ≤ 1 := by omega
      have HV' := hid (HV.out trivial h1)
      obtain ⟨a, ha⟩ : ∃ a, (ents tk M' o j 64).1 = a := ⟨_, rfl⟩
      obtain ⟨Mv, hMv⟩ : ∃ Mv, (if (ents tk M' o j 64).1 = 0 then (ents tk M' o j 64).2 else M) = Mv := ⟨_, rfl⟩
      have hres : (if (ents tk M' o j 64).1 = 0 then ((0 : Int), (ents tk M' o j 64).2) else ((ents tk M' o j 64).1, M)) = (a, Mv) := by
        rw [← ha, ← hMv]; split
        · rename_i e; rw [e]
        · rfl
      rw [hres]
      rw [hMv, ha] at HV'
      clear ha hMv hres HV
      go_enter Try.func48, Try.ntmps48
      go_wp2_with (first
        | (go_at_call 46; refine HG.out.mono ?_; rintro e w1 ⟨rfl, hm, g1⟩; have H1 := hid (H.out.put hm g1); clear hm g1)
        | (go_at_call 59; refine (HL.out _).mono ?_; rintro e w2 ⟨rfl, g2⟩; have H2 := hid (H1.out.more (g2.trans (World.grownBy_alloc w2 (.cells #[.int .i64 K, .func (.func fn) #[] #[]] 123) none))); have hx2 := H2.out.x; have l0 : (w2.alloc (.cells #[.int .i64 K, .func (.func fn) #[] #[]] 123)).cell? ⟨w2.heap.size, 0, none⟩ = some (.int .i64 K) := (by simp [go_sem]); have l1 : (w2.alloc (.cells #[.int .i64 K, .func (.func fn) #[] #[]] 123)).cell? ⟨w2.heap.size, 1, none⟩ = some (.func (.func fn) #[] #[]) := (by simp [go_sem]); clear g2)
        | (go_at_call 60; refine (Frame_out B j _ M' _ H2.out.m HO.out HJ.out).mono ?_; rintro e w3 ⟨rfl, g3⟩; have g3' := (g3.trans (World.grownBy_alloc w3 (.cells #[.int .i64 (M'.fr j).owner, .int .i64 (M'.fr j).ty, .int .i64 (M'.fr j).cnt, .int .i64 (M'.fr j).tot] 62) none)); have H3 := hid (H2.out.more g3'); have m0 := g3'.cell l0 (by simp); have m1 := g3'.cell l1 (by simp); clear g3 g3' l0 l1)
        | (go_at_call 61; refine (HV'.out _ H3.out.here).mono ?_; rintro e w4 ⟨rfl, h4⟩; have H4 := hid (H3.out.step h4); clear h4))
      go_ret
      exact ⟨rfl, H4.out⟩
  · have h0b : (c == 0) = false := by simp [h0]
    obtain rfl := HNo.out h0
    rw [if_pos h0]
    by_cases h13 : c = 13
    · subst h13
      go_enter Try.func48, Try.ntmps48
      go_wp2_with (go_at_call 46; refine HG.out.mono ?_; rintro e w1 ⟨rfl, hm, g1⟩; have H1 := hid (H.out.put hm g1); clear hm g1)
      go_ret
      exact ⟨rfl, H1.out⟩
    · have h13b : (c == 13) = false := by simp [h13]
      rw [refused_ne h0 h13]
      clear h0 h13
      go_enter Try.func48, Try.ntmps48
      go_wp2_with (go_at_call 46; refine HG.out.mono ?_; rintro e w1 ⟨rfl, hm, g1⟩; have H1 := hid (H.out.put hm g1); clear hm g1)
      go_ret
      exact ⟨rfl, H1.out⟩
set_option maxRecDepth 100000 in
theorem xdropK (B X K fn lv j : Nat) (dp : Mach → Nat × Nat → Mach) (w : World) (M : Mach) (T : Int) (h : XM w w B X M) (hok : M.ok T) (hT : T < 4611686018427387904) (hlv : LvBy K fn) (hp : (M.put j K).1 = 0)
    (hd : ¬ 0 < ((M.put j K).2.fr j).cnt → ∀ W, XM W W B X (M.put j K).2 → Calls Try.prog 62 #[.pointer (some ⟨X, 0, none⟩), .int .i64 j, .agg #[.int .i64 K, .func (.func fn) #[] #[]], .int .i64 64] W fun e w' => e = .returned (.tuple #[]) ∧ XM W w' B X ((M.refs lv j 64).foldl dp (M.put j K).2)) :
    Calls Try.prog 49 #[.pointer (some ⟨X, 0, none⟩), .int .i64 j, .int .i64 K] w fun e w' => e = .returned (.tuple #[]) ∧ XM w w' B X (untabG lv K dp M j) := by
  have hx := h.x
  have H := hid h
  have HL := hid hlv
  have HG := hid (Put_any B j K w M T h.m hok (by omega))
  have HO := hid (Mach.put_ok hok j K)
  have hi := Mach.is_iff.1 (Mach.put_is hp)
  have HJ := hid (show (j : Int) < (M.put j K).2.n by rw [(M.put_same j K).n]; exact hi.2)
  unfold untabG
  obtain ⟨r, hr⟩ : ∃ r, M.put j K = r := ⟨_, rfl⟩
  rw [hr] at HG HO HJ hp ⊢
  rw [hr] at hd
  obtain ⟨c, M'⟩ := r
  simp only at hp hd HO HJ ⊢
  subst hp
  have HD := hid hd
  have hnn : 0 ≤ (M'.fr j).cnt := ((HO.out.fr j HJ.out).1).c0
  clear h hok hr hlv hd hi
  by_cases h1 : 0 < (M'.fr j).cnt
  · rw [if_pos h1]
    have h1b : ((M'.fr j).cnt == 0) = false := by simp; omega
    go_enter Try.func49, Try.ntmps49
    go_wp2_with (first
      | (go_at_call 38; refine HG.out.mono ?_; rintro e w1 ⟨rfl, hm, g1⟩; have H1 := hid (H.out.put hm g1); clear hm g1)
      | (go_at_call 59; refine (HL.out _).mono ?_; rintro e w2 ⟨rfl, g2⟩; have H2 := hid (H1.out.more (g2.trans (World.grownBy_alloc w2 (.cells #[.int .i64 K, .func (.func fn) #[] #[]] 123) none))); have hx2 := H2.out.x; have l0 : (w2.alloc (.cells #[.int .i64 K, .func (.func fn) #[] #[]] 123)).cell? ⟨w2.heap.size, 0, none⟩ = some (.int .i64 K) := (by simp [go_sem]); have l1 : (w2.alloc (.cells #[.int .i64 K, .func (.func fn) #[] #[]] 123)).cell? ⟨w2.heap.size, 1, none⟩ = some (.func (.func fn) #[] #[]) := (by simp [go_sem]); clear g2)
      | (go_at_call 60; refine (Frame_out B j _ M' _ H2.out.m HO.out HJ.out).mono ?_; rintro e w3 ⟨rfl, g3⟩; have g3' := (g3.trans (World.grownBy_alloc w3 (.cells #[.int .i64 (M'.fr j).owner, .int .i64 (M'.fr j).ty, .int .i64 (M'.fr j).cnt, .int .i64 (M'.fr j).tot] 62) none)); have H3 := hid (H2.out.more g3'); have m0 := g3'.cell l0 (by simp); have m1 := g3'.cell l1 (by simp); clear g3 g3' l0 l1))
    first | go_end0 | ((try simp only [Exit.inBlock, Exit.then]); refine bodyPost_ret (results_none rfl _ _ _) rfl ?_)
    exact ⟨rfl, H3.out⟩
  · rw [if_neg h1]
    have h1b : ((M'.fr j).cnt == 0) = true := by simp; omega
    have HD' := hid (HD.out h1)
    clear HD
    go_enter Try.func49, Try.ntmps49
    go_wp2_with (first
      | (go_at_call 38; refine HG.out.mono ?_; rintro e w1 ⟨rfl, hm, g1⟩; have H1 := hid (H.out.put hm g1); clear hm g1)
      | (go_at_call 59; refine (HL.out _).mono ?_; rintro e w2 ⟨rfl, g2⟩; have H2 := hid (H1.out.more (g2.trans (World.grownBy_alloc w2 (.cells #[.int .i64 K, .func (.func fn) #[] #[]] 123) none))); have hx2 := H2.out.x; have l0 : (w2.alloc (.cells #[.int .i64 K, .func (.func fn) #[] #[]] 123)).cell? ⟨w2.heap.size, 0, none⟩ = some (.int .i64 K) := (by simp [go_sem]); have l1 : (w2.alloc (.cells #[.int .i64 K, .func (.func fn) #[] #[]] 123)).cell? ⟨w2.heap.size, 1, none⟩ = some (.func (.func fn) #[] #[]) := (by simp [go_sem]); clear g2)
      | (go_at_call 60; refine (Frame_out B j _ M' _ H2.out.m HO.out HJ.out).mono ?_; rintro e w3 ⟨rfl, g3⟩; have g3' := (g3.trans (World.grownBy_alloc w3 (.cells #[.int .i64 (M'.fr j).owner, .int .i64 (M'.fr j).ty, .int .i64 (M'.fr j).cnt, .int .i64 (M'.fr j).tot] 62) none)); have H3 := hid (H2.out.more g3'); have m0 := g3'.cell l0 (by simp); have m1 := g3'.cell l1 (by simp); clear g3 g3' l0 l1)
      | (go_at_call 62; refine (HD'.out _ H3.out.here).mono ?_; rintro e w4 ⟨rfl, h4⟩; have H4 := hid (H3.out.step h4); clear h4))
    first | go_end0 | ((try simp only [Exit.inBlock, Exit.then]); refine bodyPost_ret (results_none rfl _ _ _) rfl ?_)
    exact ⟨rfl, H4.out⟩
end Go.Proofs.Ytbbaplcfhofeeaa

/-
  Package mmu: references as tables of both levels, whole.
-/
set_option linter.unusedSimpArgs false
set_option linter.unusedVariables false
namespace Go.Proofs.Ytbbaplcfhofeeaa
open Go.RowKit
set_option maxHeartbeats 1000000

theorem take1_ok {M : Mach} {T : Int} (h : M.ok T) (o : Int) (n : Nat) : (take1 M o n).2.ok (T + 1) := by
  unfold take1
  split
  · exact h.mono (by omega)
  split
  · exact h.mono (by omega)
  · exact Mach.get_ok h _ _ _
theorem ents_ok' {tk : Mach → Int → Nat → Int × Mach} {c : Nat} (htk : ∀ {M : Mach} {T : Int}, M.ok T → ∀ o n, (tk M o n).2.ok (T + c)) {M : Mach} {T : Int} (h : M.ok T) (o : Int) (t k : Nat) : (ents tk M o t k).2.ok (T + (c * k : Nat)) := by
  induction k with
  | zero => simpa [ents] using h
  | succ k ih =>
    unfold ents
    split
    · have := htk ih o (M.word t k)
      rwa [Int.add_assoc, ← Int.natCast_add] at this
    · exact ih.mono (by have : c * k ≤ c * (k + 1) := Nat.mul_le_mul_left _ (by omega); omega)
set_option maxRecDepth 100000 in
theorem tabG_ok' {K : Nat} {tk : Mach → Int → Nat → Int × Mach} {c : Nat} (htk : ∀ {M : Mach} {T : Int}, M.ok T → ∀ o n, (tk M o n).2.ok (T + c)) {M : Mach} {T : Int} (h : M.ok T) (o t : Int) : (tabG K tk M o t).2.ok (T + (1 + c * 64 : Nat)) := by
  have hg := Mach.get_ok h t o K
  have he := ents_ok' htk hg o t.toNat 64
  unfold tabG
  split
  · exact h.mono (by omega)
  split
  · exact hg.mono (by omega)
  split
  · exact he.mono (by omega)
  · exact h.mono (by omega)
theorem take2_ok {M : Mach} {T : Int} (h : M.ok T) (o : Int) (n : Nat) : (take2 M o n).2.ok (T + (65 : Nat)) := by
  unfold take2
  split
  · exact h.mono (by omega)
  split
  · exact h.mono (by omega)
  · exact tabG_ok' (c := 1) (fun h o n => take1_ok h o n) h _ _
theorem dp1_ok {M : Mach} {T : Int} (h : M.ok T) (r : Nat × Nat) : (dp1 M r).ok T := Mach.put_ok h _ _
theorem foldl_ok {f : Mach → Nat × Nat → Mach} {T : Int} (hf : ∀ {M : Mach}, M.ok T → ∀ r, (f M r).ok T) : ∀ (l : List (Nat × Nat)) {M : Mach}, M.ok T → (l.foldl f M).ok T
  | [], _, h => h
  | r :: l, _, h => foldl_ok hf l (hf h r)
theorem untabG_ok' {lv K : Nat} {dp : Mach → Nat × Nat → Mach} {T : Int} (hf : ∀ {M : Mach}, M.ok T → ∀ r, (dp M r).ok T) {M : Mach} (h : M.ok T) (t : Nat) : (untabG lv K dp M t).ok T := by
  unfold untabG
  split
  · exact Mach.put_ok h _ _
  · exact foldl_ok hf _ (Mach.put_ok h _ _)
theorem dp2_ok {M : Mach} {T : Int} (h : M.ok T) (r : Nat × Nat) : (dp2 M r).ok T := untabG_ok' dp1_ok h _
theorem leaveG_ok' {lv : Nat} {dp : Mach → Nat × Nat → Mach} {T : Int} (hf : ∀ {M : Mach}, M.ok T → ∀ r, (dp M r).ok T) {M : Mach} (h : M.ok T) (n : Nat) : (leaveG lv dp M n).ok T := by
  unfold leaveG; split
  · exact h
  · exact hf h _
theorem foldl_leave (lv : Nat) (dp : Mach → Nat × Nat → Mach) (M N : Mach) (t j : Nat) : (N.refs lv t (j + 1)).foldl dp M = leaveG lv dp ((N.refs lv t j).foldl dp M) (N.word t j) := by
  rw [Mach.refs_succ, List.foldl_append]
  unfold leaveG
  cases rf lv (N.word t j) <;> rfl
theorem refs_split (M : Mach) (lv t j k : Nat) (h : j < k) : ∃ tl, M.refs lv t k = M.refs lv t j ++ ((rf lv (M.word t j)).toList ++ tl) := by
  induction k with
  | zero => omega
  | succ k ih =>
    by_cases e : j = k
    · subst e; exact ⟨[], by rw [Mach.refs_succ, List.append_nil]⟩
    · obtain ⟨tl, htl⟩ := ih (by omega)
      exact ⟨tl ++ (rf lv (M.word t k)).toList, by rw [Mach.refs_succ, htl]; simp [List.append_assoc]⟩
theorem Cnt.sub_add (C : Cnt) (i k : Nat) (hp : 0 < C i k) : Cnt.add (fun a b => C a b - if a = i ∧ b = k then 1 else 0) i k = C := by
  funext a b
  unfold Cnt.add
  by_cases g : a = i ∧ b = k
  · obtain ⟨rfl, rfl⟩ := g; simp; omega
  · simp [g]
theorem CHolds.put_ok0 {M : Mach} {C : Cnt} {i k : Nat} (h : CHolds M C) (hp : 0 < C i k) (hi : (i : Int) < M.n) (hk : k ≤ 3) : (M.put i k).1 = 0 :=
  (CHolds.put (C := fun a b => C a b - if a = i ∧ b = k then 1 else 0) (i := i) (k := k) (by rw [C.sub_add i k hp]; exact h) hi hk).1
theorem CHolds.put_cnt {M : Mach} {C : Cnt} {i k : Nat} (h : CHolds M C) (hp : 0 < C i k) (hi : (i : Int) < M.n) (hk : k ≤ 3) (k0 : k ≠ 0) : ((M.put i k).2.fr i).cnt = (M.fr i).cnt - 1 :=
  (CHolds.put (C := fun a b => C a b - if a = i ∧ b = k then 1 else 0) (i := i) (k := k) (by rw [C.sub_add i k hp]; exact h) hi hk).2.2 k0

section
variable {B X : Nat} {w : World} {M : Mach} {T : Int}
theorem xte1 (h : XM w w B X M) (hok : M.ok T) (hT : T < 4611686018427387904) (o : Int) (n : Nat) (hn : n < 4294967296) :
    Calls Try.prog 67 #[.pointer (some ⟨X, 0, none⟩), .int .i64 o, .int .u32 n, .agg #[.int .i64 (2 : Nat), .func (.func 69) #[] #[]]] w fun e w' => e = .returned (.int .i64 (take1 M o n).1) ∧ XM w w' B X (take1 M o n).2 :=
  xtakeEntry1 B X o n w M (refusedV (M.get (unpackV n).1.mfn o (kindOf (unpackV n).1.w : Nat)).1, (M.get (unpackV n).1.mfn o (kindOf (unpackV n).1.w : Nat)).2) h hn fun W hW => xtake0 B X o _ _ (kindOf_le _) W M T hW hok hT
theorem leave1_eq (M : Mach) (n : Nat) : leaveG 1 dp1 M n = if (unpackV n).1.p = false then M else (M.put (unpackV n).1.mfn (kindOf (unpackV n).1.w : Nat)).2 := by
  unfold leaveG
  cases hp : (unpackV n).1.p with
  | false => rw [rf_none hp, if_pos rfl]
  | true =>
    simp only [rf_some hp, Bool.true_eq_false, if_false, dp1]
    rw [Int.toNat_of_nonneg (unpackV_mfn n)]
    rfl
theorem xde1 (h : XM w w B X M) (hok : M.ok T) (hT : T < 4611686018427387904) (n : Nat) (hn : n < 4294967296) :
    Calls Try.prog 68 #[.pointer (some ⟨X, 0, none⟩), .int .u32 n, .agg #[.int .i64 (2 : Nat), .func (.func 69) #[] #[]]] w fun e w' => e = .returned (.tuple #[]) ∧ XM w w' B X (leaveG 1 dp1 M n) := by
  rw [leave1_eq]
  exact xdropEntry1 B X n w M _ h hn fun _ W hW => xdrop0 B X _ _ (kindOf_le _) W M T hW hok (by omega)
theorem xdes1 (h : XM w w B X M) (hok : M.ok T) (hT : T < 4611686018427387904) (t k : Nat) (hk : k ≤ 64) (ht : (t : Int) < M.n) :
    Calls Try.prog 62 #[.pointer (some ⟨X, 0, none⟩), .int .i64 t, .agg #[.int .i64 (2 : Nat), .func (.func 69) #[] #[]], .int .i64 k] w fun e w' => e = .returned (.tuple #[]) ∧ XM w w' B X ((M.refs 1 t k).foldl dp1 M) :=
  xdropEntries B X 2 69 t k hk w (fun j => (M.refs 1 t j).foldl dp1 M) T h (fun j _ => foldl_ok dp1_ok _ hok) ht (fun j _ => foldl_same lvl1.dp_same _ _) fun j hj W hW => by
    have := xde1 hW (foldl_ok dp1_ok _ hok) hT (M.word t j) (Mach.word_lt _ _ _)
    rw [← foldl_leave] at this
    exact this
theorem leave2_eq (M : Mach) (n : Nat) : leaveG 2 dp2 M n = if (unpackV n).1.p = false then M else untabG 1 2 dp1 M (unpackV n).1.mfn.toNat := by
  unfold leaveG
  cases hp : (unpackV n).1.p with
  | false => rw [rf_none hp, if_pos rfl]
  | true => simp only [rf_some hp, Bool.true_eq_false, if_false, dp2]
set_option maxRecDepth 100000 in
theorem xva1 {C : Cnt} (hC : CHolds M C) {o : Int} {i : Int} (hg : (M.get i o (2 : Nat)).1 = 0) (h : XM w w B X (M.get i o (2 : Nat)).2) (hok : M.ok T) (hT : T + 1000 < 4611686018427387904) :
    Calls Try.prog 61 #[.pointer (some ⟨X, 0, none⟩), .int .i64 o, .int .i64 i, .agg #[.int .i64 (2 : Nat), .func (.func 69) #[] #[]]] w fun e w' =>
      e = .returned (.int .i64 (ents take1 (M.get i o (2 : Nat)).2 o i.toNat 64).1) ∧ XM w w' B X (if (ents take1 (M.get i o (2 : Nat)).2 o i.toNat 64).1 = 0 then (ents take1 (M.get i o (2 : Nat)).2 o i.toNat 64).2 else M) := by
  have hi := Mach.is_iff.1 (Mach.get_is hg)
  obtain ⟨t, rfl⟩ := Int.eq_ofNat_of_zero_le hi.1
  have hok1 := Mach.get_ok hok t o (2 : Nat)
  have s1 := M.get_same t o (2 : Nat)
  have hund := fun k hk => undo lvl1 hC hg k hk _ (List.Perm.refl _)
  simp only [Int.toNat_natCast] at hund ⊢
  have ht1 : (t : Int) < (M.get t o (2 : Nat)).2.n := by rw [s1.n]; exact hi.2
  generalize (M.get t o (2 : Nat)).2 = M1 at *
  have hes : ∀ j, j ≤ 64 → (ents take1 M1 o t j).2.ok (T + 100) := fun j hj => (ents_ok' (c := 1) (fun h o n => take1_ok h o n) hok1 o t j).mono (by omega)
  refine xvalidate B X 2 69 t o w M (fun j => ents take1 M1 o t j) (fun j => (M1.refs 1 t j).foldl dp1 (ents take1 M1 o t (j + 1)).2) (T + 200) h rfl (fun j hj => (hes j hj).mono (by omega)) (fun j hj => ?_) (by omega) ht1 (fun j _ => ents_same lvl1 _ _ _ _)
    (fun j _ he => by show (if _ then _ else _) = _; rw [if_neg he]) (fun j _ he W hW => ?_) (fun j hj he hne => ⟨fun W hW => ?_, ?_⟩)
  · refine foldl_ok dp1_ok _ ?_
    exact (ents_ok' (c := 1) (fun h o n => take1_ok h o n) hok1 o t (j + 1)).mono (by omega)
  · have := xte1 hW (hes j (by omega)) (by omega) o (M1.word t j) (Mach.word_lt _ _ _)
    have e : ents take1 M1 o t (j + 1) = take1 (ents take1 M1 o t j).2 o (M1.word t j) := by show (if _ then _ else _) = _; rw [if_pos he]
    rw [e]
    exact this
  · have s2 := ents_same lvl1 M1 o t (j + 1)
    have := xdes1 hW (hes (j + 1) (by omega)) (by omega) t j (by omega) (by rw [s2.n]; exact ht1)
    rw [Mach.refs_bs (s2.bs t)] at this
    exact this
  · have e : (ents take1 M1 o t (j + 1)).2 = (ents take1 M1 o t j).2 := by
      have e : ents take1 M1 o t (j + 1) = take1 (ents take1 M1 o t j).2 o (M1.word t j) := by show (if _ then _ else _) = _; rw [if_pos he]
      rw [e] at hne ⊢
      exact lvl1.tk_no hne
    simp only [e]
    exact (hund j he).1
theorem xta1 {C : Cnt} (hC : CHolds M C) (h : XM w w B X M) (hok : M.ok T) (hT : T + 1000 < 4611686018427387904) (o i : Int) :
    Calls Try.prog 48 #[.pointer (some ⟨X, 0, none⟩), .int .i64 o, .int .i64 i, .int .i64 (2 : Nat)] w fun e w' => e = .returned (.int .i64 (tabG 2 take1 M o i).1) ∧ XM w w' B X (tabG 2 take1 M o i).2 :=
  xtakeK B X 2 69 take1 o i w M T h hok (by omega) lvBy2 fun hg _ W hW => xva1 hC hg hW hok hT
theorem xdr1 (h : XM w w B X M) (hok : M.ok T) (hT : T < 4611686018427387904) (j : Nat) (hp : (M.put j (2 : Nat)).1 = 0) :
    Calls Try.prog 49 #[.pointer (some ⟨X, 0, none⟩), .int .i64 j, .int .i64 (2 : Nat)] w fun e w' => e = .returned (.tuple #[]) ∧ XM w w' B X (untabG 1 2 dp1 M j) :=
  xdropK B X 2 69 1 j dp1 w M T h hok hT lvBy2 hp fun _ W hW => by
    have s := M.put_same j (2 : Nat)
    have := xdes1 hW (Mach.put_ok hok _ _) hT j 64 (by omega) (by rw [s.n]; exact (Mach.is_iff.1 (Mach.put_is hp)).2)
    rw [Mach.refs_bs (s.bs j)] at this
    exact this
theorem xte2 {C : Cnt} (hC : Inv1 M C) (h : XM w w B X M) (hok : M.ok T) (hT : T + 1000 < 4611686018427387904) (o : Int) (n : Nat) (hn : n < 4294967296) :
    Calls Try.prog 67 #[.pointer (some ⟨X, 0, none⟩), .int .i64 o, .int .u32 n, .agg #[.int .i64 (3 : Nat), .func (.func 70) #[] #[]]] w fun e w' => e = .returned (.int .i64 (take2 M o n).1) ∧ XM w w' B X (take2 M o n).2 :=
  xtakeEntry2 B X o n w M (tabG 2 take1 M o (unpackV n).1.mfn) h hn fun W hW => xta1 hC.holds hW hok hT o _
theorem xde2 (h : XM w w B X M) (hok : M.ok T) (hT : T < 4611686018427387904) (n : Nat) (hn : n < 4294967296) (hp : ∀ r, rf 2 n = some r → (M.put r.1 (2 : Nat)).1 = 0) :
    Calls Try.prog 68 #[.pointer (some ⟨X, 0, none⟩), .int .u32 n, .agg #[.int .i64 (3 : Nat), .func (.func 70) #[] #[]]] w fun e w' => e = .returned (.tuple #[]) ∧ XM w w' B X (leaveG 2 dp2 M n) := by
  rw [leave2_eq]
  exact xdropEntry2 B X n w M _ h hn fun hq W hW => by
    have h0 := hp _ (rf_some hq)
    have := xdr1 hW hok hT (unpackV n).1.mfn.toNat h0
    rwa [Int.toNat_of_nonneg (unpackV_mfn n)] at this
theorem Inv1.put_ok0 {C : Cnt} {i : Nat} (h : Inv1 M C) (hp : 0 < C i 2) (hi : (i : Int) < M.n) : (M.put i (2 : Nat)).1 = 0 :=
  CHolds.put_ok0 h.holds (by rw [full1_2]; exact hp) hi (by decide)
theorem xdes2 {C : Cnt} {k t : Nat} {o : Int} (hC : Inv1 M (C.plus (M.refs 2 t k))) (hgd : ∀ j, j < k → good M o (M.word t j)) (h : XM w w B X M) (hok : M.ok T) (hT : T < 4611686018427387904) (hk : k ≤ 64) (ht : (t : Int) < M.n) :
    Calls Try.prog 62 #[.pointer (some ⟨X, 0, none⟩), .int .i64 t, .agg #[.int .i64 (3 : Nat), .func (.func 70) #[] #[]], .int .i64 k] w fun e w' => e = .returned (.tuple #[]) ∧ XM w w' B X ((M.refs 2 t k).foldl dp2 M) :=
  xdropEntries B X 3 70 t k hk w (fun j => (M.refs 2 t j).foldl dp2 M) T h (fun j _ => foldl_ok dp2_ok _ hok) ht (fun j _ => foldl_same lvl2.dp_same _ _) fun j hj W hW => by
    obtain ⟨tl, htl⟩ := refs_split M 2 t j k hj
    have s := foldl_same lvl2.dp_same (M.refs 2 t j) M
    have hpart : Inv1 ((M.refs 2 t j).foldl dp2 M) (C.plus ((rf 2 (M.word t j)).toList ++ tl)) := by
      refine (drops_ok lvl2 (C := C.plus ((rf 2 (M.word t j)).toList ++ tl)) ?_ (refs_good fun q hq => hgd q (by omega))).1
      rw [← Cnt.plus_app, Cnt.plus_perm _ (List.perm_append_comm.trans (List.Perm.of_eq htl.symm))]
      exact hC
    have := xde2 hW (foldl_ok dp2_ok _ hok) hT (M.word t j) (Mach.word_lt _ _ _) fun r hr => by
      have hlt : (r.1 : Int) < M.n := by
        have := (refs_good (lv := 2) hgd r (by rw [htl, hr]; simp)).2
        exact this
      refine Inv1.put_ok0 hpart ?_ (by rw [s.n]; exact hlt)
      rw [hr]
      simp only [Option.toList_some, List.singleton_append, Cnt.plus_cons]
      have := rf_two hr
      rw [this]
      exact Cnt.add_pos _ _ _
    rw [← foldl_leave] at this
    exact this
set_option maxRecDepth 100000 in
theorem xva2 {C : Cnt} (hC : Inv1 M C) {o : Int} {i : Int} (hg : (M.get i o (3 : Nat)).1 = 0) (h : XM w w B X (M.get i o (3 : Nat)).2) (hok : M.ok T) (hT : T + 10000 < 4611686018427387904) :
    Calls Try.prog 61 #[.pointer (some ⟨X, 0, none⟩), .int .i64 o, .int .i64 i, .agg #[.int .i64 (3 : Nat), .func (.func 70) #[] #[]]] w fun e w' =>
      e = .returned (.int .i64 (ents take2 (M.get i o (3 : Nat)).2 o i.toNat 64).1) ∧ XM w w' B X (if (ents take2 (M.get i o (3 : Nat)).2 o i.toNat 64).1 = 0 then (ents take2 (M.get i o (3 : Nat)).2 o i.toNat 64).2 else M) := by
  have hi := Mach.is_iff.1 (Mach.get_is hg)
  obtain ⟨t, rfl⟩ := Int.eq_ofNat_of_zero_le hi.1
  have hok1 := Mach.get_ok hok t o (3 : Nat)
  have s1 := M.get_same t o (3 : Nat)
  have hund := fun k hk => undo lvl2 hC hg k hk _ (List.Perm.refl _)
  have h1 := lvl2.get hC hg
  simp only [Int.toNat_natCast] at hund h1 ⊢
  have ht1 : (t : Int) < (M.get t o (3 : Nat)).2.n := by rw [s1.n]; exact hi.2
  generalize (M.get t o (3 : Nat)).2 = M1 at *
  have hes : ∀ j, j ≤ 64 → (ents take2 M1 o t j).2.ok (T + 4300) := fun j hj => (ents_ok' (c := 65) (fun h o n => take2_ok h o n) hok1 o t j).mono (by omega)
  have hey := fun j he => ents_yes lvl2 h1 o t j he
  refine xvalidate B X 3 70 t o w M (fun j => ents take2 M1 o t j) (fun j => (M1.refs 2 t j).foldl dp2 (ents take2 M1 o t (j + 1)).2) (T + 5000) h rfl (fun j hj => (hes j hj).mono (by omega)) (fun j hj => ?_) (by omega) ht1 (fun j _ => ents_same lvl2 _ _ _ _)
    (fun j _ he => by show (if _ then _ else _) = _; rw [if_neg he]) (fun j _ he W hW => ?_) (fun j hj he hne => ⟨fun W hW => ?_, ?_⟩)
  · refine foldl_ok dp2_ok _ ?_
    exact (ents_ok' (c := 65) (fun h o n => take2_ok h o n) hok1 o t (j + 1)).mono (by omega)
  · have := xte2 (hey j he).1 hW (hes j (by omega)) (by omega) o (M1.word t j) (Mach.word_lt _ _ _)
    have e : ents take2 M1 o t (j + 1) = take2 (ents take2 M1 o t j).2 o (M1.word t j) := by show (if _ then _ else _) = _; rw [if_pos he]
    rw [e]
    exact this
  · have e : (ents take2 M1 o t (j + 1)).2 = (ents take2 M1 o t j).2 := by
      have e : ents take2 M1 o t (j + 1) = take2 (ents take2 M1 o t j).2 o (M1.word t j) := by show (if _ then _ else _) = _; rw [if_pos he]
      rw [e] at hne ⊢
      exact lvl2.tk_no hne
    rw [e] at hW
    simp only [e]
    have s2 := ents_same lvl2 M1 o t j
    obtain ⟨y1, y2⟩ := hey j he
    rw [← Mach.refs_bs (s2.bs t)] at y1
    have := xdes2 y1 (o := o) (fun q hq => by rw [Mach.word_bs (s2.bs t)]; exact (y2 q hq).same s2) hW (hes j (by omega)) (by omega) (by omega) (by rw [s2.n]; exact ht1)
    rw [Mach.refs_bs (s2.bs t)] at this
    exact this
  · have e : (ents take2 M1 o t (j + 1)).2 = (ents take2 M1 o t j).2 := by
      have e : ents take2 M1 o t (j + 1) = take2 (ents take2 M1 o t j).2 o (M1.word t j) := by show (if _ then _ else _) = _; rw [if_pos he]
      rw [e] at hne ⊢
      exact lvl2.tk_no hne
    simp only [e]
    exact (hund j he).1
theorem xta2 {C : Cnt} (hC : Inv1 M C) (h : XM w w B X M) (hok : M.ok T) (hT : T + 10000 < 4611686018427387904) (o i : Int) :
    Calls Try.prog 48 #[.pointer (some ⟨X, 0, none⟩), .int .i64 o, .int .i64 i, .int .i64 (3 : Nat)] w fun e w' => e = .returned (.int .i64 (tabG 3 take2 M o i).1) ∧ XM w w' B X (tabG 3 take2 M o i).2 :=
  xtakeK B X 3 70 take2 o i w M T h hok (by omega) lvBy3 fun hg _ W hW => xva2 hC hg hW hok hT
theorem xdr2 {F : Cnt} {j : Nat} (hF : Inv2 M (F.add j 3)) (hj : (j : Int) < M.n) (h : XM w w B X M) (hok : M.ok T) (hT : T < 4611686018427387904) :
    Calls Try.prog 49 #[.pointer (some ⟨X, 0, none⟩), .int .i64 j, .int .i64 (3 : Nat)] w fun e w' => e = .returned (.tuple #[]) ∧ XM w w' B X (untabG 2 3 dp2 M j) := by
  have f3 := full_other (lv := 2) (K := 3) (m := 3) (rf_two_ne (by decide)) M (F.add j 3) j
  have hp : (M.put j (3 : Nat)).1 = 0 := CHolds.put_ok0 hF.inv.holds (by rw [full1_3, f3]; exact Cnt.add_pos _ _ _) hj (by decide)
  refine xdropK B X 3 70 2 j dp2 w M T h hok hT lvBy3 hp fun hz W hW => ?_
  have s := M.put_same j (3 : Nat)
  have hcnt : (M.fr j).cnt = F j 3 + 1 := by
    have := lvl2.cntK hF.inv hj (by rw [f3]; exact Cnt.add_pos _ _ _)
    rw [f3, Cnt.add_at] at this
    rw [this]; rfl
  have hz0 : F j 3 = 0 := by
    have hd := CHolds.put_cnt (i := j) (k := 3) hF.inv.holds (by rw [full1_3, f3]; exact Cnt.add_pos _ _ _) hj (by decide) (by decide)
    omega
  have h1 := hF.inv
  rw [full_add_new M F j hz0 hj, Cnt.add_plus] at h1
  have h2 := lvl2.put h1 hj
  rw [← Mach.refs_bs (s.bs j)] at h2
  have := xdes2 h2 (o := (M.fr j).owner) (fun q hq => by rw [Mach.word_bs (s.bs j)]; exact (hF.g j hj (Cnt.add_pos _ _ _) q hq).same s) hW (Mach.put_ok hok _ _) hT (by omega) (by rw [s.n]; exact hj)
  rw [Mach.refs_bs (s.bs j)] at this
  exact this
end
end Go.Proofs.Ytbbaplcfhofeeaa

/-
  Package mmu: the pins of a domain as a slice; where a frame stands among them; their copy.
-/
set_option linter.unusedSimpArgs false
set_option linter.unusedVariables false
namespace Go.Proofs.Ytbbaplcfhofeeaa
open Go.RowKit
set_option maxHeartbeats 1000000

def pinC (l : List (Int × Int)) : List Value := l.flatMap fun p => [.int .i64 p.1, .int .i64 p.2]
theorem pinC_len (l : List (Int × Int)) : (pinC l).length = l.length * 2 := by
  induction l with
  | nil => rfl
  | cons x l ih => simp only [pinC, List.flatMap_cons, List.length_append, List.length_cons, List.length_nil] at ih ⊢; omega
theorem pinC_app (a b : List (Int × Int)) : pinC (a ++ b) = pinC a ++ pinC b := by simp [pinC]
theorem pinC_get (l : List (Int × Int)) (j : Nat) (hj : j < l.length) : (pinC l)[j * 2]? = some (.int .i64 l[j].1) ∧ (pinC l)[j * 2 + 1]? = some (.int .i64 l[j].2) := by
  induction l generalizing j with
  | nil => simp at hj
  | cons x l ih =>
    simp only [pinC, List.flatMap_cons]
    cases j with
    | zero => exact ⟨rfl, rfl⟩
    | succ j =>
      have h := ih j (by simpa using hj)
      simp only [pinC] at h
      have e1 : (j + 1) * 2 = j * 2 + 1 + 1 := by omega
      rw [e1]
      exact h
theorem pinC_one (l : List (Int × Int)) : ∀ u ∈ pinC l, u.oneCell' = true := by
  intro u hu
  simp only [pinC, List.mem_flatMap] at hu
  obtain ⟨q, _, hu⟩ := hu
  simp only [List.mem_cons, List.not_mem_nil, or_false] at hu
  rcases hu with rfl | rfl <;> rfl
/-- a slice of pins -/
def PinsAt (w : World) (v : Value) (l : List (Int × Int)) : Prop :=
  (v = .slice none 0 0 ∧ l = []) ∨ ∃ g cap, v = .slice (some ⟨g, 0, none⟩) l.length cap ∧ l.length ≤ cap ∧ Row w g 154 (l.length * 2) (fun k => (pinC l).getD k undef) ∧ (cap = l.length ∨ w.ownsRow 0 154 2 v l.length (pinC l))
theorem PinsAt.slice {w : World} {v : Value} {l : List (Int × Int)} (h : PinsAt w v l) : ∃ p c, v = .slice p l.length c := by
  rcases h with ⟨rfl, rfl⟩ | ⟨g, c, rfl, _⟩
  · exact ⟨_, _, rfl⟩
  · exact ⟨_, _, rfl⟩
theorem PinsAt.at {w : World} {p : Option Addr} {n c : Nat} {l : List (Int × Int)} (h : PinsAt w (.slice p n c) l) {j : Nat} (hj : j < l.length) : ∃ g, p = some ⟨g, 0, none⟩ ∧ w.cell? ⟨g, j * 2, none⟩ = some (.int .i64 l[j].1) ∧ w.cell? ⟨g, j * 2 + 1, none⟩ = some (.int .i64 l[j].2) := by
  rcases h with ⟨e, rfl⟩ | ⟨g, c', e, _, hr, _⟩
  · simp at hj
  · cases e
    obtain ⟨h1, h2⟩ := pinC_get l j hj
    exact ⟨g, rfl, by rw [hr.cell (by omega)]; simp [List.getD, h1], by rw [hr.cell (by omega)]; simp [List.getD, h2]⟩
theorem ownsRow_same {w w' : World} {b : Nat} {e : TypeId} {s n : Nat} {v : Value} {xs : List Value} (h : w.ownsRow b e s v n xs) (hb : ∀ g, v.ownBlock = some g → w'.heap[g]? = w.heap[g]?) : w'.ownsRow b e s v n xs := by
  refine ⟨h.1, ?_⟩
  rcases h.2 with h2 | ⟨g, cap, cur, rfl, hbb, hg, r⟩
  · exact .inl h2
  · exact .inr ⟨g, cap, cur, rfl, hbb, (hb g rfl).trans hg, r⟩
theorem PinsAt.same {w w' : World} {v : Value} {l : List (Int × Int)} (h : PinsAt w v l) (hb : ∀ g, v.ownBlock = some g → w'.heap[g]? = w.heap[g]?) : PinsAt w' v l := by
  rcases h with h | ⟨g, c, rfl, h1, h2, h3⟩
  · exact .inl h
  · exact .inr ⟨g, c, rfl, h1, h2.same (hb g rfl), h3.imp id fun h => ownsRow_same h hb⟩
theorem PinsAt.lt {w : World} {v : Value} {l : List (Int × Int)} (h : PinsAt w v l) {g : Nat} (hg : v.ownBlock = some g) : g < w.heap.size := by
  rcases h with ⟨rfl, _⟩ | ⟨g', c, rfl, h1, h2, h3⟩
  · simp [Value.ownBlock] at hg
  · obtain rfl : g' = g := by simpa [Value.ownBlock] using hg
    exact h2.lt
theorem PinsAt.chg {S : Nat → Prop} {w w' : World} {v : Value} {l : List (Int × Int)} (h : PinsAt w v l) (hc : Chg S w w') (hS : ∀ g, v.ownBlock = some g → ¬ S g) : PinsAt w' v l :=
  h.same fun g hg => hc.block g (h.lt hg) (hS g hg)
theorem PinsAt.grown {w w' : World} {v : Value} {l : List (Int × Int)} {row : Option Nat} (h : PinsAt w v l) (hg : w.grownBy w' row) (hr : ∀ g, v.ownBlock = some g → some g ≠ row) : PinsAt w' v l :=
  h.same fun g e => hg.block g (h.lt e) (hr g e)
def pinIx (l : List (Int × Int)) (m : Int) : Nat := l.findIdx fun p => p.1 == m
def pinAt (l : List (Int × Int)) (m : Int) : Int := if pinIx l m < l.length then (pinIx l m : Nat) else -1
theorem pinIx_no {l : List (Int × Int)} {m : Int} {j : Nat} (hj : j < l.length) (h : j ≤ pinIx l m) (hne : ¬ l[j].1 = m) : j + 1 ≤ pinIx l m := by
  by_cases e : j = pinIx l m
  · exfalso
    have := List.findIdx_getElem (w := by subst e; exact hj) (xs := l) (p := fun p => p.1 == m)
    have h2 : l[pinIx l m]'(by omega) = l[j] := by congr 1; omega
    have : (l[pinIx l m]'(by omega)).1 == m := this
    rw [h2] at this
    exact hne (by simpa using this)
  · omega
theorem pinIx_yes {l : List (Int × Int)} {m : Int} {j : Nat} (hj : j < l.length) (h : j ≤ pinIx l m) (he : l[j].1 = m) : pinIx l m = j := by
  by_cases e : j < pinIx l m
  · have := List.not_of_lt_findIdx e
    exact absurd he (by simpa using this)
  · omega
theorem pinAt_none {l : List (Int × Int)} {m : Int} (h : l.length ≤ pinIx l m) : pinAt l m = -1 := by unfold pinAt; rw [if_neg (by omega)]
theorem pinAt_some {l : List (Int × Int)} {m : Int} {j : Nat} (hj : j < l.length) (h : pinIx l m = j) : pinAt l m = j := by unfold pinAt; rw [h, if_pos hj]

end Go.Proofs.Ytbbaplcfhofeeaa

/-
  Package mmu: a pin is appended; a part is appended to a cut.
-/
set_option linter.unusedSimpArgs false
set_option linter.unusedVariables false
namespace Go.Proofs.Ytbbaplcfhofeeaa
open Go.RowKit
set_option maxHeartbeats 1000000

theorem info_pin : (Try.prog.info? 154).map (fun i => (i.zero, i.size, i.bytes)) = some (some (.agg #[.int .i64 0, .int .i64 0]), 2, 16) := by kernel_rfl
theorem PinsAt.of_own {w : World} {b : Nat} {v : Value} {l : List (Int × Int)} (h : w.ownsRow b 154 2 v l.length (pinC l)) : PinsAt w v l := by
  have h0 : w.ownsRow 0 154 2 v l.length (pinC l) := ⟨h.1, h.2.imp id fun ⟨g, c, cur, a, _, r⟩ => ⟨g, c, cur, a, Nat.zero_le _, r⟩⟩
  rcases h.2 with ⟨e, hn⟩ | ⟨g, cap, cur, rfl, hb, hg, hn, hcap, hsz, htake⟩
  · exact .inl ⟨e, List.eq_nil_of_length_eq_zero hn⟩
  · refine .inr ⟨g, cap, rfl, hn, ⟨cur, hg, by rw [hsz]; exact Nat.mul_le_mul_right _ hn, fun k hk => ?_⟩, .inr h0⟩
    have h1 : (cur.toList.take (l.length * 2))[k]? = (pinC l)[k]? := by rw [htake]
    rw [List.getElem?_take, if_pos hk] at h1
    have hx : k < (pinC l).length := by rw [pinC_len]; exact hk
    rw [List.getElem?_eq_getElem hx] at h1
    simpa [List.getD, List.getElem?_eq_getElem hx] using h1
theorem own_new {w : World} {b : Nat} {v : Value} {n : Nat} {xs : List Value} {t : TypeId} {s : Nat} (h : w.ownsRow b t s v n xs) : ∀ g, v.ownBlock = some g → b ≤ g := fun g hg => by
  rcases h.2 with ⟨rfl, _⟩ | ⟨g', cap, cur, rfl, hb, _⟩
  · simp [Value.ownBlock] at hg
  · obtain rfl : g' = g := by simpa [Value.ownBlock] using hg
    exact hb
theorem row_news {w : World} {g : Nat} {l : List (Int × Int)} (hr : Row w g 154 (l.length * 2) (fun k => (pinC l).getD k undef)) : ∀ j u, (pinC l)[j]? = some u → w.cell? ((⟨g, 0, none⟩ : Addr).add j) = some u := fun j u hu => by
  have hj := (List.getElem?_eq_some_iff.1 hu).1
  rw [pinC_len] at hj
  have e : (⟨g, 0, none⟩ : Addr).add j = ⟨g, j, none⟩ := by unfold Addr.add; split <;> simp_all
  rw [e, hr.cell hj]
  simp [List.getD, hu]
theorem run_pins_append (w : World) (ty : TypeId) (v : Value) (l l2 : List (Int × Int)) (h : PinsAt w v l) (ad : Addr) (c : Nat) (h2 : l2 ≠ []) (hnews : ∀ j u, (pinC l2)[j]? = some u → w.cell? (ad.add j) = some u) (hb : l.length + l2.length ≤ 8000000000000) :
    ∃ v' w', (Builtin.append_ #[71, 71] ty #[v, .slice (some ad) l2.length c]).run Try.prog w = .ok v' w' ∧ PinsAt w' v' (l ++ l2) ∧ w.grownBy w' v.ownBlock ∧ (v'.ownBlock = v.ownBlock ∨ ∀ g, v'.ownBlock = some g → w.heap.size ≤ g) := by
  obtain ⟨i0, hi, hz0, hz1, hz2⟩ := info_parts info_pin
  have hpos : 0 < l2.length := List.length_pos_iff.2 h2
  have hlen := pinC_len l2
  have hgrow : ∀ (a : Addr) (n cap : Nat), v = .slice (some a) n cap → n = l.length → (∀ j u, (pinC l)[j]? = some u → w.cell? (a.add j) = some u) → cap < l.length + l2.length → ∃ v' w', (Builtin.append_ #[71, 71] ty #[v, .slice (some ad) l2.length c]).run Try.prog w = .ok v' w' ∧ PinsAt w' v' (l ++ l2) ∧ w.grownBy w' v.ownBlock ∧ (v'.ownBlock = v.ownBlock ∨ ∀ g, v'.ownBlock = some g → w.heap.size ≤ g) := fun a n cap e1 e2 hc hlt => by
    subst e1; subst e2
    obtain ⟨v', w', hr, ho, hg⟩ := run_append_arg_grows (P := Try.prog) w 71 ty 154 i0 (.agg #[.int .i64 0, .int .i64 0]) 2 16 Try.underlying71 hi hz0 hz1 hz2 rfl (by decide) a l.length cap (pinC l) (pinC_len l) hc ad l2.length c (pinC l2) hlen hnews hlt (by unfold maxLen; omega) (by omega)
    rw [← pinC_app] at ho
    have ho' : w'.ownsRow w.heap.size 154 2 v' (l ++ l2).length (pinC (l ++ l2)) := by rw [List.length_append]; exact ho
    exact ⟨v', w', hr, .of_own ho', hg.but _, .inr (own_new ho')⟩
  rcases h with ⟨rfl, rfl⟩ | ⟨g, cap, rfl, hcap, hrow, hfull⟩
  · obtain ⟨v', w', hr, ho, hg, _⟩ := run_append_own (P := Try.prog) w w.heap.size 71 ty 154 i0 (.agg #[.int .i64 0, .int .i64 0]) 2 16 Try.underlying71 hi hz0 hz1 hz2 rfl (by decide) (.slice none 0 0) 0 [] (World.ownsRow_nil w _ _ 2) ad l2.length c (pinC l2) hlen hnews (pinC_one l2) (by unfold maxLen; omega) (by omega) (Nat.le_refl _)
    simp only [Nat.zero_add, List.nil_append] at ho
    exact ⟨v', w', hr, .of_own ho, hg, .inr (own_new ho)⟩
  · by_cases hlt : cap < l.length + l2.length
    · exact hgrow ⟨g, 0, none⟩ _ cap rfl rfl (row_news hrow) hlt
    · rcases hfull with rfl | hown
      · omega
      · obtain ⟨v', w', hr, ho, hg, _⟩ := run_append_own (P := Try.prog) w 0 71 ty 154 i0 (.agg #[.int .i64 0, .int .i64 0]) 2 16 Try.underlying71 hi hz0 hz1 hz2 rfl (by decide) _ l.length (pinC l) hown ad l2.length c (pinC l2) hlen hnews (pinC_one l2) (by unfold maxLen; omega) (by omega) (Nat.zero_le _)
        rw [← pinC_app] at ho
        have ho' : w'.ownsRow 0 154 2 v' (l ++ l2).length (pinC (l ++ l2)) := by rw [List.length_append]; exact ho
        obtain ⟨cur, hcur, hsz⟩ : ∃ cur, w.heap[g]? = some (.cells cur 154 (0, 0)) ∧ cur.size = cap * 2 := by
          rcases hown.2 with ⟨e, _⟩ | ⟨g', cap', cur, e, _, hg', _, _, hs', _⟩
          · cases e
          · cases e; exact ⟨cur, hg', hs'⟩
        have hroom := run_append_room (P := Try.prog) w 71 ty 154 i0 Try.underlying71 hi g l.length cap cur hcur ad l2.length c (pinC l2) (by rw [hz1]; exact hlen) hnews (pinC_one l2) (by omega) (by rw [hz1, hsz, hlen]; omega)
        rw [hr] at hroom
        injection hroom with e1 e2
        exact ⟨v', w', hr, .of_own ho', hg, .inl (by rw [e1]; rfl)⟩
end Go.Proofs.Ytbbaplcfhofeeaa
