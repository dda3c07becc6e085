/-
  Package cons: lines are made of bytes.
-/
import Derived.Test.YtnplkifohocekaaDoorCoV
import Derived.Deep.CutBlock
import Derived.Deep.DeepCutAuto
import Derived.Test.YtnplkifohocekaaDoorCoF
set_option linter.unusedSimpArgs false
set_option linter.unusedVariables false
namespace Go.Proofs.YtnplkifohocekaaDoor.Co
open Go.RowKit Go.Lib Go.Proofs.YtnplkifohocekaaDoor.Bk
set_option maxHeartbeats 2000000
/-- a byte that has come -/
def comeV (s : List (List UInt8) × List UInt8) (x : UInt8) : List (List UInt8) × List UInt8 :=
  if x = 10 then (s.1 ++ [showV s.2], []) else if (s.2 ++ [x]).length = 128 then (s.1 ++ [showV (s.2 ++ [x])], []) else (s.1, s.2 ++ [x])
def takeV (s : List (List UInt8) × List UInt8) (l : List UInt8) : List (List UInt8) × List UInt8 := l.foldl comeV s
theorem comeV_part (s : List (List UInt8) × List UInt8) (x : UInt8) (h : s.2.length < 128) : (comeV s x).2.length < 128 := by
  unfold comeV
  split
  · simp
  · split
    · simp
    · rename_i h1 h2
      simp only [List.length_append, List.length_cons, List.length_nil] at h2 ⊢
      omega
theorem comeV_lines (s : List (List UInt8) × List UInt8) (x : UInt8) : (comeV s x).1.length ≤ s.1.length + 1 := by
  unfold comeV
  split
  · simp
  · split
    · simp
    · simp
theorem takeV_part (l : List UInt8) : ∀ (s : List (List UInt8) × List UInt8), s.2.length < 128 → (takeV s l).2.length < 128 := by
  induction l with
  | nil => intro s h; exact h
  | cons x l ih => intro s h; exact ih _ (comeV_part s x h)
theorem takeV_lines (l : List UInt8) : ∀ (s : List (List UInt8) × List UInt8), (takeV s l).1.length ≤ s.1.length + l.length := by
  induction l with
  | nil => intro s; simp [takeV]
  | cons x l ih =>
    intro s
    have h1 := ih (comeV s x)
    have h2 := comeV_lines s x
    simp only [takeV, List.foldl_cons, List.length_cons] at h1 ⊢
    omega
theorem takeV_app (s : List (List UInt8) × List UInt8) (a b : List UInt8) : takeV s (a ++ b) = takeV (takeV s a) b := by simp [takeV]
theorem takeV_snoc (s : List (List UInt8) × List UInt8) (l : List UInt8) (k : Nat) (h : k < l.length) : takeV s (l.take (k + 1)) = comeV (takeV s (l.take k)) (l.getD k 0) := by
  rw [List.take_add_one, takeV_app, List.getElem?_eq_getElem h]
  simp [takeV, List.getD, List.getElem?_eq_getElem h]
theorem step_append_g {ops : Array Oper} {o : Oper} {a : Act} {w : World} {K : Act → World → Prop} {Q : Exit → Act → World → Prop} {E : Prop} (hw : Region.wanted o (yielded ops a.tmps) = true) (s x : Operand) (t tn : TypeId)
    (ho : o.op = .call { callee := .builtin .append, args := #[s, x], argTypes := #[t, tn] }) (vs vx : Value) (hs : a.eval s = vs) (hx : a.eval x = vx) (v' : Value) (w' : World) (hr : (Builtin.append_ #[t, tn] o.type #[vs, vx]).run Tryd.prog w = .ok v' w')
    (hK : K (a.put o.dst v') w') : if Region.wanted o (yielded ops a.tmps) = true then Oper.wp Tryd.prog o a w K Q else E := by
  rw [if_pos hw]
  exact Lib.wp_append_run w s x t tn ho vs vx hs hx v' w' hr hK
/-- texts as cells -/
def strs (L : List (List UInt8)) : List Value := L.map fun l => .string ⟨l.toArray⟩
theorem strs_len (L : List (List UInt8)) : (strs L).length = L.length := by simp [strs]
theorem strs_app (a b : List (List UInt8)) : strs (a ++ b) = strs a ++ strs b := by simp [strs]
attribute [irreducible] strs
/-- a console with its lines and its rest; D: what others hold -/
structure KT (w : World) (D : Nat → Prop) (C : Nat) (mfn : Int) (tk pt : Nat) (L : List (List UInt8)) (part : List UInt8) (vL vR : Value) : Prop where
  con : Row w C 74 6 (cnV mfn tk vL vR pt)
  oL : w.ownsRow 0 9 1 vL L.length (strs L)
  oR : w.ownsRow 0 5 1 vR part.length (Bk.bcells part)
  dC : ¬ D C
  dL : ∀ k, vL.ownBlock = some k → ¬ D k
  dR : ∀ k, vR.ownBlock = some k → ¬ D k
  lt : ∀ k, D k → k < w.heap.size
variable {w w' : World} {D : Nat → Prop} {C : Nat} {mfn : Int} {tk pt : Nat} {L : List (List UInt8)} {part : List UInt8} {vL vR : Value}
theorem own_two {w : World} {b b' n n' s s' : Nat} {e e' : TypeId} {v v' : Value} {xs xs' : List Value} (h : w.ownsRow b e s v n xs) (h' : w.ownsRow b' e' s' v' n' xs') (hne : e ≠ e') : v'.ownBlock = none ∨ v'.ownBlock ≠ v.ownBlock := by
  rcases h'.2 with ⟨rfl, _⟩ | ⟨g, cap, cur, rfl, _, hg, _⟩
  · exact .inl rfl
  · refine .inr fun e1 => ?_
    rcases h.2 with ⟨rfl, _⟩ | ⟨g', cap', cur', rfl, _, hg', _⟩
    · simp [Value.ownBlock] at e1
    · simp only [Value.ownBlock, Option.some.injEq] at e1
      subst e1
      rw [hg] at hg'
      simp only [Option.some.injEq, Obj.cells.injEq] at hg'
      exact hne hg'.2.1.symm
theorem KT.grown (h : KT w D C mfn tk pt L part vL vR) (hg : w.grownBy w' none) : KT w' D C mfn tk pt L part vL vR :=
  ⟨h.con.grown hg (by simp), own_grown h.oL hg, own_grown h.oR hg, h.dC, h.dL, h.dR, fun k hk => Nat.lt_of_lt_of_le (h.lt k hk) hg.size⟩
theorem KT.chgD {row : Option Nat} (h : KT w D C mfn tk pt L part vL vR) (hg : w.grownBy w' row) (hr : ∀ k, row = some k → ¬ D k) : Chg (fun k => ¬ D k) w w' := Chg.of hg fun j e => .inl (hr j e)
theorem own_kept {W W' : World} {base n sz : Nat} {e : TypeId} {v : Value} {xs : List Value} {row : Option Nat} (h : W.ownsRow base e sz v n xs) (hg : W.grownBy W' row) (hne : v.ownBlock = none ∨ v.ownBlock ≠ row) : W'.ownsRow base e sz v n xs := by
  refine ⟨h.1, ?_⟩
  rcases h.2 with hn | ⟨g, cap, cur, rfl, hb, hgg, rest⟩
  · exact .inl hn
  · refine .inr ⟨g, cap, cur, rfl, hb, ?_, rest⟩
    rw [hg.block g (Array.getElem?_eq_some_iff.1 hgg).1 (by simpa [Value.ownBlock] using hne)]
    exact hgg
theorem own_apart_row {W : World} {base n sz : Nat} {e t : TypeId} {v : Value} {xs : List Value} {C N : Nat} {X : Nat → Value} (h : W.ownsRow base e sz v n xs) (hr : Row W C t N X) (ht : t ≠ e) : v.ownBlock ≠ some C := by
  intro e'
  rcases h.2 with ⟨rfl, _⟩ | ⟨g, cap, cur, rfl, _, hg, _⟩
  · simp [Value.ownBlock] at e'
  · simp only [Value.ownBlock, Option.some.injEq] at e'
    subst e'
    obtain ⟨c, hc, _⟩ := hr
    rw [hc] at hg
    cases hg
    exact ht rfl
/-- a store into the console -/
theorem KT.set (h : KT w D C mfn tk pt L part vL vR) {k : Nat} {v vL' vR' : Value} {tk' pt' : Nat} {L' : List (List UInt8)} {part' : List UInt8} (hv : cnV mfn tk' vL' vR' pt' k = v) (ho : ∀ j, j < 6 → j ≠ k → cnV mfn tk' vL' vR' pt' j = cnV mfn tk vL vR pt j)
    (oL : w.ownsRow 0 9 1 vL' L'.length (strs L')) (oR : w.ownsRow 0 5 1 vR' part'.length (Bk.bcells part')) (dL : ∀ k, vL'.ownBlock = some k → ¬ D k) (dR : ∀ k, vR'.ownBlock = some k → ¬ D k) :
    KT (w.setCell ⟨C, k, none⟩ v) D C mfn tk' pt' L' part' vL' vR' ∧ Chg (fun k => ¬ D k) w (w.setCell ⟨C, k, none⟩ v) := by
  have hg : w.grownBy (w.setCell ⟨C, k, none⟩ v) (some C) := ⟨rfl, rfl, rfl, by simp, fun j _ hj => heap_setCell_other w ⟨C, k, none⟩ j v (fun e => hj (by rw [e]))⟩
  refine ⟨⟨h.con.set hv ho, own_kept oL hg (.inr (own_apart_row oL h.con (by decide))), own_kept oR hg (.inr (own_apart_row oR h.con (by decide))), h.dC, dL, dR, fun k hk => by rw [World.size_setCell]; exact h.lt k hk⟩, Chg.of hg fun j e => .inl (by cases e; exact h.dC)⟩
theorem info_str : (Tryd.prog.info? 9).map (fun i => (i.zero, i.size, i.bytes)) = some (some (.string ⟨#[]⟩), 1, 16) := by kernel_rfl
/-- a byte appended to the rest, ahead of its store -/
theorem app_byte (h : KT w D C mfn tk pt L part vL vR) (x : UInt8) (hp : part.length < 1000) :
    ∃ v' W2, (∀ ty, (Builtin.append_ #[22, 22] ty #[vR, .slice (some ⟨w.heap.size, 0, none⟩) 1 1]).run Tryd.prog (w.alloc (Obj.cells #[.int .u8 x.toNat] 5)) = .ok v' W2) ∧
      Row W2 C 74 6 (cnV mfn tk vL vR pt) ∧ (∃ p c, v' = .slice p (part.length + 1) c) ∧ KT (W2.setCell ⟨C, 4, none⟩ v') D C mfn tk pt L (part ++ [x]) vL v' ∧ Chg (fun k => ¬ D k) w (W2.setCell ⟨C, 4, none⟩ v') := by
  obtain ⟨i0, hi, hz0, hz1, hz2⟩ := info_parts info_u8
  have h1 := h.grown (World.grownBy_alloc w (Obj.cells #[.int .u8 x.toNat] 5) none)
  have hsz : (w.alloc (Obj.cells #[.int .u8 x.toNat] 5)).heap.size = w.heap.size + 1 := by simp
  obtain ⟨v', W2, hr, ho, hg, _, hb⟩ := run_append_own_at (P := Tryd.prog) (w.alloc (Obj.cells #[.int .u8 x.toNat] 5)) 0 22 22 5 i0 (.int .u8 0) 1 1 Tryd.underlying22 hi hz0 hz1 hz2 rfl (by decide) vR part.length _ h1.oR ⟨w.heap.size, 0, none⟩ 1 1 (Bk.bcells [x]) (by rw [Bk.bcells_len]; rfl) (fun j u hj => by
    have hj1 : j < (Bk.bcells [x]).length := (List.getElem?_eq_some_iff.1 hj).1
    rw [Bk.bcells_len] at hj1
    obtain rfl : j = 0 := by simp at hj1; omega
    rw [Bk.bcells_get] at hj
    simp at hj
    subst hj
    have e0 : (⟨w.heap.size, 0, none⟩ : Addr).add 0 = ⟨w.heap.size, 0, none⟩ := by unfold Addr.add; split <;> simp_all
    rw [e0]
    exact (Lib.cell_of_heap (MapKept.heap_alloc w (Obj.cells #[.int .u8 x.toNat] 5)).1 0).trans rfl) (Bk.bcells_one [x]) (by unfold maxLen; omega) (by omega) (Nat.zero_le _)
  have hC : vR.ownBlock ≠ some C := own_apart_row h.oR h.con (by decide)
  have hrow : Row W2 C 74 6 (cnV mfn tk vL vR pt) := h1.con.grown hg (fun e => hC e.symm)
  have hL := own_kept h1.oL hg (own_two h1.oR h1.oL (by decide))
  have hlen : part.length + 1 = (part ++ [x]).length := by simp
  rw [← Bk.bcells_app, hlen] at ho
  have hdv : ∀ k, v'.ownBlock = some k → ¬ D k := fun k e => by
    rcases hb with e1 | e1
    · exact h.dR k (e1 ▸ e)
    · rw [e1] at e
      cases e
      intro hD
      have := h.lt _ hD
      omega
  have c1 : Chg (fun k => ¬ D k) w W2 := (h.chgD (World.grownBy_alloc w _ none) (by simp)).trans (h1.chgD hg h1.dR) fun k hk => .inl hk
  have h2 : KT W2 D C mfn tk pt L part vL vR ∨ True := .inr trivial
  have hg2 : W2.grownBy (W2.setCell ⟨C, 4, none⟩ v') (some C) := ⟨rfl, rfl, rfl, by simp, fun j _ hj => heap_setCell_other W2 ⟨C, 4, none⟩ j v' (fun e => hj (by rw [e]))⟩
  refine ⟨v', W2, fun ty => ?_, hrow, ?_, ⟨hrow.set rfl (fun j hj hne => by match j, hj with | 0, _ => rfl | 1, _ => rfl | 2, _ => rfl | 3, _ => rfl | 4, _ => exact absurd rfl hne | 5, _ => rfl), own_kept hL hg2 (.inr (own_apart_row hL hrow (by decide))), own_kept ho hg2 (.inr (own_apart_row ho hrow (by decide))), h.dC, h.dL, hdv, fun k hk => ?_⟩, c1.trans (Chg.of hg2 fun j e => .inl (by cases e; exact h.dC)) fun k hk => .inl hk⟩
  · rw [← hr]; rfl
  · obtain ⟨p, c, e⟩ := ownsRow_slice ho
    exact ⟨p, c, by rw [hlen]; exact e⟩
  · rw [World.size_setCell]
    exact Nat.lt_of_lt_of_le (h.lt k hk) c1.size
/-- a text appended to the lines, ahead of its store -/
theorem app_line (h : KT w D C mfn tk pt L part vL vR) (s : ByteArray) (l : List UInt8) (hs : s = ⟨l.toArray⟩) (hp : L.length ≤ 1000000000) :
    ∃ v' W2, (∀ ty, (Builtin.append_ #[43, 43] ty #[vL, .slice (some ⟨w.heap.size, 0, none⟩) 1 1]).run Tryd.prog (w.alloc (Obj.cells #[.string s] 9)) = .ok v' W2) ∧
      Row W2 C 74 6 (cnV mfn tk vL vR pt) ∧ (∃ p c, v' = .slice p (L.length + 1) c) ∧ KT (W2.setCell ⟨C, 3, none⟩ v') D C mfn tk pt (L ++ [l]) part v' vR ∧ Chg (fun k => ¬ D k) w (W2.setCell ⟨C, 3, none⟩ v') := by
  obtain ⟨i0, hi, hz0, hz1, hz2⟩ := info_parts info_str
  have hst : strs [l] = [.string s] := by rw [hs]; unfold strs; rfl
  have h1 := h.grown (World.grownBy_alloc w (Obj.cells #[.string s] 9) none)
  have hsz : (w.alloc (Obj.cells #[.string s] 9)).heap.size = w.heap.size + 1 := by simp
  obtain ⟨v', W2, hr, ho, hg, _, hb⟩ := run_append_own_at (P := Tryd.prog) (w.alloc (Obj.cells #[.string s] 9)) 0 43 43 9 i0 (.string ⟨#[]⟩) 1 16 Tryd.underlying43 hi hz0 hz1 hz2 rfl (by decide) vL L.length _ h1.oL ⟨w.heap.size, 0, none⟩ 1 1 (strs [l]) (by rw [strs_len]; rfl) (fun j u hj => by
    rw [hst] at hj
    obtain rfl : j = 0 := by
      have := (List.getElem?_eq_some_iff.1 hj).1
      simp at this; omega
    simp at hj
    subst hj
    have e0 : (⟨w.heap.size, 0, none⟩ : Addr).add 0 = ⟨w.heap.size, 0, none⟩ := by unfold Addr.add; split <;> simp_all
    rw [e0]
    exact (Lib.cell_of_heap (MapKept.heap_alloc w (Obj.cells #[.string s] 9)).1 0).trans rfl) (by rw [hst]; intro u hu; simp at hu; subst hu; rfl) (by unfold maxLen; omega) (by omega) (Nat.zero_le _)
  have hC : vL.ownBlock ≠ some C := own_apart_row h.oL h.con (by decide)
  have hrow : Row W2 C 74 6 (cnV mfn tk vL vR pt) := h1.con.grown hg (fun e => hC e.symm)
  have hR := own_kept h1.oR hg (own_two h1.oL h1.oR (by decide))
  have hlen : L.length + 1 = (L ++ [l]).length := by simp
  rw [← strs_app, hlen] at ho
  have hdv : ∀ k, v'.ownBlock = some k → ¬ D k := fun k e => by
    rcases hb with e1 | e1
    · exact h.dL k (e1 ▸ e)
    · rw [e1] at e
      cases e
      intro hD
      have := h.lt _ hD
      omega
  have c1 : Chg (fun k => ¬ D k) w W2 := (h.chgD (World.grownBy_alloc w _ none) (by simp)).trans (h1.chgD hg h1.dL) fun k hk => .inl hk
  have hg2 : W2.grownBy (W2.setCell ⟨C, 3, none⟩ v') (some C) := ⟨rfl, rfl, rfl, by simp, fun j _ hj => heap_setCell_other W2 ⟨C, 3, none⟩ j v' (fun e => hj (by rw [e]))⟩
  refine ⟨v', W2, fun ty => ?_, hrow, ?_, ⟨hrow.set rfl (fun j hj hne => by match j, hj with | 0, _ => rfl | 1, _ => rfl | 2, _ => rfl | 3, _ => exact absurd rfl hne | 4, _ => rfl | 5, _ => rfl), own_kept ho hg2 (.inr (own_apart_row ho hrow (by decide))), own_kept hR hg2 (.inr (own_apart_row hR hrow (by decide))), h.dC, hdv, h.dR, fun k hk => ?_⟩, c1.trans (Chg.of hg2 fun j e => .inl (by cases e; exact h.dC)) fun k hk => .inl hk⟩
  · rw [← hr]; rfl
  · obtain ⟨p, c, e⟩ := ownsRow_slice ho
    exact ⟨p, c, by rw [hlen]; exact e⟩
  · rw [World.size_setCell]
    exact Nat.lt_of_lt_of_le (h.lt k hk) c1.size
/-- the rest is begun anew -/
theorem KT.anew (h : KT w D C mfn tk pt L part vL vR) {p : Option Addr} {c : Nat} (hv : vR = .slice p part.length c) : KT (w.setCell ⟨C, 4, none⟩ (.slice p 0 c)) D C mfn tk pt L [] vL (.slice p 0 c) ∧ Chg (fun k => ¬ D k) w (w.setCell ⟨C, 4, none⟩ (.slice p 0 c)) := by
  have hc : w.ownsRow 0 5 1 (.slice p 0 c) ([] : List UInt8).length (Bk.bcells []) := by
    have ho := h.oR
    rw [hv] at ho
    refine ⟨by simp [Bk.bcells_nil], ?_⟩
    rcases ho.2 with ⟨e, _⟩ | ⟨g, cap, cur, e, hb, hg, hn, hcm, hcs, _⟩
    · simp only [Value.slice.injEq] at e; obtain ⟨rfl, _, rfl⟩ := e; exact .inl ⟨rfl, rfl⟩
    · simp only [Value.slice.injEq] at e; obtain ⟨rfl, _, rfl⟩ := e; exact .inr ⟨g, c, cur, rfl, hb, hg, Nat.zero_le _, hcm, hcs, by simp [Bk.bcells_nil]⟩
  refine h.set (k := 4) rfl (fun j hj hne => by match j, hj with | 0, _ => rfl | 1, _ => rfl | 2, _ => rfl | 3, _ => rfl | 4, _ => exact absurd rfl hne | 5, _ => rfl) h.oL hc h.dL fun k e => ?_
  have := h.dR k
  rw [hv] at this
  cases p with
  | none => simp [Value.ownBlock] at e
  | some a => exact this e
theorem tabs_chg (h : Lib.Utf8Tabs 0 1 w) (hc : Chg (fun k => ¬ D k) w w') (h0 : D 0) (h1 : D 1) : Lib.Utf8Tabs 0 1 w' :=
  ⟨fun c hcl => hc.cell (h.1 c hcl) (fun hn => hn h0), fun i hi => ⟨hc.cell (h.2 i hi).1 (fun hn => hn h1), hc.cell (h.2 i hi).2 (fun hn => hn h1)⟩⟩
def TakePost (w : World) (D : Nat → Prop) (C : Nat) (mfn : Int) (tk pt : Nat) (s : List (List UInt8) × List UInt8) (e : Ending) (w' : World) : Prop :=
  e = .returned (.tuple #[]) ∧ ∃ vL vR, KT w' D C mfn tk pt s.1 s.2 vL vR ∧ Chg (fun k => ¬ D k) w w'
set_option maxRecDepth 100000 in
theorem cTake (l : List UInt8) (h : KT w D C mfn tk pt L part vL vR) (hp : part.length < 128) (hL : L.length + l.length ≤ 1000000000) (q : Option Addr) (c : Nat) (hb : BA w q l) (hq : ∀ a, q = some a → 0 < l.length → D a.block) (hT : Lib.Utf8Tabs 0 1 w) (h0 : D 0) (h1 : D 1) :
    Calls Tryd.prog 75 #[.pointer (some ⟨C, 2, none⟩), .slice q l.length c] w (TakePost w D C mfn tk pt (takeV (L, part) l)) := by
  have HK := hid h
  have HB := hid hb
  have HQ := hid hq
  have HT := hid hT
  have H0 := hid h0
  have H1 := hid h1
  have hli : (l.length : Int) ≤ 1000000000 := by omega
  clear h hb hq hT h0 h1
  go_enter Tryd.func75, Tryd.ntmps75
  go_wp2
  go_loopw [8] (fun tj wr => ∃ (j : Nat) (vL vR : Value), tj = .int .i64 j ∧ j ≤ l.length ∧ KT wr D C mfn tk pt (takeV (L, part) (l.take j)).1 (takeV (L, part) (l.take j)).2 vL vR ∧ Chg (fun k => ¬ D k) w wr) (fun tj _ => l.length - (Lib.intOf tj).toNat)
  case atStart => exact ⟨0, vL, vR, rfl, Nat.zero_le _, HK.out, Chg.refl _ _⟩
  case round =>
    clear HK
    obtain ⟨j, vL, vR, rfl, hjl, hk, hc⟩ := hrel
    have HC := hid hc
    by_cases hj : j < l.length
    · have hp1 := takeV_part (l.take j) (L, part) hp
      have hL1 := takeV_lines (l.take j) (L, part)
      simp only [List.length_take] at hL1
      have HSN := hid (takeV_snoc (L, part) l j hj)
      obtain ⟨x, hx⟩ : ∃ x, l.getD j 0 = x := ⟨_, rfl⟩
      rw [hx] at HSN
      generalize takeV (L, part) (l.take j) = s at *
      obtain ⟨L1, p1⟩ := s
      simp only at hk hp1 hL1
      obtain ⟨qb, qo, rfl⟩ := HB.out.ptr (by omega)
      have cx : wr.cell? ⟨qb, qo + j, none⟩ = some (.int .u8 x.toNat) := by
        rw [← hx]
        exact hc.cell (HB.out.at hj) (show ¬ ¬ D qb from fun hn => hn (HQ.out _ rfl (by omega)))
      have HK := hid hk
      clear hk hc hx
      by_cases hx10 : x = 10
      · have e1 : ((x.toNat : Int) == 10) = true := by rw [hx10]; rfl
        have HCV := hid (show comeV (L1, p1) x = (L1 ++ [showV p1], []) by unfold comeV; rw [if_pos hx10])
        clear hx10
        obtain ⟨pr, cr, hvR, hbR, hnR, hcR⟩ := own_ba HK.out.oR
        subst hvR
        have HS := hid (bShow (p1) pr cr (wr).drew (by omega) (hbR.grown (Gen.grownBy_drew (wr) none)) (tabs_chg HT.out (HC.out.trans (Chg.of0 (Gen.grownBy_drew (wr) none)) fun k hk => .inl hk) H0.out H1.out))
        obtain ⟨T, hT⟩ : ∃ T : ByteArray, ⟨(showV (p1)).toArray⟩ = T := ⟨_, rfl⟩
        rw [hT] at HS
        have HTT := hid hT.symm
        obtain ⟨nP, hnP⟩ : ∃ n, (p1).length = n := ⟨_, rfl⟩
        rw [hnP] at HS
        have HNP := hid hnP
        have f3 := HK.out.con.frozen 3
        have c3 : (wr).cell? ⟨C, 3, none⟩ = some vL := HK.out.con.cell (k := 3) (by omega)
        have c4 : (wr).cell? ⟨C, 4, none⟩ = some (.slice pr nP cr) := (HK.out.con.cell (k := 4) (by omega)).trans (congrArg some (show Value.slice pr p1.length cr = .slice pr nP cr by rw [HNP.out]))
        have s0 : ∀ W, (Instr.slice 22 (.slice pr nP cr) none (some (.int .i64 0)) none).run Tryd.prog W = .ok (.slice pr 0 cr) W := fun W => cut_to pr nP cr 0 (Nat.zero_le _) hcR W
        clear hT hbR hp1 hnP
        go_upto_region 6 with fail
        go_region_law (first
          | (refine step_append_g (by rfl) _ _ _ _ rfl _ _ rfl rfl _ _ (HR3.out _) ?_)
          | (go_simp; go_at_call 9; (with_reducible refine HS.out.mono ?_); rintro e W2 ⟨rfl, hb2⟩; have HK2 := hid ((HK.out.grown (Gen.grownBy_drew (wr) none)).grown (grown_below hb2)); have HG2 := hid ((Gen.grownBy_drew (wr) none).trans (grown_below hb2)); obtain ⟨v3, W3, hr3, hrow3, ⟨p3, c3', rfl⟩, hk3, hc3⟩ := app_line HK2.out T (showV (p1)) HTT.out (by omega); have HR3 := hid hr3; have HK3 := hid hk3; have HC3 := hid hc3; have d3 : W3.cell? ⟨C, 3, none⟩ = some vL := hrow3.cell (k := 3) (by omega); have g3 := hrow3.frozen 3; have d2 : W2.cell? ⟨C, 3, none⟩ = some vL := HK2.out.con.cell (k := 3) (by omega); have d2a := (fun ob => (World.grownBy_alloc W2 ob none).cell d2 (by simp)); have d24 : W2.cell? ⟨C, 4, none⟩ = some (.slice pr nP cr) := (HK2.out.con.cell (k := 4) (by omega)).trans (congrArg some (show Value.slice pr p1.length cr = .slice pr nP cr by rw [HNP.out])); clear hb2 hr3 hk3 hc3)
          | fail)
        all_goals
          clear d2 d2a d24 d3 g3 c3 c4 f3
          obtain ⟨W5, hW5⟩ : ∃ W5, W3.setCell ⟨C, 3, none⟩ (.slice p3 (L1.length + 1) c3') = W5 := ⟨_, rfl⟩
          rw [hW5] at HK3 HC3 ⊢
          have k4 : W5.cell? ⟨C, 4, none⟩ = some (.slice pr nP cr) := (HK3.out.con.cell (k := 4) (by omega)).trans (congrArg some (show Value.slice pr p1.length cr = .slice pr nP cr by rw [HNP.out]))
          have g4 := HK3.out.con.frozen 4
          have HAN := hid (HK3.out.anew (p := pr) (c := cr) (by simp))
          have HCW := hid (HC.out.trans ((Chg.of0 (S := fun k => ¬ D k) HG2.out).trans (HC3.out.trans HAN.out.2 fun k hk => .inl hk) fun k hk => .inl hk) fun k hk => .inl hk)
          clear hW5
          go_wp2
          exact ⟨⟨j + 1, _, _, by congr 1, by omega, by rw [HSN.out, HCV.out]; exact HAN.out.1, HCW.out⟩, by simp [Lib.intOf]; omega⟩
      · have e1 : ((x.toNat : Int) == 10) = false := by
          have : x.toNat ≠ 10 := fun e => hx10 (UInt8.toNat_inj.1 e)
          simp; omega
        obtain ⟨pr0, cr0, hvR0, _, hnR0, _⟩ := own_ba HK.out.oR
        obtain ⟨v2, W2b, hr2, hrow2, ⟨p2, c2', rfl⟩, hk2, hc2⟩ := app_byte HK.out x (by omega)
        have HR2 := hid hr2
        have b4 : wr.cell? ⟨C, 4, none⟩ = some vR := HK.out.con.cell (k := 4) (by omega)
        rw [hvR0] at b4
        have q4 : W2b.cell? ⟨C, 4, none⟩ = some (.slice pr0 p1.length cr0) := by rw [← hvR0]; exact hrow2.cell (k := 4) (by omega)
        have g4b := hrow2.frozen 4
        rw [hvR0] at HR2
        obtain ⟨Wb, hWb⟩ : ∃ Wb, W2b.setCell ⟨C, 4, none⟩ (.slice p2 (p1.length + 1) c2') = Wb := ⟨_, rfl⟩
        rw [hWb] at hk2 hc2
        have HKb := hid hk2
        have HCb := hid (HC.out.trans hc2 fun k hk => .inl hk)
        have l4 : Wb.cell? ⟨C, 4, none⟩ = some (.slice p2 (p1.length + 1) c2') := hk2.con.cell (k := 4) (by omega)
        have HX10 := hid hx10
        clear hr2 hk2 hc2 hnR0 hx10 HK HC
        have HK := HKb
        have HC := HCb
        clear HKb HCb
        go_upto_region 5 with (first
          | (at_builtin; (with_reducible refine Lib.wpList_append_run _ rfl _ _ _ _ rfl _ _ rfl rfl _ _ (HR2.out _) ?_))
          | fail)
        by_cases h128 : p1.length + 1 = 128
        · have e2 : (((p1.length : Int) + 1) == 128) = true := by simp; omega
          have HCV := hid (show comeV (L1, p1) x = (L1 ++ [showV (p1 ++ [x])], []) by unfold comeV; rw [if_neg HX10.out, if_pos (by simp; omega)])
          have hpl : (p1 ++ [x]).length = 128 := by simp; omega
          have H128 := hid h128
          clear h128
          obtain ⟨pr, cr, hvR, hbR, hnR, hcR⟩ := own_ba HK.out.oR
          simp only [Value.slice.injEq] at hvR
          obtain ⟨rfl, _, rfl⟩ := hvR
          have HS := hid (bShow (p1 ++ [x]) p2 c2' (Wb).drew (by rw [hpl]; omega) (hbR.grown (Gen.grownBy_drew (Wb) none)) (tabs_chg HT.out (HC.out.trans (Chg.of0 (Gen.grownBy_drew (Wb) none)) fun k hk => .inl hk) H0.out H1.out))
          obtain ⟨T, hT⟩ : ∃ T : ByteArray, ⟨(showV (p1 ++ [x])).toArray⟩ = T := ⟨_, rfl⟩
          rw [hT] at HS
          have HTT := hid hT.symm
          have hnP := hpl
          rw [hnP] at HS
          have HNP := hid hnP
          have f3 := HK.out.con.frozen 3
          have c3 : (Wb).cell? ⟨C, 3, none⟩ = some vL := HK.out.con.cell (k := 3) (by omega)
          have c4 : (Wb).cell? ⟨C, 4, none⟩ = some (.slice p2 128 c2') := (HK.out.con.cell (k := 4) (by omega)).trans (congrArg some (show Value.slice p2 (p1.length + 1) c2' = .slice p2 128 c2' by rw [H128.out]))
          have s0 : ∀ W, (Instr.slice 22 (.slice p2 128 c2') none (some (.int .i64 0)) none).run Tryd.prog W = .ok (.slice p2 0 c2') W := fun W => cut_to p2 128 c2' 0 (Nat.zero_le _) hcR W
          clear hT hbR hp1 hnP
          go_upto_region 6 with fail
          go_region_law (first
            | (refine step_append_g (by rfl) _ _ _ _ rfl _ _ rfl rfl _ _ (HR3.out _) ?_)
            | (go_simp; go_at_call 9; (with_reducible refine HS.out.mono ?_); rintro e W2 ⟨rfl, hb2⟩; have HK2 := hid ((HK.out.grown (Gen.grownBy_drew (Wb) none)).grown (grown_below hb2)); have HG2 := hid ((Gen.grownBy_drew (Wb) none).trans (grown_below hb2)); obtain ⟨v3, W3, hr3, hrow3, ⟨p3, c3', rfl⟩, hk3, hc3⟩ := app_line HK2.out T (showV (p1 ++ [x])) HTT.out (by omega); have HR3 := hid hr3; have HK3 := hid hk3; have HC3 := hid hc3; have d3 : W3.cell? ⟨C, 3, none⟩ = some vL := hrow3.cell (k := 3) (by omega); have g3 := hrow3.frozen 3; have d2 : W2.cell? ⟨C, 3, none⟩ = some vL := HK2.out.con.cell (k := 3) (by omega); have d2a := (fun ob => (World.grownBy_alloc W2 ob none).cell d2 (by simp)); have d24 : W2.cell? ⟨C, 4, none⟩ = some (.slice p2 128 c2') := (HK2.out.con.cell (k := 4) (by omega)).trans (congrArg some (show Value.slice p2 (p1.length + 1) c2' = .slice p2 128 c2' by rw [H128.out])); clear hb2 hr3 hk3 hc3)
            | fail)
          all_goals
            clear d2 d2a d24 d3 g3 c3 c4 f3
            obtain ⟨W5, hW5⟩ : ∃ W5, W3.setCell ⟨C, 3, none⟩ (.slice p3 (L1.length + 1) c3') = W5 := ⟨_, rfl⟩
            rw [hW5] at HK3 HC3 ⊢
            have k4 : W5.cell? ⟨C, 4, none⟩ = some (.slice p2 128 c2') := (HK3.out.con.cell (k := 4) (by omega)).trans (congrArg some (show Value.slice p2 (p1.length + 1) c2' = .slice p2 128 c2' by rw [H128.out]))
            have g4 := HK3.out.con.frozen 4
            have HAN := hid (HK3.out.anew (p := p2) (c := c2') (by simp))
            have HCW := hid (HC.out.trans ((Chg.of0 (S := fun k => ¬ D k) HG2.out).trans (HC3.out.trans HAN.out.2 fun k hk => .inl hk) fun k hk => .inl hk) fun k hk => .inl hk)
            clear hW5
            go_wp2
            exact ⟨⟨j + 1, _, _, by congr 1, by omega, by rw [HSN.out, HCV.out]; exact HAN.out.1, HCW.out⟩, by simp [Lib.intOf]; omega⟩
        · have e2 : (((p1.length : Int) + 1) == 128) = false := by simp; omega
          have HCV := hid (show comeV (L1, p1) x = (L1, p1 ++ [x]) by unfold comeV; rw [if_neg HX10.out, if_neg (by simp; omega)])
          clear h128
          go_wp2
          exact ⟨⟨j + 1, _, _, by congr 1, by omega, by rw [HSN.out, HCV.out]; exact HK.out, HC.out⟩, by simp [Lib.intOf]; omega⟩
    · obtain rfl : j = l.length := by omega
      rw [List.take_length] at hk
      have HKE := hid hk
      clear hk hc
      go_wp2
      go_end0
      exact ⟨rfl, vL, vR, HKE.out, HC.out⟩
end Go.Proofs.YtnplkifohocekaaDoor.Co

/-
  Package cons: Drain.
-/
namespace Go.Proofs.YtnplkifohocekaaDoor.Co
open Go.RowKit Go.Lib Go.Proofs.YtnplkifohocekaaDoor.Bk
set_option maxHeartbeats 2000000
/-- a console with its lines, a view, a machine -/
structure DW (w : World) (D : Nat → Prop) (V G B C : Nat) (S : Nat → Prop) (l : List PokeV) (n T : Nat) (M : Mach) (X mfn : Int) (tk pt : Nat) (L : List (List UInt8)) (part : List UInt8) (vL vR : Value) : Prop where
  fw : FW w V G B C S l n T M X mfn tk vL vR pt
  kt : KT w D C mfn tk pt L part vL vR
  dV : ∀ k, vfoot V G S k → D k
  dB : D B
variable {w w' : World} {D : Nat → Prop} {V G B C : Nat} {S : Nat → Prop} {l : List PokeV} {n T : Nat} {M M' : Mach} {X mfn : Int} {tk pt : Nat} {L : List (List UInt8)} {part : List UInt8} {vL vR : Value}
theorem own_chg {W W' : World} {S' : Nat → Prop} {base n sz : Nat} {e : TypeId} {v : Value} {xs : List Value} (h : W.ownsRow base e sz v n xs) (hc : Chg S' W W') (hne : ∀ k, v.ownBlock = some k → ¬ S' k) : W'.ownsRow base e sz v n xs := by
  refine ⟨h.1, ?_⟩
  rcases h.2 with hn | ⟨g, cap, cur, rfl, hb, hgg, rest⟩
  · exact .inl hn
  · refine .inr ⟨g, cap, cur, rfl, hb, ?_, rest⟩
    rw [hc.block g (Array.getElem?_eq_some_iff.1 hgg).1 (hne g rfl)]
    exact hgg
theorem KT.chg {S' : Nat → Prop} (h : KT w D C mfn tk pt L part vL vR) (hc : Chg S' w w') (hS : ∀ k, S' k → D k) : KT w' D C mfn tk pt L part vL vR :=
  ⟨h.con.chg hc fun e => h.dC (hS _ e), own_chg h.oL hc fun k e hk => h.dL k e (hS k hk), own_chg h.oR hc fun k e hk => h.dR k e (hS k hk), h.dC, h.dL, h.dR, fun k hk => Nat.lt_of_lt_of_le (h.lt k hk) hc.size⟩
/-- more is held by others -/
theorem KT.more (h : KT w D C mfn tk pt L part vL vR) (g : Nat) (hg : g < w.heap.size) (hC : g ≠ C) (hL : vL.ownBlock ≠ some g) (hR : vR.ownBlock ≠ some g) : KT w (fun k => D k ∨ k = g) C mfn tk pt L part vL vR :=
  ⟨h.con, h.oL, h.oR, fun hn => hn.elim h.dC fun e => hC e.symm, fun k e hn => hn.elim (h.dL k e) fun e1 => hL (e1 ▸ e), fun k e hn => hn.elim (h.dR k e) fun e1 => hR (e1 ▸ e), fun k hk => hk.elim (h.lt k) fun e => e ▸ hg⟩
theorem KT.less {D' : Nat → Prop} (h : KT w D' C mfn tk pt L part vL vR) (hd : ∀ k, D k → D' k) : KT w D C mfn tk pt L part vL vR :=
  ⟨h.con, h.oL, h.oR, fun hn => h.dC (hd _ hn), fun k e hn => h.dL k e (hd _ hn), fun k e hn => h.dR k e (hd _ hn), fun k hk => h.lt k (hd _ hk)⟩
theorem own_lt {W : World} {base n sz : Nat} {e : TypeId} {v : Value} {xs : List Value} (h : W.ownsRow base e sz v n xs) : ∀ k, v.ownBlock = some k → k < W.heap.size := fun k e => by
  rcases h.2 with ⟨rfl, _⟩ | ⟨g, cap, cur, rfl, _, hg, _⟩
  · simp [Value.ownBlock] at e
  · simp only [Value.ownBlock, Option.some.injEq] at e
    subst e
    exact (Array.getElem?_eq_some_iff.1 hg).1
theorem DW.grown (h : DW w D V G B C S l n T M X mfn tk pt L part vL vR) (hg : w.grownBy w' none) : DW w' D V G B C S l n T M X mfn tk pt L part vL vR := ⟨h.fw.grown hg, h.kt.grown hg, h.dV, h.dB⟩
theorem DW.read (h : DW w D V G B C S l n T M X mfn tk pt L part vL vR) (hr : VRead w V G B S l n T M w') : DW w' D V G B C S l (n + 1) T (M.rews (due l n)) X mfn tk pt L part vL vR ∧ Chg D w w' := by
  obtain ⟨a, _⟩ := h.fw.read hr
  have hs : ∀ k, (k = V ∨ k = G ∨ k = B) → D k := fun k hk => hk.elim (fun e => h.dV k (.inl e)) fun hk => hk.elim (fun e => h.dV k (.inr (.inl e))) fun e => e ▸ h.dB
  exact ⟨⟨a, h.kt.chg hr.chg hs, h.dV, h.dB⟩, hr.chg.mono hs⟩
/-- what take leaves of all this -/
theorem DW.took (h : DW w D V G B C S l n T M X mfn tk pt L part vL vR) {L' : List (List UInt8)} {part' : List UInt8} {vL' vR' : Value} (hk : KT w' D C mfn tk pt L' part' vL' vR') (hc : Chg (fun k => ¬ D k) w w') : DW w' D V G B C S l n T M X mfn tk pt L' part' vL' vR' := by
  obtain ⟨f, hv⟩ := h.fw.view
  refine ⟨⟨⟨f, hv.chg hc fun k hk hn => hn (h.dV k hk)⟩, ?_, h.fw.ok, hk.con, h.fw.nV, h.fw.nG, h.fw.nB, h.fw.nS⟩, hk, h.dV, h.dB⟩
  exact (hc.block B h.fw.mach.lt (fun hn => hn h.dB)).trans h.fw.mach
/-- take of bytes that a call has laid anew -/
theorem dTake (h : DW w D V G B C S l n T M X mfn tk pt L part vL vR) (N : Nat) (b : List UInt8) (q : Option Addr) (c : Nat) (hq : KeptBytes w (fun k => N ≤ k ∧ k < w.heap.size) q b) (hNL : ∀ k, vL.ownBlock = some k → k < N) (hNR : ∀ k, vR.ownBlock = some k → k < N) (hNC : C < N) (hp : part.length < 128) (hL : L.length + b.length ≤ 1000000000) (hT : Lib.Utf8Tabs 0 1 w) (h0 : D 0) (h1 : D 1) (hbl : b.length ≤ 1000) :
    Calls Tryd.prog 75 #[.pointer (some ⟨C, 2, none⟩), .slice q b.length c] w fun e w' => e = .returned (.tuple #[]) ∧ ∃ vL' vR', DW w' D V G B C S l n T M X mfn tk pt (takeV (L, part) b).1 (takeV (L, part) b).2 vL' vR' ∧ Chg (fun k => ¬ D k) w w' := by
  rcases hq with hb0 | ⟨g, rfl, ⟨hg1, hg2⟩, hc⟩
  · have hba : BA w q b := by rw [hb0]; exact BA.nil _ _
    refine (cTake b h.kt hp hL q c hba (fun a _ h0 => by rw [hb0] at h0; simp at h0) hT h0 h1).mono ?_
    rintro e w' ⟨rfl, vL', vR', hk, hch⟩
    exact ⟨rfl, vL', vR', h.took hk hch, hch⟩
  · have hkt := h.kt.more g hg2 (by omega) (fun e => by have := hNL g e; omega) (fun e => by have := hNR g e; omega)
    have hba : BA w (some ⟨g, 0, none⟩) b := fun k hk => ⟨g, 0, rfl, by rw [Nat.zero_add]; exact hc k hk⟩
    refine (cTake b hkt hp hL (some ⟨g, 0, none⟩) c hba (fun a ha _ => by cases ha; exact .inr rfl) hT (.inl h0) (.inl h1)).mono ?_
    rintro e w' ⟨rfl, vL', vR', hk, hch⟩
    have hch2 : Chg (fun k => ¬ D k) w w' := hch.mono fun k hk hd => hk (.inl hd)
    exact ⟨rfl, vL', vR', h.took (hk.less fun k hd => .inl hd) hch2, hch2⟩
/-- the number has moved on -/
theorem DW.moved (h : DW w D V G B C S l n T M X mfn tk pt L part vL vR) {tk' pt' : Nat} (hf : FW w' V G B C S l n T M' X mfn tk' vL vR pt') (hc : Chg (fset V G B C) w w') : DW w' D V G B C S l n T M' X mfn tk' pt' L part vL vR := by
  have hs : ∀ k, D k ∨ True := fun _ => .inr trivial
  have ne : ∀ {v : Value}, (∀ k, v.ownBlock = some k → ¬ D k) → v.ownBlock ≠ some C → ∀ k, v.ownBlock = some k → ¬ fset V G B C k := fun hd hC k e hk => by
    rcases hk with e1 | e1 | e1 | e1
    · exact hd k e (h.dV k (.inl e1))
    · exact hd k e (h.dV k (.inr (.inl e1)))
    · exact hd k e (e1 ▸ h.dB)
    · exact hC (e1 ▸ e)
  exact ⟨hf, ⟨hf.con, own_chg h.kt.oL hc (ne h.kt.dL (own_apart_row h.kt.oL h.kt.con (by decide))), own_chg h.kt.oR hc (ne h.kt.dR (own_apart_row h.kt.oR h.kt.con (by decide))), h.kt.dC, h.kt.dL, h.kt.dR, fun k hk => Nat.lt_of_lt_of_le (h.kt.lt k hk) hc.size⟩, h.dV, h.dB⟩
def lagN (tk ix : Nat) : Nat := (ix + 65536 - tk) % 65536
def cntN (tk ix : Nat) : Nat := min (lagN tk ix) 128
/-- Drain of a ring, where the number could be read -/
def DrainYes (w : World) (D : Nat → Prop) (V G B C : Nat) (S : Nat → Prop) (l : List PokeV) (n T : Nat) (M : Mach) (X mfn : Int) (tk pt : Nat) (L : List (List UInt8)) (part : List UInt8) (ix : Nat) (w' : World) : Prop :=
  let cnt := cntN tk ix
  let st := min cnt (128 - tk % 128)
  let M1 := M.rews (due l n)
  let M2 := M1.rews (due l (n + 1 : Nat))
  let b1 := (M2.read mfn ((16 + tk % 128 : Nat) : Int) st).1
  let M3 := if st < cnt then M2.rews (due l (n + 1 + 1 : Nat)) else M2
  let b2 := if st < cnt then (M3.read mfn ((16 : Nat) : Int) ((cnt - st : Nat) : Int)).1 else []
  let n' := if st < cnt then n + 1 + 1 + 1 else n + 1 + 1
  ∃ vL vR, DW w' D V G B C S l n' T (M3.write mfn ((2 : Nat) : Int) (two ((tk + cnt) % 65536))).2 X mfn ((tk + cnt) % 65536) pt (takeV (takeV (L, part) b1) b2).1 (takeV (takeV (L, part) b1) b2).2 vL vR
theorem read_len (M : Mach) (i off : Int) (k : Nat) : (M.read i off k).1.length ≤ k := by
  unfold Mach.read
  split
  · simp
  · split
    · simp
    · simp [Fr.part]
theorem tabs_D (h : Lib.Utf8Tabs 0 1 w) {S' : Nat → Prop} (hc : Chg S' w w') (h0 : ¬ S' 0) (h1 : ¬ S' 1) : Lib.Utf8Tabs 0 1 w' :=
  ⟨fun c hcl => hc.cell (h.1 c hcl) h0, fun i hi => ⟨hc.cell (h.2 i hi).1 h1, hc.cell (h.2 i hi).2 h1⟩⟩
/-- a read by the view -/
theorem dRead (h : DW w D V G B C S l n T M X mfn tk pt L part vL vR) (hf : ∀ p ∈ l, p.fits) (hn : (n : Int) < 9223372036854775807) (hll : l.length ≤ 64) (off k : Nat) (hoff : off ≤ 1000) :
    Calls Tryd.prog 74 #[.pointer (some ⟨V, 0, none⟩), .int .i64 mfn, .int .i64 (off : Int), .int .i64 (k : Int)] w fun e w' => ∃ q c r, e = .returned (.tuple #[.slice q ((M.rews (due l n)).read mfn (off : Int) (k : Int)).1.length c, .int .i64 r]) ∧
      KeptBytes w' (fun j => w.heap.size ≤ j ∧ j < w'.heap.size) q ((M.rews (due l n)).read mfn (off : Int) (k : Int)).1 ∧ DW w' D V G B C S l (n + 1) T (M.rews (due l n)) X mfn tk pt L part vL vR ∧ Chg (fun k => k = V ∨ k = G ∨ k = B) w w' := by
  obtain ⟨f, hv⟩ := h.fw.view
  refine (vRead V G B S l n T f mfn off k w M X hv h.fw.mach h.fw.ok hf hn hll (by omega)).mono ?_
  rintro e w' ⟨v, rfl, ⟨q, c, rfl, hk⟩, hr⟩
  exact ⟨q, c, _, rfl, hk, (h.read hr).1, hr.chg⟩
/-- what Drain may change -/
def dset (D : Nat → Prop) (V G B : Nat) (k : Nat) : Prop := ¬ D k ∨ k = V ∨ k = G ∨ k = B
theorem chgT {S S' : Nat → Prop} {W w1 w2 : World} (h : Chg S W w1) (k : Chg S' w1 w2) (hs : ∀ k, S' k → S k) : Chg S W w2 := h.trans k fun j hj => .inl (hs j hj)
/-- Drain of a ring -/
def DrainPost (w : World) (D : Nat → Prop) (V G B C : Nat) (S : Nat → Prop) (l : List PokeV) (n T : Nat) (M : Mach) (X mfn : Int) (tk pt : Nat) (L : List (List UInt8)) (part : List UInt8) (vL vR : Value) (e : Ending) (w' : World) : Prop :=
  ∃ r, (M.rews (due l n)).read mfn 0 2 = r ∧ Chg (dset D V G B) w w' ∧
    ((r.2 ≠ 0 ∧ e = .returned (.tuple #[.int .i64 0, .bool false, .int .i64 r.2]) ∧ DW w' D V G B C S l (n + 1) T (M.rews (due l n)) X mfn tk pt L part vL vR) ∨
     (r.2 = 0 ∧ ∃ ix : Nat, wordOf r = ix ∧ e = .returned (.tuple #[.int .i64 (cntN tk ix : Nat), .bool (decide (128 < lagN tk ix)), .int .i64 0]) ∧ DrainYes w D V G B C S l n T M X mfn tk pt L part ix w'))
theorem DrainPost.c0 {e : Ending} (h : DrainPost w D V G B C S l n T M X mfn tk pt L part vL vR e w') : w'.cell? ⟨C, 0, none⟩ = some (.int .i64 mfn) := by
  obtain ⟨r, _, _, h⟩ := h
  rcases h with ⟨_, _, h⟩ | ⟨_, _, _, _, _, _, h⟩
  · exact h.fw.con.cell (k := 0) (by omega)
  · exact h.fw.con.cell (k := 0) (by omega)
theorem DrainPost.three {e : Ending} (h : DrainPost w D V G B C S l n T M X mfn tk pt L part vL vR e w') : ∃ (x y : Int) (c : Bool), e = .returned (.tuple #[.int .i64 x, .bool c, .int .i64 y]) := by
  obtain ⟨r, _, _, h⟩ := h
  rcases h with ⟨_, e, _⟩ | ⟨_, _, _, e, _⟩
  · exact ⟨_, _, _, e⟩
  · exact ⟨_, _, _, e⟩
theorem DrainPost.first {w0 : World} {e : Ending} (h : DrainPost w D V G B C S l n T M X mfn tk pt L part vL vR e w') (hg : w0.grownBy w none) : DrainPost w0 D V G B C S l n T M X mfn tk pt L part vL vR e w' := by
  obtain ⟨r, h1, h2, h⟩ := h
  exact ⟨r, h1, (Chg.of0 (S := dset D V G B) hg).trans h2 fun k hk => .inl hk, h⟩
set_option maxRecDepth 100000 in
theorem cDrainR (h : DW w D V G B C S l n T M X mfn tk pt L part vL vR) (hf : ∀ p ∈ l, p.fits) (hn : n ≤ 1000000000) (hll : l.length ≤ 64) (htk : tk < 65536) (hp : part.length < 128) (hL : L.length ≤ 900000000) (hT : Lib.Utf8Tabs 0 1 w) (h0 : D 0) (h1 : D 1) (hV0 : V ≠ 0 ∧ V ≠ 1 ∧ G ≠ 0 ∧ G ≠ 1 ∧ B ≠ 0 ∧ B ≠ 1) :
    Calls Tryd.prog 49 #[.pointer (some ⟨C, 2, none⟩), .pointer (some ⟨V, 0, none⟩), .int .i64 mfn] w (DrainPost w D V G B C S l n T M X mfn tk pt L part vL vR) := by
  obtain ⟨f, hv⟩ := h.fw.view
  have HW := hid (vWord V G B S l n T f mfn 0 w M X hv h.fw.mach h.fw.ok hf (by omega) hll (by decide))
  obtain ⟨r, hr⟩ : ∃ r, (M.rews (due l n)).read mfn 0 2 = r := ⟨_, rfl⟩
  rw [hr] at HW
  have HR := hid hr
  have hre := read_err (M.rews (due l n)) mfn 0 2
  rw [hr] at hre
  obtain ⟨ix, hix, hixl⟩ := wordOf_lt r
  rw [hix] at HW
  have HIX := hid hix
  have HH := hid h
  have HF := hid hf
  have HT := hid hT
  have H0 := hid h0
  have H1 := hid h1
  have HV := hid hV0
  have HNN := hid hn
  clear hr hix h hv hf hT h0 h1 hV0 hn
  rcases hre with h0 | h1
  · have HR0 := hid h0
    rw [h0] at HW
    clear h0
    obtain ⟨d, hd⟩ : ∃ d, lagN tk ix = d := ⟨_, rfl⟩
    have hdl : d < 65536 := by rw [← hd]; unfold lagN; omega
    have e1 : IntKind.u16.wrap ((ix : Int) - tk) = d := by rw [← hd]; unfold lagN; simp [IntKind.wrap_u16]; omega
    obtain ⟨cnt, hcnt⟩ : ∃ k, cntN tk ix = k := ⟨_, rfl⟩
    have hcd : cnt = min d 128 := by rw [← hcnt, ← hd]; rfl
    have e2 : min (d : Int) 128 = cnt := by omega
    obtain ⟨pl, hpl⟩ : ∃ pl, tk % 128 = pl := ⟨_, rfl⟩
    have hpl128 : pl < 128 := by omega
    obtain ⟨st, hst⟩ : ∃ st, min cnt (128 - pl) = st := ⟨_, rfl⟩
    have hdi : (d : Int) ≤ 65535 := by omega
    have hci : (cnt : Int) ≤ 128 := by omega
    have hpi : (pl : Int) ≤ 127 := by omega
    have hsi : (st : Int) ≤ 128 := by omega
    have hsc : st ≤ cnt := by omega
    have HD := hid hd
    have HCNT := hid hcnt
    have HPL := hid hpl
    have HST := hid hst
    clear hd hcnt hpl hst hcd
    go_enter Tryd.func49, Tryd.ntmps49
    obtain ⟨b1, hb1⟩ : ∃ b, (((M.rews (due l n)).rews (due l (n + 1 : Nat))).read mfn ((16 + pl : Nat) : Int) (st : Int)).1 = b := ⟨_, rfl⟩
    have hb1l : b1.length ≤ 128 := by rw [← hb1]; have := read_len ((M.rews (due l n)).rews (due l (n + 1 : Nat))) mfn ((16 + pl : Nat) : Int) st; omega
    have HB1 := hid hb1
    have HB1L := hid hb1l
    have hL2z : (takeV (L, part) b1).1.length ≤ L.length + 128 := Nat.le_trans (takeV_lines b1 (L, part)) (by simp only; omega)
    have hp2 := takeV_part b1 (L, part) hp
    have hL2 := hL2z
    clear hL2z
    obtain ⟨s1, hs1⟩ : ∃ s1, takeV (L, part) b1 = s1 := ⟨_, rfl⟩
    rw [hs1] at hp2 hL2
    have HS1 := hid hs1
    obtain ⟨L1, p1⟩ := s1
    simp only at hp2 hL2
    clear hb1 hs1 hb1l
    by_cases hw : st < cnt
    · obtain ⟨rm, hrm⟩ : ∃ rm, cnt - st = rm := ⟨_, rfl⟩
      have er : (cnt : Int) - st = rm := by omega
      have hrmi : (0 : Int) < rm := by omega
      have hrm2 : (rm : Int) ≤ 128 := by omega
      obtain ⟨b2, hb2⟩ : ∃ b, ((((M.rews (due l n)).rews (due l (n + 1 : Nat))).rews (due l (n + 1 + 1 : Nat))).read mfn ((16 : Nat) : Int) (rm : Int)).1 = b := ⟨_, rfl⟩
      have hb2l : b2.length ≤ 128 := by rw [← hb2]; have := read_len (((M.rews (due l n)).rews (due l (n + 1 : Nat))).rews (due l (n + 1 + 1 : Nat))) mfn ((16 : Nat) : Int) rm; omega
      have HB2 := hid hb2
      have HB2L := hid hb2l
      have HRM := hid hrm
      have HWR := hid hw
      clear hb2 hrm hw hb2l
      go_wp2_with (first
        | (go_at_call 72; refine HW.out.mono ?_; rintro e w1 ⟨rfl, hr1⟩; have HD1 := hid (HH.out.read hr1).1; have HT1 := hid (tabs_D HT.out hr1.chg (fun e => e.elim (fun e => HV.out.1 e.symm) fun e => e.elim (fun e => HV.out.2.2.1 e.symm) fun e => HV.out.2.2.2.2.1 e.symm) (fun e => e.elim (fun e => HV.out.2.1 e.symm) fun e => e.elim (fun e => HV.out.2.2.2.1 e.symm) fun e => HV.out.2.2.2.2.2 e.symm)); have G1 := hid hr1.chg; clear hr1; have t2 : w1.cell? ⟨C, 2, none⟩ = some (.int .u16 (tk : Int)) := HD1.out.fw.con.cell (k := 2) (by omega); have HRC := hid (show Calls Tryd.prog 73 #[.pointer (some ⟨C, 2, none⟩), .int .i64 (cnt : Int), .int .i64 128] w1 fun e w' => e = .returned (.tuple #[.int .i64 (pl : Int), .int .i64 (st : Int)]) ∧ w1 = w' from (by rw [← HST.out, ← HPL.out]; exact cReach C 2 tk cnt 128 w1 t2 htk (by omega) (.inr rfl))); have HRD := hid (show Calls Tryd.prog 74 #[.pointer (some ⟨V, 0, none⟩), .int .i64 mfn, .int .i64 (16 + (pl : Int)), .int .i64 (st : Int)] w1 _ from (by rw [show 16 + (pl : Int) = ((16 + pl : Nat) : Int) by omega]; exact dRead HD1.out HF.out (by have := HNN.out; omega) hll (16 + pl) st (by omega))); rw [HB1.out] at HRD; have HN1 := hid (show C < w1.heap.size from HD1.out.fw.con.lt))
        | (go_at_call 73; (with_reducible refine HRC.out.mono ?_); rintro e w9 ⟨rfl, hw9⟩; subst w9)
        | (go_at_call 74; first
          | ((with_reducible refine HRD.out.mono ?_); rintro e w2 ⟨q1, c1, r1, rfl, hk1, hd1, hg1⟩; have HD2 := hid hd1; have HT2 := hid (tabs_D HT1.out hg1 (fun e => e.elim (fun e => HV.out.1 e.symm) fun e => e.elim (fun e => HV.out.2.2.1 e.symm) fun e => HV.out.2.2.2.2.1 e.symm) (fun e => e.elim (fun e => HV.out.2.1 e.symm) fun e => e.elim (fun e => HV.out.2.2.2.1 e.symm) fun e => HV.out.2.2.2.2.2 e.symm)); have HTK := hid (dTake hd1 w1.heap.size b1 q1 c1 hk1 (own_lt HD1.out.kt.oL) (own_lt HD1.out.kt.oR) HN1.out hp (by have := HB1L.out; omega) HT2.out H0.out H1.out (by have := HB1L.out; omega)); rw [HS1.out] at HTK; have G2 := hid hg1; clear hk1 hd1 hg1)
          | ((with_reducible refine HRD2.out.mono ?_); rintro e w4 ⟨q2, c2, r2, rfl, hk2, hd4, hg4⟩; have HD4 := hid hd4; have HT4 := hid (tabs_D HT3.out hg4 (fun e => e.elim (fun e => HV.out.1 e.symm) fun e => e.elim (fun e => HV.out.2.2.1 e.symm) fun e => HV.out.2.2.2.2.1 e.symm) (fun e => e.elim (fun e => HV.out.2.1 e.symm) fun e => e.elim (fun e => HV.out.2.2.2.1 e.symm) fun e => HV.out.2.2.2.2.2 e.symm)); have HTK2 := hid (dTake hd4 w3.heap.size b2 q2 c2 hk2 (own_lt HD3.out.kt.oL) (own_lt HD3.out.kt.oR) HN3.out hp2 (by have := HB2L.out; omega) HT4.out H0.out H1.out (by have := HB2L.out; omega)); have G4 := hid hg4; clear hk2 hd4 hg4)
          | fail)
        | (go_at_call 75; first
          | ((with_reducible refine HTK.out.mono ?_); rintro e w3 ⟨rfl, vL1, vR1, hd3, hg3⟩; have HD3 := hid hd3; have HT3 := hid (tabs_D HT2.out hg3 (fun hn => hn H0.out) (fun hn => hn H1.out)); have HRD2 := hid (show Calls Tryd.prog 74 #[.pointer (some ⟨V, 0, none⟩), .int .i64 mfn, .int .i64 16, .int .i64 (rm : Int)] w3 _ from (dRead hd3 HF.out (by have := HNN.out; omega) hll 16 rm (by omega))); rw [HB2.out] at HRD2; have HN3 := hid (show C < w3.heap.size from hd3.fw.con.lt); have G3 := hid hg3; clear hd3 hg3)
          | ((with_reducible refine HTK2.out.mono ?_); rintro e w5 ⟨rfl, vL2, vR2, hd5, hg5⟩; have HD5 := hid hd5; have t25 : w5.cell? ⟨C, 2, none⟩ = some (.int .u16 (tk : Int)) := hd5.fw.con.cell (k := 2) (by omega); have HMV := hid (show Calls Tryd.prog 76 #[.pointer (some ⟨C, 2, none⟩), .pointer (some ⟨V, 0, none⟩), .int .i64 mfn, .int .i64 2, .int .i64 (cnt : Int)] w5 _ from cMoved hd5.fw 2 tk cnt ((tk + cnt) % 65536) ((tk + cnt) % 65536) pt 2 t25 htk (by omega) rfl rfl (fun j hj hne => by match j, hj with | 0, _ => rfl | 1, _ => rfl | 2, _ => exact absurd rfl hne | 3, _ => rfl | 4, _ => rfl | 5, _ => rfl) (by omega)); have G5 := hid hg5; clear hd5 hg5)
          | fail)
        | (go_at_call 76; (with_reducible refine HMV.out.mono ?_); rintro e w6 ⟨rfl, hf6, hc6⟩; have HD6 := hid (HD5.out.moved hf6 hc6); have G6 := hid hc6; clear hf6 hc6)
        | fail)
      go_ret3
      refine ⟨r, HR.out, (chgT (chgT (chgT (chgT (chgT (chgT (Chg.refl (dset D V G B) w) G1.out (fun k hk => .inr hk)) G2.out (fun k hk => .inr hk)) G3.out (fun k hk => .inl hk)) G4.out (fun k hk => .inr hk)) G5.out (fun k hk => .inl hk)) G6.out (fun k hk => hk.elim (fun e => .inr (.inl e)) fun hk => hk.elim (fun e => .inr (.inr (.inl e))) fun hk => hk.elim (fun e => .inr (.inr (.inr e))) fun e => .inl fun hn => HH.out.kt.dC (e ▸ hn))), .inr ⟨HR0.out, ix, HIX.out, by rw [HCNT.out, HD.out, decide_eq_decide.2 (show 128 < d ↔ (128 : Int) < d by omega)]; rfl, ?_⟩⟩
      unfold DrainYes
      simp only
      rw [HCNT.out, HPL.out, HST.out, if_pos HWR.out, if_pos HWR.out, if_pos HWR.out, HB1.out, HS1.out, HRM.out, HB2.out]
      exact ⟨vL2, vR2, HD6.out⟩
    · have er : (cnt : Int) - st = 0 := by omega
      have HWR := hid hw
      clear hw
      go_wp2_with (first
        | (go_at_call 72; refine HW.out.mono ?_; rintro e w1 ⟨rfl, hr1⟩; have HD1 := hid (HH.out.read hr1).1; have HT1 := hid (tabs_D HT.out hr1.chg (fun e => e.elim (fun e => HV.out.1 e.symm) fun e => e.elim (fun e => HV.out.2.2.1 e.symm) fun e => HV.out.2.2.2.2.1 e.symm) (fun e => e.elim (fun e => HV.out.2.1 e.symm) fun e => e.elim (fun e => HV.out.2.2.2.1 e.symm) fun e => HV.out.2.2.2.2.2 e.symm)); have G1 := hid hr1.chg; clear hr1; have t2 : w1.cell? ⟨C, 2, none⟩ = some (.int .u16 (tk : Int)) := HD1.out.fw.con.cell (k := 2) (by omega); have HRC := hid (show Calls Tryd.prog 73 #[.pointer (some ⟨C, 2, none⟩), .int .i64 (cnt : Int), .int .i64 128] w1 fun e w' => e = .returned (.tuple #[.int .i64 (pl : Int), .int .i64 (st : Int)]) ∧ w1 = w' from (by rw [← HST.out, ← HPL.out]; exact cReach C 2 tk cnt 128 w1 t2 htk (by omega) (.inr rfl))); have HRD := hid (show Calls Tryd.prog 74 #[.pointer (some ⟨V, 0, none⟩), .int .i64 mfn, .int .i64 (16 + (pl : Int)), .int .i64 (st : Int)] w1 _ from (by rw [show 16 + (pl : Int) = ((16 + pl : Nat) : Int) by omega]; exact dRead HD1.out HF.out (by have := HNN.out; omega) hll (16 + pl) st (by omega))); rw [HB1.out] at HRD; have HN1 := hid (show C < w1.heap.size from HD1.out.fw.con.lt))
        | (go_at_call 73; (with_reducible refine HRC.out.mono ?_); rintro e w9 ⟨rfl, hw9⟩; subst w9)
        | (go_at_call 74; first
          | ((with_reducible refine HRD.out.mono ?_); rintro e w2 ⟨q1, c1, r1, rfl, hk1, hd1, hg1⟩; have HD2 := hid hd1; have HT2 := hid (tabs_D HT1.out hg1 (fun e => e.elim (fun e => HV.out.1 e.symm) fun e => e.elim (fun e => HV.out.2.2.1 e.symm) fun e => HV.out.2.2.2.2.1 e.symm) (fun e => e.elim (fun e => HV.out.2.1 e.symm) fun e => e.elim (fun e => HV.out.2.2.2.1 e.symm) fun e => HV.out.2.2.2.2.2 e.symm)); have HTK := hid (dTake hd1 w1.heap.size b1 q1 c1 hk1 (own_lt HD1.out.kt.oL) (own_lt HD1.out.kt.oR) HN1.out hp (by have := HB1L.out; omega) HT2.out H0.out H1.out (by have := HB1L.out; omega)); rw [HS1.out] at HTK; have G2 := hid hg1; clear hk1 hd1 hg1)
          | fail)
        | (go_at_call 75; first
          | ((with_reducible refine HTK.out.mono ?_); rintro e w3 ⟨rfl, vL1, vR1, hd3, hg3⟩; have HD3 := hid hd3; have HT3 := hid (tabs_D HT2.out hg3 (fun hn => hn H0.out) (fun hn => hn H1.out)); have HD5 := hid hd3; have t25 : w3.cell? ⟨C, 2, none⟩ = some (.int .u16 (tk : Int)) := hd3.fw.con.cell (k := 2) (by omega); have HMV := hid (show Calls Tryd.prog 76 #[.pointer (some ⟨C, 2, none⟩), .pointer (some ⟨V, 0, none⟩), .int .i64 mfn, .int .i64 2, .int .i64 (cnt : Int)] w3 _ from cMoved hd3.fw 2 tk cnt ((tk + cnt) % 65536) ((tk + cnt) % 65536) pt 2 t25 htk (by omega) rfl rfl (fun j hj hne => by match j, hj with | 0, _ => rfl | 1, _ => rfl | 2, _ => exact absurd rfl hne | 3, _ => rfl | 4, _ => rfl | 5, _ => rfl) (by omega)); have G3 := hid hg3; clear hd3 hg3)
          | fail)
        | (go_at_call 76; (with_reducible refine HMV.out.mono ?_); rintro e w6 ⟨rfl, hf6, hc6⟩; have HD6 := hid (HD5.out.moved hf6 hc6); have G6 := hid hc6; clear hf6 hc6)
        | fail)
      go_ret3
      refine ⟨r, HR.out, (chgT (chgT (chgT (chgT (Chg.refl (dset D V G B) w) G1.out (fun k hk => .inr hk)) G2.out (fun k hk => .inr hk)) G3.out (fun k hk => .inl hk)) G6.out (fun k hk => hk.elim (fun e => .inr (.inl e)) fun hk => hk.elim (fun e => .inr (.inr (.inl e))) fun hk => hk.elim (fun e => .inr (.inr (.inr e))) fun e => .inl fun hn => HH.out.kt.dC (e ▸ hn))), .inr ⟨HR0.out, ix, HIX.out, by rw [HCNT.out, HD.out, decide_eq_decide.2 (show 128 < d ↔ (128 : Int) < d by omega)]; rfl, ?_⟩⟩
      unfold DrainYes
      simp only
      rw [HCNT.out, HPL.out, HST.out, if_neg HWR.out, if_neg HWR.out, if_neg HWR.out, HB1.out, HS1.out]
      exact ⟨vL1, vR1, HD6.out⟩
  · have HR0 := hid h1
    rw [h1] at HW
    clear h1
    go_enter Tryd.func49, Tryd.ntmps49
    go_wp2_with (first
      | (go_at_call 72; refine HW.out.mono ?_; rintro e w1 ⟨rfl, hr1⟩; have HF1 := hid (HH.out.read hr1); have G1 := hid hr1.chg; clear hr1)
      | fail)
    go_ret3
    exact ⟨r, HR.out, chgT (Chg.refl (dset D V G B) w) G1.out (fun k hk => .inr hk), .inl ⟨by rw [HR0.out]; decide, by rw [HR0.out]; rfl, HF1.out.1⟩⟩
end Go.Proofs.YtnplkifohocekaaDoor.Co

/-
  Package cons: Drain, Lines and Rest of a console.
-/
namespace Go.Proofs.YtnplkifohocekaaDoor.Co
open Go.RowKit Go.Lib Go.Proofs.YtnplkifohocekaaDoor.Bk
set_option maxHeartbeats 2000000
variable {w w' : World} {D : Nat → Prop} {V G B C : Nat} {S : Nat → Prop} {l : List PokeV} {n T : Nat} {M M' : Mach} {X mfn : Int} {tk pt : Nat} {L : List (List UInt8)} {part : List UInt8} {vL vR : Value}
set_option maxRecDepth 100000 in
theorem cDrain (h : DW w D V G B C S l n T M X mfn tk pt L part vL vR) (hf : ∀ p ∈ l, p.fits) (hn : n ≤ 1000000000) (hll : l.length ≤ 64) (htk : tk < 65536) (hp : part.length < 128) (hL : L.length ≤ 900000000) (hT : Lib.Utf8Tabs 0 1 w) (h0 : D 0) (h1 : D 1) (hV0 : V ≠ 0 ∧ V ≠ 1 ∧ G ≠ 0 ∧ G ≠ 1 ∧ B ≠ 0 ∧ B ≠ 1) :
    Calls Tryd.prog 23 #[.pointer (some ⟨C, 0, none⟩), .pointer (some ⟨V, 0, none⟩)] w (DrainPost w D V G B C S l n T M X mfn tk pt L part vL vR) := by
  have c0 : w.cell? ⟨C, 0, none⟩ = some (.int .i64 mfn) := h.fw.con.cell (k := 0) (by omega)
  have HS := hid (cSees h.fw)
  have hg := Gen.grownBy_drew w none
  have HF := hid (cDrainR (h.grown hg) hf hn hll htk hp hL (tabs_D (S' := fun _ => False) hT (Chg.of0 hg) id id) h0 h1 hV0)
  clear h hf hT h0 h1 hV0 hn hg
  go_enter Tryd.func23, Tryd.ntmps23
  go_upto_region 3 with (first
    | (go_at_call 48; (with_reducible refine HS.out.mono ?_); rintro e w' ⟨rfl, hw⟩; subst w')
    | fail)
  go_region_held3 (fun W' => W'.cell? ⟨C, 0, none⟩ = some (.int .i64 mfn)) (first | assumption | go_keep)
    (first
    | (go_at_call 49; (with_reducible refine HF.out.mono ?_); intro e w2 hp; obtain ⟨x, y, z, rfl⟩ := hp.three; have HP := hid hp; have d0 := hp.c0; clear hp)
    | fail)
  all_goals
    go_wp2
    go_ret3
    exact HP.out.first (Gen.grownBy_drew w none)
theorem strs_get (L : List (List UInt8)) (j : Nat) : (strs L)[j]? = L[j]?.map fun l => .string ⟨l.toArray⟩ := by simp [strs]
theorem strs_one (L : List (List UInt8)) : ∀ u ∈ strs L, u.oneCell' = true := fun u hu => by
  unfold strs at hu
  obtain ⟨x, _, rfl⟩ := List.mem_map.1 hu
  rfl
set_option maxRecDepth 100000 in
/-- a copy of a row of texts -/
theorem sClone (v : Value) (L : List (List UInt8)) (w : World) (h : w.ownsRow 0 9 1 v L.length (strs L)) (hl : L.length ≤ 1000000000) :
    Calls Tryd.prog 43 #[v] w fun e w' => ∃ v', e = .returned v' ∧ w'.ownsRow w.heap.size 9 1 v' L.length (strs L) ∧ w.grownBy w' none := by
  obtain ⟨p, c, rfl⟩ := ownsRow_slice h
  have hq := fun w => Lib.run_eql_slice_nil (P := Tryd.prog) w 43 _ p L.length c 0 0 Tryd.underlying43
  cases p with
  | none =>
    have hz : L = [] := by
      rcases h.2 with ⟨e, hn⟩ | ⟨g, cap, cur, e, _⟩
      · simp only [Value.slice.injEq] at e
        exact List.eq_nil_of_length_eq_zero e.2.1
      · cases e
    subst hz
    have hc0 : c = 0 := by
      rcases h.2 with ⟨e, hn⟩ | ⟨g, cap, cur, e, _⟩
      · simp only [Value.slice.injEq] at e
        exact e.2.2
      · cases e
    subst hc0
    clear h
    have hq0 := fun w => Lib.run_eql_slice_nil (P := Tryd.prog) w 43 _ none 0 0 0 0 Tryd.underlying43
    simp only [List.length_nil]
    clear hq
    go_enter Tryd.func43, Tryd.ntmps43
    go_wp2
    go_ret
    exact ⟨_, rfl, ⟨by simp [strs], .inl ⟨rfl, rfl⟩⟩, World.grownBy.refl _ _⟩
  | some a =>
    obtain ⟨i0, hi, hz0, hz1, hz2⟩ := info_parts info_str
    have Hi := hid hi; have Hz0 := hid hz0; have Hz1 := hid hz1; have Hz2 := hid hz2
    clear hi hz0 hz1 hz2
    have HG0 := hid (World.grownBy_alloc w (.cells #[] 9) none)
    have HOn := hid (World.ownsRow_made (base := w.heap.size) (e := 9) (size := 1) w #[] 0 (Nat.le_refl _) (by unfold maxLen; omega) (by simp))
    have HNw := hid (show ∀ j u, (strs L)[j]? = some u → (w.alloc (.cells #[] 9)).cell? (a.add j) = some u from fun j u hu => by
      have hj : j < (strs L).length := (List.getElem?_eq_some_iff.1 hu).1
      rw [strs_len] at hj
      obtain ⟨n, hn⟩ : ∃ n, L.length = n + 1 := ⟨L.length - 1, by omega⟩
      have hO := h
      rw [hn] at hO
      obtain ⟨g, c', e, hb, hr⟩ := ownsRow_row hO
      injection e with e
      cases e
      have e : (⟨g, 0, none⟩ : Addr).add j = ⟨g, j, none⟩ := by unfold Addr.add; split <;> simp_all
      rw [e]
      rw [HG0.out.cell (hr.cell (k := j) (by omega)) (by simp)]
      simp [List.getD, hu])
    have HL := hid (strs_len L)
    clear h
    go_enter Tryd.func43, Tryd.ntmps43
    go_wp2_with (at_builtin; go_loud (refine wpList_append_own _ rfl _ _ 43 rfl w.heap.size 9 i0 (.string ⟨#[]⟩) 1 16 Tryd.underlying43 Hi.out Hz0.out Hz1.out Hz2.out rfl (by decide) _ 0 [] rfl HOn.out a L.length c (strs L) rfl (by rw [HL.out, Nat.mul_one]) HNw.out (strs_one L) (by unfold maxLen; omega) (by omega) (by simp) ?_); intro v' w1 hown' hgrow hnil; clear hnil; simp only [Nat.zero_add, List.nil_append] at hown'; have HO1 := hid hown'; have HG1 := hid (HG0.out.andThen hgrow (fun j hj => .inl (HOn.out.lt j hj).1)); clear hown' hgrow)
    go_ret
    exact ⟨_, rfl, HO1.out, HG1.out⟩
/-- a console that was made tells its lines -/
theorem cLines (h : KT w D C mfn tk pt L part vL vR) (hl : L.length ≤ 1000000000) :
    Calls Tryd.prog 17 #[.pointer (some ⟨C, 0, none⟩)] w fun e w' => ∃ v', e = .returned v' ∧ w'.ownsRow w.heap.size 9 1 v' L.length (strs L) ∧ w.grownBy w' none := by
  have c1 : w.cell? ⟨C, 1, none⟩ = some (.bool true) := h.con.cell (k := 1) (by omega)
  have c3 : w.cell? ⟨C, 3, none⟩ = some vL := h.con.cell (k := 3) (by omega)
  have HE := hid (cEx C true w c1)
  have HC := hid (sClone vL L w h.oL hl)
  obtain ⟨p, c, rfl⟩ := ownsRow_slice h.oL
  clear h
  go_enter Tryd.func17, Tryd.ntmps17
  go_wp2_with (first
    | (go_at_call 42; (with_reducible refine HE.out.mono ?_); rintro e w' ⟨rfl, hw⟩; subst w')
    | (go_at_call 43; (with_reducible refine HC.out.mono ?_); rintro e w1 ⟨v', rfl, ho, hg⟩; have HO := hid ho; have HG := hid hg; clear ho hg)
    | fail)
  go_ret
  exact ⟨v', rfl, HO.out, HG.out⟩
/-- a console that was made tells its rest -/
theorem cRest (h : KT w D C mfn tk pt L part vL vR) (hp : part.length ≤ 1000) (hT : Lib.Utf8Tabs 0 1 w) :
    Calls Tryd.prog 18 #[.pointer (some ⟨C, 0, none⟩)] w fun e w' => e = .returned (.string ⟨(showV part).toArray⟩) ∧ Below w.heap.size w w' := by
  have c1 : w.cell? ⟨C, 1, none⟩ = some (.bool true) := h.con.cell (k := 1) (by omega)
  have HE := hid (cEx C true w c1)
  obtain ⟨p, c, rfl⟩ := ownsRow_slice h.oR
  have c4 : w.cell? ⟨C, 4, none⟩ = some (.slice p part.length c) := h.con.cell (k := 4) (by omega)
  obtain ⟨q, d, e, hba, _⟩ := own_ba h.oR
  cases e
  have HC := hid (bShow part p c w (by omega) hba hT)
  clear h hba hT
  go_enter Tryd.func18, Tryd.ntmps18
  go_wp2_with (first
    | (go_at_call 42; (with_reducible refine HE.out.mono ?_); rintro e w' ⟨rfl, hw⟩; subst w')
    | (go_at_call 9; (with_reducible refine HC.out.mono ?_); rintro e w1 ⟨rfl, hb⟩; have HB := hid hb; clear hb)
    | fail)
  go_ret
  exact ⟨rfl, HB.out⟩
end Go.Proofs.YtnplkifohocekaaDoor.Co

/-
  The laws of cons: the same texts?
-/
namespace Go.Proofs.YtnplkifohocekaaDoor.Co
open Go.RowKit Go.Lib Go.Proofs.YtnplkifohocekaaDoor.Bk
set_option maxHeartbeats 2000000
/-- texts at an address -/
def SAt (w : World) (p : Option Addr) (L : List (List UInt8)) : Prop := ∀ k, k < L.length → ∃ g, p = some ⟨g, 0, none⟩ ∧ w.cell? ⟨g, k, none⟩ = some (.string ⟨(L.getD k []).toArray⟩)
theorem SAt.grown {w w' : World} {p : Option Addr} {L : List (List UInt8)} (h : SAt w p L) (hg : w.grownBy w' none) : SAt w' p L := fun k hk => by
  obtain ⟨g, e, hc⟩ := h k hk
  exact ⟨g, e, hg.cell hc (by simp)⟩
theorem own_sat {w : World} {base n : Nat} {v : Value} {L : List (List UInt8)} (hn : L.length = n) (h : w.ownsRow base 9 1 v n (strs L)) : ∃ p c, v = .slice p n c ∧ SAt w p L := by
  obtain ⟨p, c, rfl⟩ := ownsRow_slice h
  refine ⟨p, c, rfl, fun k hk => ?_⟩
  obtain ⟨m, hm⟩ : ∃ m, n = m + 1 := ⟨n - 1, by omega⟩
  subst hm
  obtain ⟨g, c', e, hb, hr⟩ := ownsRow_row h
  injection e with e
  refine ⟨g, e, ?_⟩
  rw [hr.cell (k := k) (by omega)]
  simp [List.getD, strs_get, List.getElem?_eq_getElem hk]
set_option maxRecDepth 100000 in
theorem lTexts (w : World) (p q : Option Addr) (c d : Nat) (L : List (List UInt8)) (hp : SAt w p L) (hq : SAt w q L) (hl : L.length ≤ 1000000000) :
    Calls Tryd.prog 16 #[.slice p L.length c, .slice q L.length d] w fun e w' => e = .returned (.bool true) ∧ w.grownBy w' none := by
  have hli : (L.length : Int) ≤ 1000000000 := by omega
  have HP := hid hp
  have HQ := hid hq
  clear hp hq
  go_enter Tryd.func16, Tryd.ntmps16
  go_wp2
  go_loopw [5] (fun ti wr => ∃ i : Nat, ti = .int .i64 i ∧ i ≤ L.length ∧ w.grownBy wr none) (fun ti _ => L.length - (Lib.intOf ti).toNat)
  case atStart => exact ⟨0, rfl, Nat.zero_le _, World.grownBy.refl _ _⟩
  case round =>
    obtain ⟨i, rfl, hil, hg⟩ := hrel
    have HG := hid hg
    clear hg
    by_cases hlt : i < L.length
    · obtain ⟨g, rfl, hc⟩ := HP.out i hlt
      obtain ⟨g2, rfl, hc2⟩ := HQ.out i hlt
      obtain ⟨x, hx⟩ : ∃ x : ByteArray, (⟨(L.getD i []).toArray⟩ : ByteArray) = x := ⟨_, rfl⟩
      rw [hx] at hc hc2
      have k0 := HG.out.cell hc (by simp)
      have k1 := HG.out.cell hc2 (by simp)
      clear hc hc2 hx
      go_upto_region 6 with (fail)
      go_quiet (fail)
      all_goals
        clear k0 k1
        go_wp2
        exact ⟨⟨i + 1, by congr 1, by omega, HG.out.trans (grownBy_drewN _ _ _)⟩, by simp [Lib.intOf]; omega⟩
    · go_wp2
      go_ret
      exact ⟨rfl, HG.out⟩
end Go.Proofs.YtnplkifohocekaaDoor.Co
