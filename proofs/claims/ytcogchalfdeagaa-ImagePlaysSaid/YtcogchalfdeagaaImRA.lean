/-
  The reference's image in memory; Is, Base, Read.
-/
import Derived.Test.YtcogchalfdeagaaImB
set_option linter.unusedSimpArgs false
set_option linter.unusedVariables false
namespace Go.Proofs.Ytcogchalfdeagaa
open Go.RowKit Gen CM
set_option maxHeartbeats 1000000
set_option maxRecDepth 100000

theorem wpList_append64 {ops : Array Oper} {rest : List Oper} {o : Oper} {a : Act} {w0 : World} {Q : Exit → Act → World → Prop} (hgd : o.guard = none) (x y : Operand)
    (hop : o.op = .call { callee := .builtin .append, args := #[x, y], argTypes := #[22, 22] })
    (hx : a.eval x = .slice (some ⟨w0.heap.size, 0, none⟩) 0 0) (p : Option Addr) (l : List UInt8) (c : Nat) (hl : l.length = 64) (hy : a.eval y = .slice p 64 c) (hb : BA w0 p l)
    (h : ∀ v w', NewB w0 l v w' → wpList Try.prog ops Q rest (a.put o.dst v) w') : wpList Try.prog ops Q (o :: rest) a (w0.alloc (.cells #[] 5)) :=
  wpList_append_empty hgd x y hop hx p l c (by rw [hl]; exact hy) hb (by omega) (fun e => by subst e; obtain ⟨_, _, e, _⟩ := hb 0 (by omega); cases e) h
/-- the same at a step of a region that draws its order -/
theorem step_append_empty {ops : Array Oper} {o : Oper} {a : Act} {w0 : World} {K : Act → World → Prop} {Q : Exit → Act → World → Prop} {E : Prop} (hgd : o.guard = none) (x y : Operand)
    (hop : o.op = .call { callee := .builtin .append, args := #[x, y], argTypes := #[22, 22] })
    (hx : a.eval x = .slice (some ⟨w0.heap.size, 0, none⟩) 0 0) (p : Option Addr) (l : List UInt8) (c : Nat) (hl : l.length = 64) (hy : a.eval y = .slice p 64 c) (hb : BA w0 p l)
    (h : ∀ v w', NewB w0 l v w' → K (a.put o.dst v) w') : if Region.wanted o (yielded ops a.tmps) = true then Oper.wp Try.prog o a (w0.alloc (.cells #[] 5)) K Q else E := by
  have hw' : Region.wanted o (yielded ops a.tmps) = true := by simp [Region.wanted, hgd]
  rw [if_pos hw']
  obtain ⟨i0, hi, hz0, hz1, hz2⟩ := info_parts info_u8
  have HG0 := World.grownBy_alloc w0 (.cells #[] 5) none
  have HOn := World.ownsRow_made (base := w0.heap.size) (e := 5) (size := 1) w0 #[] 0 (Nat.le_refl _) (by unfold maxLen; omega) (by simp)
  obtain ⟨b0, o0, rfl, -⟩ := hb 0 (by omega)
  refine wp_append_own _ x y 22 hop w0.heap.size 5 i0 (.int .u8 0) 1 1 Try.underlying22 hi hz0 hz1 hz2 rfl (by decide) _ 0 [] hx HOn ⟨b0, o0, none⟩ 64 c (bcells l) hy (by rw [bcells_len, hl]) (fun j u hu => ?_) (bcells_one l) (by unfold maxLen; omega) (by omega) (by simp) ?_
  · have hj := (List.getElem?_eq_some_iff.1 hu).1
    rw [bcells_len] at hj
    obtain ⟨b, oo, e, hc⟩ := hb j hj
    cases e
    have e : (⟨b0, o0, none⟩ : Addr).add j = ⟨b0, o0 + j, none⟩ := by unfold Addr.add; split <;> simp_all
    rw [bcells_at hj] at hu
    cases hu
    rw [e]
    exact HG0.cell hc (by simp)
  · intro v' w1 hown' hgrow _
    simp only [Nat.zero_add, List.nil_append] at hown'
    exact h _ _ ⟨by rw [hl]; exact hown', HG0.andThen hgrow (fun j hj => .inl (HOn.lt j hj).1)⟩
/-- bytes that lie in a block of bytes -/
def BU (w : World) (p : Option Addr) (l : List UInt8) : Prop := BA w p l ∧ ∀ a, p = some a → ∃ cur, w.heap[a.block]? = some (.cells cur 5 (0, 0))
theorem BU.chg {S : Nat → Prop} {w w' : World} {p : Option Addr} {l : List UInt8} (h : BU w p l) (hc : Chg S w w') (hS : ∀ k cur, w.heap[k]? = some (.cells cur 5 (0, 0)) → ¬ S k) : BU w' p l := by
  refine ⟨fun k hk => ?_, fun a e => ?_⟩
  · obtain ⟨b, o, e, h1⟩ := h.1 k hk
    obtain ⟨cur, h2⟩ := h.2 _ e
    exact ⟨b, o, e, hc.cell h1 (hS _ _ h2)⟩
  · obtain ⟨cur, h2⟩ := h.2 _ e
    exact ⟨cur, (hc.block _ (Array.getElem?_eq_some_iff.1 h2).1 (hS _ _ h2)).trans h2⟩
theorem BU.grown {w w' : World} {p : Option Addr} {l : List UInt8} (h : BU w p l) (hg : w.grownBy w' none) : BU w' p l := h.chg (S := fun _ => False) (Chg.of0 hg) fun _ _ _ e => e
theorem NewB.bu {w w' : World} {l : List UInt8} {v : Value} (h : NewB w l v w') : ∃ p c, v = .slice p l.length c ∧ BU w' p l ∧ (∀ a, p = some a → w.heap.size ≤ a.block) ∧ l.length ≤ c ∧ (p = none → c = 0) := by
  obtain ⟨p, c, rfl, hb, hlo, hc, hn⟩ := h.ba
  refine ⟨p, c, rfl, ⟨hb, fun a e => ?_⟩, hlo, hc, hn⟩
  subst e
  rcases h.1.2 with ⟨e, _⟩ | ⟨g, cap, cur, e, _, hg, _⟩
  · cases e
  · simp only [Value.slice.injEq, Option.some.injEq] at e
    rw [e.1]
    exact ⟨cur, hg⟩
def rtop (q lp : Option Addr) (cq cl : Nat) (I : Im) : Nat → Value
  | 0 => .slice q I.B.length cq
  | 1 => .slice lp I.n cl
  | _ => .int .i64 ((I.most : Int) - I.used)
/-- block r holds n rows: those of f, nil where there is none -/
def RL (w : World) (r n : Nat) (f : Int → Option (List UInt8)) : Prop :=
  ∃ lv : Nat → Value, Row w r 22 n lv ∧ ∀ i : Nat, i < n → (f i = none ∧ lv i = .slice none 0 0) ∨ ∃ l p c, f i = some l ∧ lv i = .slice p 64 c ∧ l.length = 64 ∧ BU w p l
/-- block y is the reference's image I -/
structure RI (w : World) (y r : Nat) (q lp : Option Addr) (cq cl : Nat) (I : Im) : Prop where
  top : Row w y 40 3 (rtop q lp cq cl I)
  b : BU w q I.B
  bc : I.B.length ≤ cq
  bn : q = none → cq = 0
  lp : I.n ≠ 0 → lp = some ⟨r, 0, none⟩
  rows : I.n ≠ 0 → RL w r I.n I.own
section
variable {w w' : World} {y r : Nat} {q lp : Option Addr} {cq cl : Nat} {I : Im}
theorem RL.chg {S : Nat → Prop} {n : Nat} {f : Int → Option (List UInt8)} (h : RL w r n f) (hc : Chg S w w') (hr : ¬ S r) (hS : ∀ k cur, w.heap[k]? = some (.cells cur 5 (0, 0)) → ¬ S k) : RL w' r n f := by
  obtain ⟨lv, h1, h2⟩ := h
  refine ⟨lv, h1.chg hc hr, fun i hi => ?_⟩
  rcases h2 i hi with h | ⟨l, p, c, e1, e2, e3, h3⟩
  · exact .inl h
  · exact .inr ⟨l, p, c, e1, e2, e3, h3.chg hc hS⟩
theorem RI.chg {S : Nat → Prop} (h : RI w y r q lp cq cl I) (hc : Chg S w w') (hy : ¬ S y) (hr : I.n ≠ 0 → ¬ S r) (hS : ∀ k cur, w.heap[k]? = some (.cells cur 5 (0, 0)) → ¬ S k) : RI w' y r q lp cq cl I :=
  ⟨h.top.chg hc hy, h.b.chg hc hS, h.bc, h.bn, h.lp, fun hn => (h.rows hn).chg hc (hr hn) hS⟩
theorem RI.grown (h : RI w y r q lp cq cl I) (hg : w.grownBy w' none) : RI w' y r q lp cq cl I := h.chg (S := fun _ => False) (Chg.of0 hg) (fun e => e) (fun _ e => e) fun _ _ _ e => e
theorem RI.c0 (h : RI w y r q lp cq cl I) : w.cell? ⟨y, 0, none⟩ = some (.slice q I.B.length cq) := h.top.cell (k := 0) (by omega)
theorem RI.c1 (h : RI w y r q lp cq cl I) : w.cell? ⟨y, 1, none⟩ = some (.slice lp I.n cl) := h.top.cell (k := 1) (by omega)
theorem RI.c2 (h : RI w y r q lp cq cl I) : w.cell? ⟨y, 2, none⟩ = some (.int .i64 ((I.most : Int) - I.used)) := h.top.cell (k := 2) (by omega)
theorem RI.at (h : RI w y r q lp cq cl I) {s : Int} (hs : I.is s = true) : lp = some ⟨r, 0, none⟩ ∧ ∃ k : Nat, s = k ∧ k < I.n ∧ ((I.own k = none ∧ w.cell? ⟨r, k, none⟩ = some (.slice none 0 0)) ∨ ∃ l p c, I.own k = some l ∧ w.cell? ⟨r, k, none⟩ = some (.slice p 64 c) ∧ l.length = 64 ∧ BU w p l) := by
  obtain ⟨h0, h1⟩ := Im.is_yes.1 hs
  obtain ⟨k, rfl⟩ : ∃ k : Nat, s = k := ⟨s.toNat, by omega⟩
  have hn : I.n ≠ 0 := by omega
  refine ⟨h.lp hn, k, rfl, by omega, ?_⟩
  obtain ⟨lv, hr, hl⟩ := h.rows hn
  rcases hl k (by omega) with ⟨e1, e2⟩ | ⟨l, p, c, e1, e2, e3, h3⟩
  · exact .inl ⟨e1, by rw [hr.cell (by omega), e2]⟩
  · exact .inr ⟨l, p, c, e1, by rw [hr.cell (by omega), e2], e3, h3⟩
/-- Is -/
theorem rIs (h : RI w y r q lp cq cl I) (s : Int) : Calls Try.prog 38 #[.pointer (some ⟨y, 0, none⟩), .int .i64 s] w fun e w' => e = .returned (.bool (I.is s)) ∧ w = w' := by
  have c1 := h.c1
  cases hs : I.is s with
  | true =>
    obtain ⟨h0, h1⟩ := Im.is_yes.1 hs
    clear h hs
    go_enter Try.func38, Try.ntmps38
    go_wp2
    go_ret
    exact ⟨by simp <;> omega, rfl⟩
  | false =>
    have hn := Im.is_no hs
    clear hs h
    by_cases h0 : 0 ≤ s
    · have h1 : (I.n : Int) ≤ s := by omega
      clear hn
      go_enter Try.func38, Try.ntmps38
      go_wp2
      go_ret
      exact ⟨by simp <;> omega, rfl⟩
    · clear hn
      go_enter Try.func38, Try.ntmps38
      go_wp2
      go_ret
      exact ⟨rfl, rfl⟩
/-- Base -/
theorem rBase_no (h : RI w y r q lp cq cl I) (s : Int) (hs : I.is s = false) : Calls Try.prog 32 #[.pointer (some ⟨y, 0, none⟩), .int .i64 s] w fun e w' => e = .returned (.tuple #[.slice none 0 0, .int .i64 1]) ∧ w = w' := by
  have HI := hid (rIs h s)
  rw [hs] at HI
  clear h hs
  go_enter Try.func32, Try.ntmps32
  go_wp2_with (go_at_call 38; refine HI.out.mono ?_; rintro e w' ⟨rfl, rfl⟩)
  go_ret2
  exact ⟨rfl, rfl⟩
theorem rBase_yes (h : RI w y r q lp cq cl I) (hok : I.ok) (s : Int) (hs : I.is s = true) : Calls Try.prog 32 #[.pointer (some ⟨y, 0, none⟩), .int .i64 s] w fun e w' => ∃ v, e = .returned (.tuple #[v, .int .i64 0]) ∧ NewB w (I.base s) v w' := by
  have HI := hid (rIs h s)
  rw [hs] at HI
  obtain ⟨h0, h1⟩ := Im.is_yes.1 hs
  obtain ⟨k, rfl⟩ : ∃ k : Nat, s = k := ⟨s.toNat, by omega⟩
  have c0 := h.c0
  have c0' := fun ob => (World.grownBy_alloc w ob none).cell c0 (by simp)
  have hlen := hok.blen
  have hn := hok.n256
  obtain ⟨q0, o0, rfl, -⟩ := h.b.1 0 (by omega)
  have hsl := fun W => run_part W q0 o0 I.B.length cq k (by omega) h.bc
  have HP := hid (h.b.1.part (k := k) (by omega))
  have e : I.base k = (I.B.drop (k * 64)).take 64 := by unfold Im.base; simp
  have HL := hid (show ((I.B.drop (k * 64)).take 64).length = 64 by rw [← e]; exact Im.base_len hok hs)
  rw [e]
  obtain ⟨P, hP⟩ : ∃ P, (I.B.drop (k * 64)).take 64 = P := ⟨_, rfl⟩
  rw [hP] at HP HL ⊢
  have i1 : IntKind.i64.wrap ((k : Int) * 64) = (k : Int) * 64 := IntWalk.i64_in _ (by omega)
  have i2 : IntKind.i64.wrap ((k : Int) + 1) = (k : Int) + 1 := IntWalk.i64_in _ (by omega)
  have i3 : IntKind.i64.wrap (((k : Int) + 1) * 64) = ((k : Int) + 1) * 64 := IntWalk.i64_in _ (by omega)
  clear h hs hok e hP hlen
  go_enter Try.func32, Try.ntmps32
  go_wp2_with (first
    | (go_at_call 38; refine HI.out.mono ?_; rintro e w' ⟨rfl, rfl⟩)
    | (at_builtin; refine wpList_append64 rfl (.tmp 10) (.tmp 20) rfl rfl (some ⟨q0, o0 + k * 64, none⟩) P (cq - k * 64) HL.out rfl HP.out ?_; intro v w1 hv; have HV := hid hv; clear hv))
  go_ret2
  exact ⟨v, rfl, HV.out⟩
/-- Read -/
theorem rRead_no (h : RI w y r q lp cq cl I) (s : Int) (hs : I.is s = false) : Calls Try.prog 28 #[.pointer (some ⟨y, 0, none⟩), .int .i64 s] w fun e w' => e = .returned (.tuple #[.slice none 0 0, .int .i64 1]) ∧ w = w' := by
  have HI := hid (rIs h s)
  have HB := hid (rBase_no h s hs)
  rw [hs] at HI
  clear h hs
  go_enter Try.func28, Try.ntmps28
  go_wp2_with (first
    | (go_at_call 38; refine HI.out.mono ?_; rintro e w' ⟨rfl, rfl⟩)
    | (go_at_call 32; refine HB.out.mono ?_; rintro e w' ⟨rfl, rfl⟩))
  go_ret2
  exact ⟨rfl, rfl⟩
theorem rRead_yes (h : RI w y r q lp cq cl I) (hok : I.ok) (s : Int) (hs : I.is s = true) : Calls Try.prog 28 #[.pointer (some ⟨y, 0, none⟩), .int .i64 s] w fun e w' => ∃ v, e = .returned (.tuple #[v, .int .i64 0]) ∧ NewB w (I.at s) v w' := by
  have HI := hid (rIs h s)
  have HB := hid (rBase_yes h hok s hs)
  rw [hs] at HI
  obtain ⟨rfl, k, rfl, hk, h'⟩ := h.at hs
  have c1 := h.c1
  have c1' := fun ob => (World.grownBy_alloc w ob none).cell c1 (by simp)
  have hk0 : (0 : Int) ≤ k := by omega
  have hk1 : (k : Int) < I.n := by omega
  have hn := hok.n256
  rcases h' with ⟨e1, hc⟩ | ⟨l, p, c, e1, hc, hl, hb⟩
  · have e : I.at k = I.base k := by unfold Im.at; rw [e1]; rfl
    rw [e]
    clear h hok e hs e1
    go_enter Try.func28, Try.ntmps28
    go_wp2_with (first
      | (go_at_call 38; refine HI.out.mono ?_; rintro e w' ⟨rfl, rfl⟩)
      | (go_at_call 32; refine HB.out.mono ?_; rintro e w1 ⟨v, rfl, hv⟩; have HV := hid hv; clear hv))
    go_ret2
    exact ⟨v, rfl, HV.out⟩
  · have e : I.at k = l := by unfold Im.at; rw [e1]; rfl
    rw [e]
    have hc' := fun ob => (World.grownBy_alloc w ob none).cell hc (by simp)
    have HL := hid hl
    have HBA := hid hb.1
    clear h hok e hs e1 HB hl hb
    go_enter Try.func28, Try.ntmps28
    go_wp2_with (first
      | (go_at_call 38; refine HI.out.mono ?_; rintro e w' ⟨rfl, rfl⟩)
      | (at_builtin; refine wpList_append64 rfl (.tmp 26) (.tmp 33) rfl rfl p l c HL.out rfl HBA.out ?_; intro v w1 hv; have HV := hid hv; clear hv))
    go_ret2
    exact ⟨v, rfl, HV.out⟩
end
end Go.Proofs.Ytcogchalfdeagaa
