/-
  Both images: what the law does besides: its own bytes that it writes over, copies, the checks behind each call.
-/
import Derived.Test.YtcogchalfdeagaaImRG
set_option linter.unusedSimpArgs false
set_option linter.unusedVariables false
namespace Go.Proofs.Ytcogchalfdeagaa
open Go.RowKit Gen CM
set_option maxHeartbeats 2000000
set_option maxRecDepth 100000

theorem wrap_u8 (x : UInt8) : IntKind.u8.wrap ((x.toNat : Int) + 1) = ((x + 1).toNat : Int) := by
  have h : (x + 1).toNat = (x.toNat + 1) % 256 := by rw [UInt8.toNat_add]; rfl
  rw [h]
  simp [IntKind.wrap, IntKind.signed, IntKind.bits]
theorem bcells_set (l : List UInt8) (k : Nat) (x : UInt8) : (bcells l).set k (.int .u8 x.toNat) = bcells (l.set k x) := by
  apply List.ext_getElem?
  intro j
  rw [List.getElem?_set, bcells_get, bcells_get, bcells_len, List.getElem?_set]
  by_cases h : k = j
  · subst h
    by_cases h2 : k < l.length <;> simp [h2]
  · simp [h]
section
variable {w0 w w' : World} {x g m y r : Nat} {q lp : Option Addr} {cq cl : Nat} {I J : Im}
/-- a store into a block of bytes that neither side knows -/
theorem IB.mine (h : IB w0 w x g m y r q lp cq cl I J) (hown : ∀ i, J.own i = none) {MB : Nat} {cur : Array Value} (hMB : w.heap[MB]? = some (.cells cur 5 (0, 0))) (hlo : w0.heap.size ≤ MB) (hq : ∀ a, q = some a → a.block ≠ MB) (k : Nat) (v : Value) : IB w0 (w.setCell ⟨MB, k, none⟩ v) x g m y r q lp cq cl I J := by
  have hne : ∀ {z : Nat} {t : TypeId} {N : Nat} {X : Nat → Value}, Row w z t N X → t ≠ 5 → z ≠ MB := fun {z t N X} hr ht e => by
    obtain ⟨c, hc, _⟩ := hr
    rw [e, hMB] at hc
    simp at hc
    exact ht hc.2.symm
  have hc := grownBy_setCell w MB k none v
  have hm : m ≠ MB := fun e => by
    obtain ⟨es, cl', h0⟩ := h.pi.i.map.isMap
    rw [e, hMB] at h0
    cases h0
  refine ⟨⟨⟨h.pi.i.top.setOther _ (hne h.pi.i.top (by decide)) v, h.pi.i.base.setOther _ (hne h.pi.i.base (by decide)) v, h.pi.i.map.grown hc (by simpa using hm)⟩, h.pi.ok, h.pi.lo, h.pi.g.andThen hc fun j hj => by cases hj; exact .inl hlo⟩, ⟨h.ri.top.setOther _ (hne h.ri.top (by decide)) v, ⟨h.ri.b.1.set hq k v, fun a e => ?_⟩, h.ri.bc, h.ri.bn, h.ri.lp, fun hn => ?_⟩, h.jok, h.loy, h.lor, h.rr⟩
  · obtain ⟨cur', h'⟩ := h.ri.b.2 a e
    exact ⟨cur', (hc.block _ (Array.getElem?_eq_some_iff.1 h').1 (by have := hq a e; simpa using this)).trans h'⟩
  · obtain ⟨lv, hr, hl⟩ := h.ri.rows hn
    refine ⟨lv, hr.setOther _ (hne hr (by decide)) v, fun i hi => ?_⟩
    rcases hl i hi with h1 | ⟨l, p, c, e1, _⟩
    · exact .inl h1
    · rw [hown] at e1; cases e1
theorem pFree (h : IB w0 w x g m y r q lp cq cl I J) : Calls Try.prog 14 #[.pointer (some ⟨x, 0, none⟩)] w fun e w' => e = .returned (.int .i64 ((I.most : Int) - I.used)) ∧ w.grownBy w' none :=
  (iFree h.pi.i h.pi.ok).mono fun e w' ⟨he, n, hw⟩ => ⟨he, hw ▸ grown_drewN w n⟩
theorem pDirty (h : IB w0 w x g m y r q lp cq cl I J) : Calls Try.prog 17 #[.pointer (some ⟨x, 0, none⟩)] w fun e w' => ∃ p c, e = .returned (.slice p I.dirty.length c) ∧ IA w' p I.dirty ∧ w.grownBy w' none :=
  (iDirty h.pi.i h.pi.ok).mono fun e w' ⟨v, he, hv⟩ => by obtain ⟨p, c, rfl, hi⟩ := hv.ia; exact ⟨p, c, he, hi, hv.2⟩
theorem qDirty (h : IB w0 w x g m y r q lp cq cl I J) : Calls Try.prog 18 #[.pointer (some ⟨y, 0, none⟩)] w fun e w' => ∃ p c, e = .returned (.slice p J.dirty.length c) ∧ IA w' p J.dirty ∧ w.grownBy w' none :=
  (rDirty h.ri h.jok).mono fun e w' ⟨v, he, hv⟩ => by obtain ⟨p, c, rfl, hi⟩ := hv.ia; exact ⟨p, c, he, hi, hv.2⟩
/-- the program goes on with a copy -/
theorem pCopy (h : IB w0 w x g m y r q lp cq cl I J) : Calls Try.prog 10 #[.pointer (some ⟨x, 0, none⟩)] w fun e w' => ∃ x' m', e = .returned (.pointer (some ⟨x', 0, none⟩)) ∧ IB w0 w' x g m y r q lp cq cl I J ∧ IB w0 w' x' g m' y r q lp cq cl I J ∧ m' ≠ m ∧ x' ≠ m ∧ w.grownBy w' none :=
  (iCopy h.pi.i).mono fun e w' ⟨x', m', he, hi, hx, hm, hg⟩ => by
    have h2 := h.more hg
    have hlt := h.pi.i.map.lt
    exact ⟨x', m', he, h2, ⟨⟨hi, h.pi.ok, Nat.le_trans h.pi.g.size hm, h2.pi.g⟩, h2.ri, h.jok, h.loy, h.lor, h.rr⟩, by omega, by omega, hg⟩
/-- a write to the other one -/
theorem pWriteOther {x' m' : Nat} (h : IB w0 w x g m y r q lp cq cl I J) (h' : IB w0 w x' g m' y r q lp cq cl I J) (hm : m' ≠ m) (hx : x' ≠ m) (s : Int) (p : Option Addr) (l : List UInt8) (c : Nat) (hll : l.length ≤ 140737488351232) (hb : BA w p l) :
    Calls Try.prog 11 #[.pointer (some ⟨x, 0, none⟩), .int .i64 s, .slice p l.length c] w fun e w' => ∃ code, e = .returned (.int .i64 code) ∧ IB w0 w' x' g m' y r q lp cq cl I J ∧ CM1 m w w' :=
  (pWrite h s p l c hll hb).mono fun e w' ⟨he, hi, hc⟩ => by
    refine ⟨_, he, ⟨⟨h'.pi.i.chg hc hx (fun e => h.pi.i.mg e.symm) hm, h'.pi.ok, h'.pi.lo, hi.pi.g⟩, hi.ri, hi.jok, hi.loy, hi.lor, hi.rr⟩, hc⟩
end
end Go.Proofs.Ytcogchalfdeagaa
