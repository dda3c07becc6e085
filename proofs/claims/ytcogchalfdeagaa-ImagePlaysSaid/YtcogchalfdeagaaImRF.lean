/-
  Both images side by side; ints.
-/
import Derived.Test.YtcogchalfdeagaaImRE
set_option linter.unusedSimpArgs false
set_option linter.unusedVariables false
namespace Go.Proofs.Ytcogchalfdeagaa
open Go.RowKit Gen CM
set_option maxHeartbeats 2000000
set_option maxRecDepth 100000

/-- the program's image I and the reference's J behind w0 -/
structure IB (w0 w : World) (x g m y r : Nat) (q lp : Option Addr) (cq cl : Nat) (I J : Im) : Prop where
  pi : IW w0 w x g m I
  ri : RI w y r q lp cq cl J
  jok : J.ok
  loy : w0.heap.size ≤ y
  lor : w0.heap.size ≤ r
  rr : J.n = 0 → r = y
section
variable {w0 w w' : World} {x g m y r : Nat} {q lp : Option Addr} {cq cl : Nat} {I J : Im}
theorem RI.not_map (h : RI w y r q lp cq cl J) {c : Nat} {f : Int → Option Value} (hm : IMb w m c f) : ¬ y = m ∧ (J.n ≠ 0 → ¬ r = m) ∧ ∀ k cur, w.heap[k]? = some (.cells cur 5 (0, 0)) → ¬ k = m := by
  refine ⟨fun e => CMap_row_ne hm h.top e.symm, fun hn e => ?_, fun k cur hk e => ?_⟩
  · obtain ⟨X, hr⟩ := h.row hn
    exact CMap_row_ne hm hr e.symm
  · obtain ⟨es, c', h0⟩ := hm.isMap
    rw [e, h0] at hk
    cases hk
theorem IB.more (h : IB w0 w x g m y r q lp cq cl I J) (hg : w.grownBy w' none) : IB w0 w' x g m y r q lp cq cl I J := ⟨h.pi.more hg, h.ri.grown hg, h.jok, h.loy, h.lor, h.rr⟩
theorem IB.prog (h : IB w0 w x g m y r q lp cq cl I J) {I' : Im} (hi : IW w0 w' x g m I') (hc : CM1 m w w') : IB w0 w' x g m y r q lp cq cl I' J := by
  obtain ⟨h1, h2, h3⟩ := h.ri.not_map h.pi.i.map
  exact ⟨hi, h.ri.chg hc h1 h2 h3, h.jok, h.loy, h.lor, h.rr⟩
theorem IB.ref (h : IB w0 w x g m y r q lp cq cl I J) {J' : Im} (hr : RI w' y r q lp cq cl J') (hc : CY y r w w') (hok : J'.ok) (hn : J'.n = J.n) : IB w0 w' x g m y r q lp cq cl I J' := by
  obtain ⟨h1, h2, _⟩ := h.ri.not_map h.pi.i.map
  have xr : x ≠ r := by
    by_cases e : J.n = 0
    · rw [h.rr e]; exact h.pi.i.top.type_ne h.ri.top (by decide)
    · obtain ⟨X, hX⟩ := h.ri.row e; exact h.pi.i.top.type_ne hX (by decide)
  have gr : g ≠ r := by
    by_cases e : J.n = 0
    · rw [h.rr e]; exact h.pi.i.base.type_ne h.ri.top (by decide)
    · obtain ⟨X, hX⟩ := h.ri.row e; exact h.pi.i.base.type_ne hX (by decide)
  have mr : m ≠ r := by
    by_cases e : J.n = 0
    · rw [h.rr e]; exact fun e' => h1 e'.symm
    · exact fun e' => h2 e e'.symm
  have xy : x ≠ y := h.pi.i.top.type_ne h.ri.top (by decide)
  have gy : g ≠ y := h.pi.i.base.type_ne h.ri.top (by decide)
  refine ⟨⟨h.pi.i.chg hc (by omega) (by omega) (by omega), h.pi.ok, h.pi.lo, hc.grown h.pi.g fun k hk => ?_⟩, hr, hok, h.loy, h.lor, fun e => h.rr (hn ▸ e)⟩
  rcases hk with rfl | rfl
  · exact h.loy
  · exact h.lor
/-! ### reads of both sides -/
def ReadP (w : World) (L : List UInt8) (code : Int) (e : Ending) (w' : World) : Prop := ∃ q c, e = .returned (.tuple #[.slice q L.length c, .int .i64 code]) ∧ BA w' q L ∧ w.grownBy w' none
theorem ReadP.none (w : World) : ReadP w [] 1 (.returned (.tuple #[.slice none 0 0, .int .i64 1])) w := ⟨Option.none, 0, rfl, BA.nil _ _, grownBy_refl _ _⟩
theorem ReadP.new {w w' : World} {l : List UInt8} {v : Value} (hv : NewB w l v w') : ReadP w l 0 (.returned (.tuple #[v, .int .i64 0])) w' := by
  obtain ⟨p, c, rfl, hb, _⟩ := hv.ba
  exact ⟨p, c, rfl, hb, hv.2⟩
theorem pRead (h : IB w0 w x g m y r q lp cq cl I J) (s : Int) : Calls Try.prog 22 #[.pointer (some ⟨x, 0, none⟩), .int .i64 s] w (ReadP w (I.readE s).1 (I.readE s).2) := by
  unfold Im.readE
  cases hs : I.is s with
  | true => exact (iRead_yes h.pi.i h.pi.ok s hs).mono fun e w' ⟨v, he, hv⟩ => by rw [he]; exact ReadP.new hv
  | false => exact (iRead_no h.pi.i s hs).mono fun e w' ⟨he, hw⟩ => by rw [he, ← hw]; exact ReadP.none w
theorem pBase (h : IB w0 w x g m y r q lp cq cl I J) (s : Int) : Calls Try.prog 21 #[.pointer (some ⟨x, 0, none⟩), .int .i64 s] w (ReadP w (I.baseE s).1 (I.baseE s).2) := by
  unfold Im.baseE
  cases hs : I.is s with
  | true => exact (iBase_yes h.pi.i h.pi.ok s hs).mono fun e w' ⟨v, he, hv⟩ => by rw [he]; exact ReadP.new hv
  | false => exact (iBase_no h.pi.i s hs).mono fun e w' ⟨he, hw⟩ => by rw [he, ← hw]; exact ReadP.none w
theorem qRead (h : IB w0 w x g m y r q lp cq cl I J) (s : Int) : Calls Try.prog 28 #[.pointer (some ⟨y, 0, none⟩), .int .i64 s] w (ReadP w (J.readE s).1 (J.readE s).2) := by
  unfold Im.readE
  cases hs : J.is s with
  | true => exact (rRead_yes h.ri h.jok s hs).mono fun e w' ⟨v, he, hv⟩ => by rw [he]; exact ReadP.new hv
  | false => exact (rRead_no h.ri s hs).mono fun e w' ⟨he, hw⟩ => by rw [he, ← hw]; exact ReadP.none w
theorem qBase (h : IB w0 w x g m y r q lp cq cl I J) (s : Int) : Calls Try.prog 32 #[.pointer (some ⟨y, 0, none⟩), .int .i64 s] w (ReadP w (J.baseE s).1 (J.baseE s).2) := by
  unfold Im.baseE
  cases hs : J.is s with
  | true => exact (rBase_yes h.ri h.jok s hs).mono fun e w' ⟨v, he, hv⟩ => by rw [he]; exact ReadP.new hv
  | false => exact (rBase_no h.ri s hs).mono fun e w' ⟨he, hw⟩ => by rw [he, ← hw]; exact ReadP.none w
theorem OpV.fits.chg {w0 w w' : World} {x g m : Nat} {I : Im} {o : OpV} (h : o.fits w) (hi : IW w0 w x g m I) (hc : CM1 m w w') : o.fits w' := ⟨h.what, h.a, h.b, hi.ba hc h.ba, h.len, h.nil, h.cap⟩
theorem w_n (I : Im) (s : Int) (b : List UInt8) : (I.writeE s b).1.n = I.n := by rcases I.write_cases s b with ⟨_, e⟩ | ⟨_, _, e⟩ | ⟨_, _, _, _, e⟩ | ⟨_, _, _, e⟩ | ⟨_, _, _, _, e⟩ <;> rw [e] <;> rfl
theorem t_n (I : Im) (s : Int) : (I.trimE s).1.n = I.n := by unfold Im.trimE; split <;> rfl
theorem pWrite (h : IB w0 w x g m y r q lp cq cl I J) (s : Int) (p : Option Addr) (l : List UInt8) (c : Nat) (hll : l.length ≤ 140737488351232) (hb : BA w p l) :
    Calls Try.prog 11 #[.pointer (some ⟨x, 0, none⟩), .int .i64 s, .slice p l.length c] w fun e w' => e = .returned (.int .i64 (I.writeE s l).2) ∧ IB w0 w' x g m y r q lp cq cl (I.writeE s l).1 J ∧ CM1 m w w' :=
  (cWrite h.pi s p l c hll hb).mono fun e w' ⟨he, hi, hc⟩ => ⟨he, h.prog hi hc, hc⟩
theorem qWrite (h : IB w0 w x g m y r q lp cq cl I J) (s : Int) (p : Option Addr) (l : List UInt8) (c : Nat) (hll : l.length ≤ 140737488351232) (hb : BU w p l) :
    Calls Try.prog 29 #[.pointer (some ⟨y, 0, none⟩), .int .i64 s, .slice p l.length c] w fun e w' => e = .returned (.int .i64 (J.writeE s l).2) ∧ IB w0 w' x g m y r q lp cq cl I (J.writeE s l).1 ∧ CY y r w w' :=
  (rWrite h.ri h.jok s p l c (by omega) hb).mono fun e w' ⟨he, hr, hc⟩ => ⟨he, h.ref hr hc (Im.write_ok h.jok s l) (w_n J s l), hc⟩
theorem pTrim (h : IB w0 w x g m y r q lp cq cl I J) (s : Int) : Calls Try.prog 20 #[.pointer (some ⟨x, 0, none⟩), .int .i64 s] w fun e w' => e = .returned (.int .i64 (I.trimE s).2) ∧ IB w0 w' x g m y r q lp cq cl (I.trimE s).1 J ∧ CM1 m w w' :=
  (cTrim h.pi s).mono fun e w' ⟨he, hi, hc⟩ => ⟨he, h.prog hi hc, hc⟩
theorem qTrim (h : IB w0 w x g m y r q lp cq cl I J) (s : Int) : Calls Try.prog 30 #[.pointer (some ⟨y, 0, none⟩), .int .i64 s] w fun e w' => e = .returned (.int .i64 (J.trimE s).2) ∧ IB w0 w' x g m y r q lp cq cl I (J.trimE s).1 ∧ CY y r w w' :=
  (rTrim h.ri h.jok s).mono fun e w' ⟨he, hr, hc⟩ => ⟨he, h.ref hr hc (Im.trim_ok h.jok s) (t_n J s), hc⟩
theorem pNeed (h : IB w0 w x g m y r q lp cq cl I J) (a b : Int) (ha : I64 a) (hb : I64 b) : Calls Try.prog 23 #[.pointer (some ⟨x, 0, none⟩), .int .i64 a, .int .i64 b] w fun e w' => e = .returned (.tuple #[.int .i64 (I.needE a b).1, .int .i64 (I.needE a b).2]) ∧ w.grownBy w' none :=
  iNeed h.pi.i h.pi.ok a b ha hb
theorem qNeed (h : IB w0 w x g m y r q lp cq cl I J) (a b : Int) (ha : I64 a) (hb : I64 b) : Calls Try.prog 31 #[.pointer (some ⟨y, 0, none⟩), .int .i64 a, .int .i64 b] w fun e w' => e = .returned (.tuple #[.int .i64 (J.needE a b).1, .int .i64 (J.needE a b).2]) ∧ w = w' :=
  rNeed h.ri h.jok a b ha hb
end
/-- ints of two rows that hold the same numbers -/
def IA (w : World) (p : Option Addr) (l : List Nat) : Prop := ∀ k, k < l.length → ∃ b, p = some ⟨b, 0, none⟩ ∧ w.cell? ⟨b, k, none⟩ = some (.int .i64 ((l.getD k 0 : Nat) : Int))
theorem IA.grown {w w' : World} {p : Option Addr} {l : List Nat} (h : IA w p l) (hg : w.grownBy w' none) : IA w' p l := fun k hk => by
  obtain ⟨b, e, hc⟩ := h k hk
  exact ⟨b, e, hg.cell hc (by simp)⟩
theorem NewI.ia {w w' : World} {l : List Nat} {v : Value} (h : NewI w l v w') : ∃ p c, v = .slice p l.length c ∧ IA w' p l := by
  have hh := h.1
  rcases hh.2 with ⟨rfl, h0⟩ | ⟨g, cap, cur, rfl, hb, hg, hc, _⟩
  · have : l = [] := List.eq_nil_of_length_eq_zero h0
    subst this
    exact ⟨none, 0, rfl, fun k hk => by simp at hk⟩
  · refine ⟨_, _, rfl, fun k hk => ⟨g, rfl, ?_⟩⟩
    rw [h.1.cellAt k (by omega), icells_get]
    simp [List.getD, List.getElem?_eq_getElem hk]
theorem lInts (l : List Nat) (p p' : Option Addr) (c c' : Nat) (w : World) (hl : l.length ≤ 256) (h : IA w p l) (h' : IA w p' l) : Calls Try.prog 16 #[.slice p l.length c, .slice p' l.length c'] w fun e w' => e = .returned (.bool true) ∧ w.grownBy w' none := by
  have H := hid h
  have H' := hid h'
  clear h h'
  go_enter Try.func16, Try.ntmps16
  go_wp2
  go_loopw [5] (fun i wr => ∃ k : Nat, i = .int .i64 k ∧ k ≤ l.length ∧ w.grownBy wr none) (fun i _ => l.length - (intOf i).toNat)
  case atStart => exact ⟨0, rfl, by omega, grownBy_refl _ _⟩
  case round =>
    obtain ⟨k, rfl, hk, hg⟩ := hrel
    have HG := hid hg
    clear hg
    have hk0 : (0 : Int) ≤ k := by omega
    by_cases hlt : k < l.length
    · have hlt' : (k : Int) < l.length := by omega
      obtain ⟨b, rfl, hc⟩ := (H.out.grown HG.out) k hlt
      obtain ⟨b', rfl, hc'⟩ := (H'.out.grown HG.out) k hlt
      obtain ⟨z, hz⟩ : ∃ z : Int, ((l.getD k 0 : Nat) : Int) = z := ⟨_, rfl⟩
      rw [hz] at hc hc'
      clear hz
      go_wp2_with fail
      go_quiet (fail)
      go_wp2
      go_roundw
      case rel => exact ⟨k + 1, by go_num, hlt, HG.out.trans (grown_drewN _ _)⟩
      case measure => simp [intOf]; omega
    · obtain rfl : k = l.length := by omega
      have hge : (l.length : Int) ≤ l.length := by omega
      go_wp2
      go_ret
      exact ⟨rfl, HG.out⟩
end Go.Proofs.Ytcogchalfdeagaa
