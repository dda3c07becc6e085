/-
  The laws of image: bytes and calls that came in; bytes as strings.
-/
import Derived.Test.YtcogchalfdeagaaImX
import Derived.Test.YtcogchalfdeagaaOpen
import Derived.Test.YtcogchalfdeagaaLift
import Derived.ProofKit
import Derived.Laws.IdiomStrings
import Derived.OpenShut
set_option linter.unusedSimpArgs false
set_option linter.unusedVariables false
namespace Go.Proofs.Ytcogchalfdeagaa
open Go.RowKit Gen CM Go.ChangeShapes Go.WideShapes Go.ChangeAt Go.Deep
set_option maxHeartbeats 1000000

theorem exists_list {α : Type} (P : Nat → α → Prop) : ∀ n, (∀ i, i < n → ∃ a, P i a) → ∃ l : List α, l.length = n ∧ ∀ i (h : i < l.length), P i l[i]
  | 0, _ => ⟨[], rfl, fun i h => by simp at h⟩
  | n + 1, h => by
    obtain ⟨l, hl, hp⟩ := exists_list P n fun i hi => h i (by omega)
    obtain ⟨a, ha⟩ := h n (by omega)
    refine ⟨l ++ [a], by simp [hl], fun i hi => ?_⟩
    by_cases e : i < l.length
    · rw [List.getElem_append_left e]; exact hp i e
    · have : i = n := by simp at hi; omega
      subst this
      rw [List.getElem_append_right (by omega)]
      simpa using ha
theorem u8_bytes : Try.prog.bytesOf 5 = 1 := by kernel_rfl
section
variable {H : Type} {enc : TypeId × Value → H} {w : World}
theorem came_cap {v : Value} {t e : TypeId} (ht : Try.prog.underlying t = some (.slice e)) (h : Flat.Came enc Try.prog w 0 (fun _ => true) true t v) : ∃ p len cap, v = .slice p len cap ∧ (p = none → cap = 0) ∧ len ≤ cap := by
  obtain ⟨fuel, y, h, _⟩ := h
  rcases open_slice ht h with ⟨hcs, _⟩ | ⟨a, len, cap, m, n, D, Pl, hcs, _, hl, _⟩
  · simp only [List.cons.injEq, and_true] at hcs
    exact ⟨none, 0, 0, hcs, fun _ => rfl, Nat.le_refl _⟩
  · simp only [List.cons.injEq, and_true] at hcs
    exact ⟨_, _, _, hcs, (fun e => by cases e), hl⟩
theorem came_bytes {v : Value} (h : Flat.Came enc Try.prog w 0 (fun _ => true) true 22 v) : ∃ pa l cap, v = .slice pa (List.length (α := UInt8) l) cap ∧ BA w pa l ∧ l.length ≤ 140737488351232 ∧ (pa = none → cap = 0) ∧ l.length ≤ cap := by
  obtain ⟨p0, len0, cap0, e0, hn0, hc0⟩ := came_cap Try.underlying22 h
  obtain ⟨p, len, cap, rfl, hl, _, hc⟩ := h.ints Try.underlying22 Try.underlying5 (by kernel_rfl)
  injection e0 with e1 e2 e3
  subst e1 e2 e3
  rw [u8_bytes, Nat.mul_one] at hl
  unfold reachBytes at hl
  obtain ⟨l, hll, hp⟩ := exists_list (fun i (x : UInt8) => ∃ b off, p = some ⟨b, off, none⟩ ∧ w.cell? ⟨b, off + i, none⟩ = some (.int .u8 x.toNat)) len fun i hi => by
    obtain ⟨b, off, n, e, _, hn, hw⟩ := hc i hi
    have hb := bounds_u8 hw
    have h256 : n.toNat < 256 := by omega
    have hx : (UInt8.ofNat n.toNat).toNat = n.toNat := UInt8.toNat_ofNat_of_lt' h256
    refine ⟨UInt8.ofNat n.toNat, b, off, e, ?_⟩
    rw [hn, hx, Int.toNat_of_nonneg hb.1]
  subst hll
  refine ⟨p, l, cap, rfl, fun k hk => ?_, by omega, hn0, hc0⟩
  obtain ⟨b, off, e, h2⟩ := hp k hk
  exact ⟨b, off, e, by rw [h2]; simp [List.getD, List.getElem?_eq_getElem hk]⟩
/-- calls that stand from pa on -/
def OpsIn (w : World) (pa : Option Addr) (ops : List OpV) : Prop := ∀ i (hi : i < ops.length), ∃ b off, pa = some ⟨b, off, none⟩ ∧ w.cell? ⟨b, off + i * 5, none⟩ = some (.int .i64 ops[i].what) ∧ w.cell? ⟨b, off + i * 5 + 1, none⟩ = some (.int .i64 ops[i].a) ∧
  w.cell? ⟨b, off + i * 5 + 2, none⟩ = some (.int .i64 ops[i].b) ∧ w.cell? ⟨b, off + i * 5 + 3, none⟩ = some (.int .u8 ops[i].fill.toNat) ∧ w.cell? ⟨b, off + i * 5 + 4, none⟩ = some (.slice ops[i].p ops[i].l.length ops[i].c) ∧ ops[i].fits w
theorem flat_op : Flat.isFlat Try.prog 32 [3, 3, 3, 5, 22] = true := by kernel_rfl
theorem open_ops {v : Value} (h : Flat.Came enc Try.prog w 0 (fun _ => true) true 23 v) : ∃ pa ops cap, v = .slice pa (List.length (α := OpV) ops) cap ∧ OpsIn w pa ops ∧ ops.length ≤ maxLen := by
  obtain ⟨p, len, cap, rfl, _, hl, hc⟩ := Flat.open_flats Try.underlying23 flat_op (by decide) h
  obtain ⟨ops, hol, hp⟩ := exists_list (fun i (o : OpV) => ∃ b off, p = some ⟨b, off, none⟩ ∧ w.cell? ⟨b, off + i * 5, none⟩ = some (.int .i64 o.what) ∧ w.cell? ⟨b, off + i * 5 + 1, none⟩ = some (.int .i64 o.a) ∧
    w.cell? ⟨b, off + i * 5 + 2, none⟩ = some (.int .i64 o.b) ∧ w.cell? ⟨b, off + i * 5 + 3, none⟩ = some (.int .u8 o.fill.toNat) ∧ w.cell? ⟨b, off + i * 5 + 4, none⟩ = some (.slice o.p o.l.length o.c) ∧ o.fits w) len fun i hi => by
    obtain ⟨b, off, e, _, hf⟩ := hc i hi
    obtain ⟨v0, h0, c0⟩ := hf 0 _ rfl
    obtain ⟨v1, h1, c1⟩ := hf 1 _ rfl
    obtain ⟨v2, h2, c2⟩ := hf 2 _ rfl
    obtain ⟨v3, h3, c3⟩ := hf 3 _ rfl
    obtain ⟨v4, h4, c4⟩ := hf 4 _ rfl
    obtain ⟨n0, rfl, w0⟩ := c0.int Try.underlying3
    obtain ⟨n1, rfl, w1⟩ := c1.int Try.underlying3
    obtain ⟨n2, rfl, w2⟩ := c2.int Try.underlying3
    obtain ⟨n3, rfl, w3⟩ := c3.int Try.underlying5
    obtain ⟨q, l, c, rfl, hba, hl, hn, hcap⟩ := came_bytes c4
    have hb := bounds_u8 w3
    have hx : (UInt8.ofNat n3.toNat).toNat = n3.toNat := UInt8.toNat_ofNat_of_lt' (show n3.toNat < 256 by omega)
    refine ⟨⟨n0, n1, n2, UInt8.ofNat n3.toNat, q, l, c⟩, b, off, e, h0, h1, h2, ?_, h4, w0, w1, w2, hba, hl, hn, hcap⟩
    show w.cell? ⟨b, off + i * 5 + 3, none⟩ = some (.int .u8 ((UInt8.ofNat n3.toNat).toNat : Int))
    rw [hx, Int.toNat_of_nonneg hb.1]
    exact h3
  subst hol
  exact ⟨p, ops, cap, rfl, hp, hl⟩
end
/-- bytes as a string -/
theorem conv_empty (w : World) (pa : Option Addr) (cap : Nat) : (convert 22 9 (.slice pa 0 cap)).run Try.prog w = .ok (.string ⟨#[]⟩) w := by
  cases pa with
  | none => rw [run_convert_bytes_string w 22 9 5 none 0 cap Try.underlying22 Try.underlying5 Try.underlying9]; simp [Conv.bytesToString]; rfl
  | some a => exact run_convert_bytes_back w 22 9 5 a cap [] Try.underlying22 Try.underlying5 Try.underlying9 (fun j hj => by simp at hj)
theorem BA.string {w : World} {l : List UInt8} {p : Option Addr} (h : BA w p l) (c : Nat) : (convert 22 9 (.slice p l.length c)).run Try.prog w = .ok (.string ⟨l.toArray⟩) w := by
  cases l with
  | nil => exact conv_empty w p c
  | cons x l =>
    obtain ⟨b, o, rfl, _⟩ := h 0 (by simp)
    refine run_convert_bytes_back w 22 9 5 ⟨b, o, none⟩ c (x :: l) Try.underlying22 Try.underlying5 Try.underlying9 (fun j hj => ?_)
    obtain ⟨b', o', e, hc⟩ := h j hj
    cases e
    have e : (⟨b, o, none⟩ : Addr).add j = ⟨b, o + j, none⟩ := by unfold Addr.add; split <;> simp_all
    rw [e, hc]
    simp [List.getD, List.getElem?_eq_getElem hj]
/-- 's[k*64:(k+1)*64]' -/
theorem run_part (w : World) (q o len c k : Nat) (hk : (k + 1) * 64 ≤ len) (hc : len ≤ c) :
    (Instr.slice 22 (.slice (some ⟨q, o, none⟩) len c) (some (.int .i64 ((k : Int) * 64))) (some (.int .i64 (((k : Int) + 1) * 64))) none).run Try.prog w = .ok (.slice (some ⟨q, o + k * 64, none⟩) 64 (c - k * 64)) w := by
  have i5 := u8_size
  cases h5 : Try.prog.info? 5 with
  | none => rw [h5] at i5; cases i5
  | some x =>
  rw [h5] at i5
  simp only [Option.map_some, Option.some.injEq] at i5
  have hel : Try.prog.elem 22 = 5 := by kernel_rfl
  have hs := run_slice_lh (P := Try.prog) w 22 (some ⟨q, o, none⟩) len c (by rw [hel]; exact Try.underlying22) .i64 .i64 ((k : Int) * 64) (((k : Int) + 1) * 64) (by omega) (by omega) (by omega)
  rw [hs, hel]
  have e1 : ((k : Int) * 64).toNat = k * 64 := by omega
  have e2 : (((k : Int) + 1) * 64).toNat = (k + 1) * 64 := by omega
  have h2 : ¬ c = k * 64 := by omega
  have h3 : (k + 1) * 64 - k * 64 = 64 := by omega
  have e : (⟨q, o, none⟩ : Addr).add (k * 64) = ⟨q, o + k * 64, none⟩ := by unfold Addr.add; split <;> simp_all
  simp [sizeOf, typeInfo, h5, i5, sliced, e1, e2, h2, h3, e, Result.andThen]
theorem BA.part {w : World} {q o k : Nat} {l : List UInt8} (h : BA w (some ⟨q, o, none⟩) l) (hk : (k + 1) * 64 ≤ l.length) : BA w (some ⟨q, o + k * 64, none⟩) ((l.drop (k * 64)).take 64) := fun j hj => by
  rw [List.length_take, List.length_drop] at hj
  obtain ⟨b, o', e, hc⟩ := h (k * 64 + j) (by omega)
  cases e
  refine ⟨q, o + k * 64, rfl, ?_⟩
  rw [Nat.add_assoc, hc]
  congr 4
  simp [List.getD, List.getElem?_take, show j < 64 by omega]
/-! ### an image behind w0 -/
structure IW (w0 w : World) (b g m : Nat) (I : Im) : Prop where
  i : PI w b g m I
  ok : I.ok
  lo : w0.heap.size ≤ m
  g : w0.grownBy w none
section
variable {w0 w : World} {b g m : Nat} {I : Im}
theorem IW.more (h : IW w0 w b g m I) {w' : World} (hg : w.grownBy w' none) : IW w0 w' b g m I := ⟨h.i.grown hg, h.ok, h.lo, h.g.trans hg⟩
theorem IW.left (h : IW w0 w b g m I) {w' : World} {I' : Im} (hl : IL w b g m I' w') (hok : I'.ok) : IW w0 w' b g m I' := ⟨hl.i, hok, h.lo, hl.c.grown h.g fun k hk => by rw [hk]; exact h.lo⟩
theorem cNew (p : Option Addr) (l : List UInt8) (c : Nat) (k : Int) (hg : w0.grownBy w none) (h : newC l.length k = 0) (hb : BA w p l) (hc : l.length ≤ c) :
    Calls Try.prog 8 #[.slice p l.length c, .int .i64 k] w fun e w' => ∃ b g m, e = .returned (.tuple #[.pointer (some ⟨b, 0, none⟩), .int .i64 0]) ∧ IW w0 w' b g m (newI l k) :=
  (iNew_yes p l c k w h hb hc).mono fun e w' ⟨b, g, m, he, hi, _, _, hm, hg'⟩ => ⟨b, g, m, he, hi, newI_ok h, Nat.le_trans hg.size hm, hg.trans hg'⟩
abbrev CM1 (m : Nat) (w w' : World) : Prop := Chg (fun k => k = m) w w'
theorem not_map {w : World} {m : Nat} {c : Nat} {f : Int → Option Value} (h : IMb w m c f) (o : Nat) : w.cell? ⟨m, o, none⟩ = none := by
  obtain ⟨es, cl, h0⟩ := h.isMap
  simp [World.cell?, h0]
theorem IW.ba (h : IW w0 w b g m I) {w' : World} (hc : CM1 m w w') {p : Option Addr} {l : List UInt8} (hb : BA w p l) : BA w' p l := fun k hk => by
  obtain ⟨q, o, e, h1⟩ := hb k hk
  refine ⟨q, o, e, hc.cell h1 fun e' => ?_⟩
  simp only at e'
  rw [e', not_map h.i.map] at h1
  cases h1
theorem IW.row (h : IW w0 w b g m I) {w' : World} (hc : CM1 m w w') {x : Nat} {t : TypeId} {N : Nat} {X : Nat → Value} (hr : Row w x t N X) : Row w' x t N X := hr.chg hc fun e => CMap_row_ne h.i.map hr e.symm
theorem CM1.of {m : Nat} {w w' : World} (h : w.grownBy w' none) : CM1 m w w' := Chg.of0 h
theorem cWrite (h : IW w0 w b g m I) (s : Int) (p : Option Addr) (l : List UInt8) (c : Nat) (hll : l.length ≤ 140737488351232) (hb : BA w p l) :
    Calls Try.prog 11 #[.pointer (some ⟨b, 0, none⟩), .int .i64 s, .slice p l.length c] w fun e w' => e = .returned (.int .i64 (I.writeE s l).2) ∧ IW w0 w' b g m (I.writeE s l).1 ∧ CM1 m w w' :=
  (iWrite h.i h.ok s p l c (by omega) hb).mono fun e w' ⟨he, hl⟩ => ⟨he, h.left hl (Im.write_ok h.ok s l), hl.c⟩
theorem cTrim (h : IW w0 w b g m I) (s : Int) : Calls Try.prog 20 #[.pointer (some ⟨b, 0, none⟩), .int .i64 s] w fun e w' => e = .returned (.int .i64 (I.trimE s).2) ∧ IW w0 w' b g m (I.trimE s).1 ∧ CM1 m w w' :=
  (iTrim h.i h.ok s).mono fun e w' ⟨he, hl⟩ => ⟨he, h.left hl (Im.trim_ok h.ok s), hl.c⟩
theorem cFree (h : IW w0 w b g m I) : Calls Try.prog 14 #[.pointer (some ⟨b, 0, none⟩)] w fun e w' => e = .returned (.int .i64 ((I.most : Int) - I.used)) ∧ IW w0 w' b g m I ∧ CM1 m w w' :=
  (iFree h.i h.ok).mono fun e w' ⟨he, n, hw⟩ => ⟨he, hw ▸ h.more (grown_drewN w n), hw ▸ CM1.of (grown_drewN w n)⟩
theorem cSectors (h : IW w0 w b g m I) : Calls Try.prog 15 #[.pointer (some ⟨b, 0, none⟩)] w fun e w' => e = .returned (.int .i64 I.n) ∧ w = w' := iSectors h.i
theorem cDirty (h : IW w0 w b g m I) : Calls Try.prog 17 #[.pointer (some ⟨b, 0, none⟩)] w fun e w' => ∃ p c, e = .returned (.slice p I.used c) ∧ NewI w I.dirty (.slice p I.used c) w' ∧ IW w0 w' b g m I ∧ CM1 m w w' :=
  (iDirty h.i h.ok).mono fun e w' ⟨v, he, hv⟩ => by
    obtain ⟨p, c, rfl⟩ := ownsRow_slice hv.1
    rw [Im.free_dirty h.ok] at he hv
    exact ⟨p, c, he, hv, h.more hv.2, CM1.of hv.2⟩
theorem cRead (h : IW w0 w b g m I) (s : Int) (hs : I.is s = true) : Calls Try.prog 22 #[.pointer (some ⟨b, 0, none⟩), .int .i64 s] w fun e w' => ∃ q c, e = .returned (.tuple #[.slice q 64 c, .int .i64 0]) ∧ BA w' q (I.at s) ∧ IW w0 w' b g m I ∧ CM1 m w w' :=
  (iRead_yes h.i h.ok s hs).mono fun e w' ⟨v, he, hv⟩ => by obtain ⟨q, c, rfl, hb, _⟩ := hv.ba; rw [Im.at_len h.ok hs] at he; exact ⟨q, c, he, hb, h.more hv.2, CM1.of hv.2⟩
theorem cBase (h : IW w0 w b g m I) (s : Int) (hs : I.is s = true) : Calls Try.prog 21 #[.pointer (some ⟨b, 0, none⟩), .int .i64 s] w fun e w' => ∃ q c, e = .returned (.tuple #[.slice q 64 c, .int .i64 0]) ∧ BA w' q (I.base s) ∧ IW w0 w' b g m I ∧ CM1 m w w' :=
  (iBase_yes h.i h.ok s hs).mono fun e w' ⟨v, he, hv⟩ => by obtain ⟨q, c, rfl, hb, _⟩ := hv.ba; rw [Im.base_len h.ok hs] at he; exact ⟨q, c, he, hb, h.more hv.2, CM1.of hv.2⟩
theorem cNeed (h : IW w0 w b g m I) (x y : Int) (hx : I64 x) (hy : I64 y) : Calls Try.prog 23 #[.pointer (some ⟨b, 0, none⟩), .int .i64 x, .int .i64 y] w fun e w' => e = .returned (.tuple #[.int .i64 (I.needE x y).1, .int .i64 (I.needE x y).2]) ∧ IW w0 w' b g m I ∧ CM1 m w w' :=
  (iNeed h.i h.ok x y hx hy).mono fun e w' ⟨he, hg⟩ => ⟨he, h.more hg, CM1.of hg⟩
end
end Go.Proofs.Ytcogchalfdeagaa
