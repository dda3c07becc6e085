/-
  Package bridge: a switch as plain data, its calls as plain functions, what every call keeps. No program here.
-/
import Derived.Test.YtolfjbodgdjbjaaGreatBrM
set_option linter.unusedSimpArgs false
set_option linter.unusedVariables false
namespace Go.Proofs.YtolfjbodgdjbjaaGreat.Br

/-- a port -/
structure Sd where
  burst : Nat
  rate : Nat
  credit : Nat
  q : List (List UInt8)
  taken : Nat
  fw : Nat
  mal : Nat
  noCr : Nat
  dir : Nat
  del : Nat
  noBuf : Nat
  full : Nat
def Sd.zero : Sd := ⟨0, 0, 0, [], 0, 0, 0, 0, 0, 0, 0, 0⟩
/-- a switch: n ports, the port at which each address is -/
structure Sw where
  n : Nat
  P : Nat → Sd
  A : Nat → Option Nat
def Sw.is (S : Sw) (p : Int) : Bool := decide (0 ≤ p) && decide (p < S.n)
theorem Sw.is_yes {S : Sw} {p : Int} (h : S.is p = true) : ∃ k : Nat, p = k ∧ k < S.n := by
  simp only [Sw.is, Bool.and_eq_true, decide_eq_true_eq] at h
  exact ⟨p.toNat, by omega, by omega⟩
theorem Sw.is_no {S : Sw} {p : Int} (h : S.is p = false) : p < 0 ∨ (S.n : Int) ≤ p := by
  simp only [Sw.is, Bool.and_eq_false_iff, decide_eq_false_iff_not] at h
  omega
theorem Sw.is_mk {S : Sw} {k : Nat} (h : k < S.n) : S.is k = true := by simp [Sw.is]; omega
def Sw.new (n : Nat) : Sw := ⟨n, fun _ => Sd.zero, fun _ => none⟩
/-- port k is s -/
def Sw.set (S : Sw) (k : Nat) (s : Sd) : Sw := { S with P := fun i => if i = k then s else S.P i }
theorem Sw.set_at (S : Sw) (k : Nat) (s : Sd) : (S.set k s).P k = s := if_pos rfl
theorem Sw.set_ne (S : Sw) {k j : Nat} (s : Sd) (h : j ≠ k) : (S.set k s).P j = S.P j := if_neg h
theorem Sw.set_set (S : Sw) (k : Nat) (s s' : Sd) : (S.set k s).set k s' = S.set k s' := by
  unfold Sw.set
  congr 1
  funext i
  by_cases h : i = k <;> simp [h]
def Sd.grow (s : Sd) : Sd := { s with credit := min (s.credit + s.rate) s.burst }
def Sd.bad (s : Sd) : Sd := { s with taken := s.taken + 1, mal := s.mal + 1 }
/-- a frame is directed -/
def Sd.dirF (s : Sd) (f : List UInt8) : Sd := if s.q.length < 4 then { s with dir := s.dir + 1, q := s.q ++ [f] } else { s with dir := s.dir + 1, full := s.full + 1 }
def Sd.doneB (s : Sd) (d : Bool) : Sd := if d = true then { s with q := s.q.tail, del := s.del + 1 } else { s with q := s.q.tail, noBuf := s.noBuf + 1 }
def Sd.doneS (s : Sd) (d : Bool) : Sd := if s.q = [] then s else s.doneB d
def Sd.doneE (s : Sd) : Nat := if s.q = [] then 6 else 0
def Sd.down (s : Sd) : Sd := { s with q := [], noBuf := s.noBuf + s.q.length }
/-- is the frame malformed? -/
def malF (f : List UInt8) : Bool := decide (f.length < 2) || decide (128 < f.length) || decide ((f.getD 1 0).toNat = 255)
def Sw.learn (S : Sw) (a p : Nat) : Sw := { S with A := if (S.A a).isSome = true ∨ cnt S.A 256 < 64 then fun i => if i = a then some p else S.A i else S.A }
/-- to which ports a frame goes -/
def tgt (A : Nat → Option Nat) (to fr i : Nat) : Bool := decide (i ≠ fr) && (match A to with | none => true | some t => decide (i = t))
/-- directed to all below k to which it goes -/
def Sw.dirK (S : Sw) (fr k : Nat) (f : List UInt8) : Sw := { S with P := fun i => if decide (i < k) && tgt S.A (f.getD 0 0).toNat fr i then (S.P i).dirF f else S.P i }
def Sw.dirW (S : Sw) (fr : Nat) (f : List UInt8) : Sw := S.dirK fr S.n f
def Sw.sendP (S : Sw) (k : Nat) (f : List UInt8) : Sw × Nat :=
  if malF f = true then (S.set k (S.P k).bad, 4) else
  if (S.P k).credit < f.length then (S.set k { S.P k with taken := (S.P k).taken + 1, noCr := (S.P k).noCr + 1 }, 71) else
  (((S.set k { S.P k with taken := (S.P k).taken + 1, credit := (S.P k).credit - f.length, fw := (S.P k).fw + 1 }).learn (f.getD 1 0).toNat k).dirW k f, 0)
def Sw.sendE (S : Sw) (p : Int) (f : List UInt8) : Sw × Nat := if S.is p = true then S.sendP p.toNat f else (S, 1)
def isCr (x : Int) : Bool := decide (0 ≤ x) && decide (x ≤ 65536)
def Sw.rateE (S : Sw) (p b r : Int) : Sw × Nat :=
  if S.is p = true then (if isCr b = true ∧ isCr r = true then (S.set p.toNat { S.P p.toNat with burst := b.toNat, rate := r.toNat, credit := b.toNat }, 0) else (S, 1)) else (S, 1)
def Sw.tick (S : Sw) : Sw := { S with P := fun i => if i < S.n then (S.P i).grow else S.P i }
def Sw.badE (S : Sw) (p : Int) : Sw × Nat := if S.is p = true then (S.set p.toNat (S.P p.toNat).bad, 0) else (S, 1)
def Sw.headE (S : Sw) (p : Int) : List UInt8 × Nat := if S.is p = true then (match (S.P p.toNat).q with | [] => ([], 6) | f :: _ => (f, 0)) else ([], 1)
def Sw.doneE (S : Sw) (p : Int) (d : Bool) : Sw × Nat := if S.is p = true then (S.set p.toNat ((S.P p.toNat).doneS d), (S.P p.toNat).doneE) else (S, 1)
def Sw.knownE (S : Sw) (a : Int) : Nat × Nat := if 0 ≤ a ∧ a ≤ 255 then (match S.A a.toNat with | none => (0, 6) | some p => (p, 0)) else (0, 1)
def Sw.downE (S : Sw) (p : Int) : Sw × Nat := if S.is p = true then ({ S.set p.toNat (S.P p.toNat).down with A := strike S.A p.toNat }, 0) else (S, 1)
def Sw.creditE (S : Sw) (p : Int) : Nat := if S.is p = true then (S.P p.toNat).credit else 0

/-! ### what every call keeps -/
structure Sd.ok (s : Sd) (T : Nat) : Prop where
  tk : s.taken = s.fw + s.mal + s.noCr
  dr : s.dir = s.del + s.q.length + s.noBuf + s.full
  tT : s.taken ≤ T
  dT : s.dir ≤ T
  q4 : s.q.length ≤ 4
  cb : s.credit ≤ s.burst
  bu : s.burst ≤ 65536
  ra : s.rate ≤ 65536
  fr : ∀ f ∈ s.q, 2 ≤ f.length ∧ f.length ≤ 128
structure Sw.ok (S : Sw) (T : Nat) : Prop where
  n1 : 1 ≤ S.n
  n8 : S.n ≤ 8
  T62 : T ≤ 2305843009213693952
  sd : ∀ i, i < S.n → (S.P i).ok T
  a255 : S.A 255 = none
  at_ : ∀ a p, S.A a = some p → p < S.n
theorem Sd.ok.mono {s : Sd} {T T' : Nat} (h : s.ok T) (hT : T ≤ T') : s.ok T' := ⟨h.tk, h.dr, Nat.le_trans h.tT hT, Nat.le_trans h.dT hT, h.q4, h.cb, h.bu, h.ra, h.fr⟩
theorem Sw.ok.mono {S : Sw} {T T' : Nat} (h : S.ok T) (hT : T ≤ T') (h62 : T' ≤ 2305843009213693952) : S.ok T' := ⟨h.n1, h.n8, h62, fun i hi => (h.sd i hi).mono hT, h.a255, h.at_⟩
theorem Sd.zero_ok (T : Nat) : Sd.zero.ok T := ⟨rfl, rfl, Nat.zero_le _, Nat.zero_le _, Nat.zero_le _, Nat.le_refl _, Nat.zero_le _, Nat.zero_le _, fun f hf => by cases hf⟩
theorem Sw.new_ok {n : Nat} (h1 : 1 ≤ n) (h8 : n ≤ 8) : (Sw.new n).ok 0 := ⟨h1, h8, by omega, fun _ _ => Sd.zero_ok 0, rfl, fun a p h => by cases h⟩
theorem Sw.ok.set {S : Sw} {T : Nat} (h : S.ok T) {k : Nat} {s : Sd} (hs : s.ok T) : (S.set k s).ok T :=
  ⟨h.n1, h.n8, h.T62, fun i hi => by
    by_cases e : i = k
    · subst e; rw [Sw.set_at]; exact hs
    · rw [Sw.set_ne _ _ e]; exact h.sd i hi, h.a255, h.at_⟩
theorem Sd.ok.grow {s : Sd} {T : Nat} (h : s.ok T) : s.grow.ok T := ⟨h.tk, h.dr, h.tT, h.dT, h.q4, Nat.min_le_right _ _, h.bu, h.ra, h.fr⟩
theorem Sd.ok.bad {s : Sd} {T : Nat} (h : s.ok T) : s.bad.ok (T + 1) := by
  have := h.tk
  exact ⟨by simp only [Sd.bad]; omega, h.dr, Nat.succ_le_succ h.tT, Nat.le_succ_of_le h.dT, h.q4, h.cb, h.bu, h.ra, h.fr⟩
theorem Sd.ok.dirF {s : Sd} {T : Nat} (h : s.ok T) {f : List UInt8} (hf : 2 ≤ f.length ∧ f.length ≤ 128) (hd : s.dir + 1 ≤ T) : (s.dirF f).ok T := by
  have := h.dr
  unfold Sd.dirF
  split
  · refine ⟨h.tk, by simp; omega, h.tT, hd, by simp; omega, h.cb, h.bu, h.ra, fun g hg => ?_⟩
    rcases List.mem_append.1 hg with hg | hg
    · exact h.fr g hg
    · rw [List.mem_singleton.1 hg]; exact hf
  · exact ⟨h.tk, by simp only; omega, h.tT, hd, h.q4, h.cb, h.bu, h.ra, h.fr⟩
theorem Sd.ok.doneS {s : Sd} {T : Nat} (h : s.ok T) (d : Bool) : (s.doneS d).ok T := by
  have h1 := h.dr
  have h2 := h.q4
  unfold Sd.doneS
  split
  · exact h
  · rename_i hq
    have hl : s.q.tail.length + 1 = s.q.length := by cases e : s.q with | nil => exact absurd e hq | cons x l => simp
    unfold Sd.doneB
    split
    · exact ⟨h.tk, by simp only; omega, h.tT, h.dT, by simp only; omega, h.cb, h.bu, h.ra, fun f hf => h.fr f (List.mem_of_mem_tail hf)⟩
    · exact ⟨h.tk, by simp only; omega, h.tT, h.dT, by simp only; omega, h.cb, h.bu, h.ra, fun f hf => h.fr f (List.mem_of_mem_tail hf)⟩
theorem Sd.ok.down {s : Sd} {T : Nat} (h : s.ok T) : s.down.ok T := by
  have h1 := h.dr
  exact ⟨h.tk, by simp only [Sd.down, List.length_nil]; omega, h.tT, h.dT, Nat.zero_le _, h.cb, h.bu, h.ra, fun f hf => by cases hf⟩
theorem Sw.ok.learn {S : Sw} {T : Nat} (h : S.ok T) {a p : Nat} (ha : a ≠ 255) (hp : p < S.n) : (S.learn a p).ok T := by
  refine ⟨h.n1, h.n8, h.T62, h.sd, ?_, fun x q hx => ?_⟩
  · simp only [Sw.learn]
    split
    · exact (if_neg (fun e => ha e.symm)).trans h.a255
    · exact h.a255
  · simp only [Sw.learn] at hx
    split at hx
    · by_cases e : x = a
      · simp only [e, if_true, Option.some.injEq] at hx
        subst hx; exact hp
      · simp only [e, if_false] at hx
        exact h.at_ x q hx
    · exact h.at_ x q hx
theorem malF_no {f : List UInt8} (h : malF f = false) : 2 ≤ f.length ∧ f.length ≤ 128 ∧ (f.getD 1 0).toNat ≠ 255 := by
  simp only [malF, Bool.or_eq_false_iff, decide_eq_false_iff_not] at h
  omega
theorem Sw.send_ok {S : Sw} {T : Nat} (h : S.ok T) (hT : T + 1 ≤ 2305843009213693952) (p : Int) (f : List UInt8) : (S.sendE p f).1.ok (T + 1) := by
  have hm := h.mono (Nat.le_succ T) hT
  unfold Sw.sendE
  cases hp : S.is p with
  | false => exact hm
  | true =>
    obtain ⟨k, rfl, hk⟩ := Sw.is_yes hp
    simp only [if_true, Int.toNat_natCast]
    unfold Sw.sendP
    have hs := h.sd k hk
    cases hf : malF f with
    | true => exact hm.set hs.bad
    | false =>
      obtain ⟨f1, f2, f3⟩ := malF_no hf
      simp only [Bool.false_eq_true, if_false]
      have htk := hs.tk
      split
      · exact hm.set ⟨by simp only; omega, hs.dr, Nat.succ_le_succ hs.tT, Nat.le_succ_of_le hs.dT, hs.q4, hs.cb, hs.bu, hs.ra, hs.fr⟩
      · have h1 : (S.set k { S.P k with taken := (S.P k).taken + 1, credit := (S.P k).credit - f.length, fw := (S.P k).fw + 1 }).ok (T + 1) :=
          hm.set ⟨by simp only; omega, hs.dr, Nat.succ_le_succ hs.tT, Nat.le_succ_of_le hs.dT, hs.q4, by have := hs.cb; simp only; omega, hs.bu, hs.ra, hs.fr⟩
        have h2 := h1.learn (a := (f.getD 1 0).toNat) (p := k) f3 hk
        refine ⟨h2.n1, h2.n8, h2.T62, fun i hi => ?_, h2.a255, h2.at_⟩
        simp only [Sw.dirW, Sw.dirK]
        split
        · refine (h2.sd i hi).dirF ⟨f1, f2⟩ ?_
          have hd : ((S.set k { S.P k with taken := (S.P k).taken + 1, credit := (S.P k).credit - f.length, fw := (S.P k).fw + 1 }).P i).dir = (S.P i).dir := by
            by_cases e : i = k
            · subst e; rw [Sw.set_at]
            · rw [Sw.set_ne _ _ e]
          show ((S.set k _).P i).dir + 1 ≤ T + 1
          rw [hd]
          exact Nat.succ_le_succ (h.sd i hi).dT
        · exact h2.sd i hi
theorem Sw.rate_ok {S : Sw} {T : Nat} (h : S.ok T) (p b r : Int) : (S.rateE p b r).1.ok T := by
  unfold Sw.rateE
  cases hp : S.is p with
  | false => exact h
  | true =>
    obtain ⟨k, rfl, hk⟩ := Sw.is_yes hp
    simp only [if_true]
    split
    · rename_i hc
      simp only [isCr, Bool.and_eq_true, decide_eq_true_eq] at hc
      have hs := h.sd k hk
      exact h.set ⟨hs.tk, hs.dr, hs.tT, hs.dT, hs.q4, Nat.le_refl _, by simp only; omega, by simp only; omega, hs.fr⟩
    · exact h
theorem Sw.tick_ok {S : Sw} {T : Nat} (h : S.ok T) : S.tick.ok T := by
  refine ⟨h.n1, h.n8, h.T62, fun i hi => ?_, h.a255, h.at_⟩
  have hi : i < S.n := hi
  have e : (S.tick).P i = (S.P i).grow := if_pos hi
  rw [e]; exact (h.sd i hi).grow
theorem Sw.bad_ok {S : Sw} {T : Nat} (h : S.ok T) (hT : T + 1 ≤ 2305843009213693952) (p : Int) : (S.badE p).1.ok (T + 1) := by
  have hm := h.mono (Nat.le_succ T) hT
  unfold Sw.badE
  cases hp : S.is p with
  | false => exact hm
  | true =>
    obtain ⟨k, rfl, hk⟩ := Sw.is_yes hp
    exact hm.set (h.sd k hk).bad
theorem Sw.done_ok {S : Sw} {T : Nat} (h : S.ok T) (p : Int) (d : Bool) : (S.doneE p d).1.ok T := by
  unfold Sw.doneE
  cases hp : S.is p with
  | false => exact h
  | true =>
    obtain ⟨k, rfl, hk⟩ := Sw.is_yes hp
    exact h.set ((h.sd k hk).doneS d)
theorem Sw.down_ok {S : Sw} {T : Nat} (h : S.ok T) (p : Int) : (S.downE p).1.ok T := by
  unfold Sw.downE
  cases hp : S.is p with
  | false => exact h
  | true =>
    obtain ⟨k, rfl, hk⟩ := Sw.is_yes hp
    have h1 := h.set (k := k) (h.sd k hk).down
    refine ⟨h1.n1, h1.n8, h1.T62, h1.sd, ?_, fun a q ha => ?_⟩
    · show strike S.A _ 255 = none
      unfold strike; rw [h.a255]; simp
    · have ha : strike S.A _ a = some q := ha
      unfold strike at ha
      split at ha
      · cases ha
      · exact h.at_ a q ha
theorem Sw.dirK_zero (S : Sw) (fr : Nat) (f : List UInt8) : S.dirK fr 0 f = S := by
  unfold Sw.dirK
  simp
theorem Sw.dirK_skip (S : Sw) (fr k : Nat) (f : List UInt8) (h : tgt S.A (f.getD 0 0).toNat fr k = false) : S.dirK fr (k + 1) f = S.dirK fr k f := by
  unfold Sw.dirK
  congr 1
  funext i
  by_cases e : i = k
  · subst e; simp [-List.getD_eq_getElem?_getD, h]
  · have : decide (i < k + 1) = decide (i < k) := decide_eq_decide.2 (by omega)
    rw [this]
theorem Sw.dirK_take (S : Sw) (fr k : Nat) (f : List UInt8) (h : tgt S.A (f.getD 0 0).toNat fr k = true) : S.dirK fr (k + 1) f = (S.dirK fr k f).set k ((S.P k).dirF f) := by
  unfold Sw.dirK Sw.set
  congr 1
  funext i
  by_cases e : i = k
  · subst e; simp [-List.getD_eq_getElem?_getD, h]
  · have : decide (i < k + 1) = decide (i < k) := decide_eq_decide.2 (by omega)
    simp [this, e]
theorem Sw.dirK_at (S : Sw) (fr k : Nat) (f : List UInt8) : (S.dirK fr k f).P k = S.P k := by simp [Sw.dirK]
/-- from k on it goes to none -/
theorem Sw.dirK_all (S : Sw) (fr k : Nat) (f : List UInt8) (hk : k ≤ S.n) (h : ∀ i, k ≤ i → i < S.n → tgt S.A (f.getD 0 0).toNat fr i = false) : ∀ i, i < S.n → (S.dirK fr k f).P i = (S.dirW fr f).P i := by
  intro i hi
  simp only [Sw.dirW, Sw.dirK]
  by_cases e : i < k
  · simp [e, hi]
  · rw [h i (by omega) hi]; simp
end Go.Proofs.YtolfjbodgdjbjaaGreat.Br
