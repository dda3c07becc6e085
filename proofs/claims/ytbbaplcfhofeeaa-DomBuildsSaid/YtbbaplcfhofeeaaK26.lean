/-
  Ports of all domains on plain data: the calls of package event as functions, their invariant. No walk here.
-/
import Derived.WalkKit
import Derived.Test.YtbbaplcfhofeeaaK16
import Derived.Test.YtbbaplcfhofeeaaRows
import Derived.WalkSpells
import Derived.WalkLawsBesides
import Derived.Handy
import Derived.BigQuiet
import Derived.Deep.QuietTactic
import Derived.Deep.RegionLaw
import Derived.Deep.RegionWith
import Derived.Deep.RegionHeld3
import Derived.RangeFuncBox
set_option linter.unusedSimpArgs false
set_option linter.unusedVariables false
namespace Go.Proofs.Ytbbaplcfhofeeaa.Evx

structure Prt where
  k : Int
  r : Int
  p : Int
  v : Int
  pe : Bool
  ma : Bool
def Prt.zero : Prt := ⟨0, 0, 0, 0, false, false⟩
structure Ev where
  pt : Nat → Nat → Prt
  up : Nat → Bool
def ev0 : Ev := ⟨fun _ _ => Prt.zero, fun _ => false⟩
def Ev.upd (S : Ev) (d n : Nat) (q : Prt) : Ev := { S with pt := fun a b => if a = d ∧ b = n then q else S.pt a b }
def Ev.setUp (S : Ev) (d : Nat) (b : Bool) : Ev := { S with up := fun a => if a = d then b else S.up a }
theorem Ev.upd_same (S : Ev) (d n : Nat) (q : Prt) : (S.upd d n q).pt d n = q := by simp [Ev.upd]
theorem Ev.upd_other (S : Ev) (d n a b : Nat) (q : Prt) (h : ¬ (a = d ∧ b = n)) : (S.upd d n q).pt a b = S.pt a b := by simp [Ev.upd, h]
theorem Ev.upd_up (S : Ev) (d n : Nat) (q : Prt) : (S.upd d n q).up = S.up := rfl
theorem Ev.setUp_pt (S : Ev) (d : Nat) (b : Bool) : (S.setUp d b).pt = S.pt := rfl
theorem Ev.setUp_same (S : Ev) (d : Nat) (b : Bool) : (S.setUp d b).up d = b := by simp [Ev.setUp]
theorem Ev.setUp_other (S : Ev) (d a : Nat) (b : Bool) (h : a ≠ d) : (S.setUp d b).up a = S.up a := by simp [Ev.setUp, h]
theorem Ev.ext {S T : Ev} (h : ∀ a b, S.pt a b = T.pt a b) (u : ∀ a, S.up a = T.up a) : S = T := by
  obtain ⟨p, q⟩ := S; obtain ⟨p', q'⟩ := T
  simp only at h u
  congr 1
  · funext a b; exact h a b
  · funext a; exact u a
theorem Ev.upd_self (S : Ev) (d n : Nat) : S.upd d n (S.pt d n) = S := Ev.ext (fun a b => by unfold Ev.upd; simp only; split; (rename_i h; obtain ⟨rfl, rfl⟩ := h; rfl); rfl) fun _ => rfl
theorem Ev.upd_upd (S : Ev) (d n : Nat) (q q' : Prt) : (S.upd d n q).upd d n q' = S.upd d n q' := Ev.ext (fun a b => by unfold Ev.upd; simp only; split <;> simp_all) fun _ => rfl

def edOk (d : Int) : Bool := decide (0 ≤ d) && decide (d < 8)
def epOk (n : Int) : Bool := decide (0 ≤ n) && decide (n < 32)
def evOk (n : Int) : Bool := decide (0 ≤ n) && decide (n < 4)
theorem edOk_nat {d : Int} (h : edOk d = true) : ∃ k : Nat, d = k ∧ k < 8 := by
  simp only [edOk, Bool.and_eq_true, decide_eq_true_eq] at h
  exact ⟨d.toNat, by omega, by omega⟩
theorem epOk_nat {d : Int} (h : epOk d = true) : ∃ k : Nat, d = k ∧ k < 32 := by
  simp only [epOk, Bool.and_eq_true, decide_eq_true_eq] at h
  exact ⟨d.toNat, by omega, by omega⟩
theorem evOk_nat {d : Int} (h : evOk d = true) : ∃ k : Nat, d = k ∧ k < 4 := by
  simp only [evOk, Bool.and_eq_true, decide_eq_true_eq] at h
  exact ⟨d.toNat, by omega, by omega⟩

/-- the least i below 32, from i on, at which P holds; else 32 -/
def seek (P : Nat → Bool) : Nat → Nat → Nat
  | 0, i => i
  | f + 1, i => if P i then i else seek P f (i + 1)
theorem seek_spec (P : Nat → Bool) : ∀ f i, i ≤ seek P f i ∧ seek P f i ≤ i + f ∧ (∀ j, i ≤ j → j < seek P f i → P j = false) ∧ (seek P f i < i + f → P (seek P f i) = true)
  | 0, i => ⟨Nat.le_refl _, Nat.le_refl _, fun j h1 h2 => absurd h2 (by simp only [seek]; omega), fun h => absurd h (by simp only [seek]; omega)⟩
  | f + 1, i => by
    obtain ⟨h1, h2, h3, h4⟩ := seek_spec P f (i + 1)
    unfold seek
    split
    · rename_i h
      exact ⟨Nat.le_refl _, by omega, fun j a b => by omega, fun _ => h⟩
    · rename_i h
      refine ⟨by omega, by omega, fun j a b => ?_, fun hl => h4 (by omega)⟩
      by_cases e : j = i
      · subst e; simpa using h
      · exact h3 j (by omega) b
def least (P : Nat → Bool) : Nat := seek P 32 0
theorem least_le (P : Nat → Bool) : least P ≤ 32 := by have := (seek_spec P 32 0).2.1; unfold least; omega
theorem least_lt (P : Nat → Bool) {j : Nat} (h : j < least P) : P j = false := (seek_spec P 32 0).2.2.1 j (by omega) h
theorem least_is (P : Nat → Bool) (h : least P < 32) : P (least P) = true := (seek_spec P 32 0).2.2.2 (by unfold least at h; omega)
theorem least_eq {P : Nat → Bool} {k : Nat} (hk : k ≤ 32) (h : ∀ j, j < k → P j = false) (hP : k < 32 → P k = true) : least P = k := by
  rcases Nat.lt_trichotomy (least P) k with e | e | e
  · have := least_is P (by omega); rw [h _ e] at this; cases this
  · exact e
  · have := least_lt P e
    have h32 : k < 32 := by have := least_le P; omega
    rw [hP h32] at this; cases this
def isFree (S : Ev) (d : Nat) (i : Nat) : Bool := decide ((S.pt d i).k = 0)
def isVirqOf (S : Ev) (d : Nat) (v : Int) (i : Nat) : Bool := decide ((S.pt d i).k = 3) && decide ((S.pt d i).v = v)

/-- the calls -/
def takeE (S : Ev) (d : Nat) (q : Prt) : Int × Int × Ev :=
  if least (isFree S d) < 32 then (least (isFree S d), 0, S.upd d (least (isFree S d)) q) else (0, 71, S)
def allocE (S : Ev) (d r : Int) : Int × Int × Ev :=
  if edOk d = true then (if edOk r = true then takeE S d.toNat ⟨1, r, 0, 0, false, false⟩ else (0, 1, S)) else (0, 1, S)
def bindE (S : Ev) (d r p : Int) : Int × Int × Ev :=
  if edOk d = true then
    (if edOk r = true ∧ epOk p = true then
      (if (S.pt r.toNat p.toNat).k = 1 ∧ (S.pt r.toNat p.toNat).r = d then
        (if least (isFree S d.toNat) < 32 then (least (isFree S d.toNat), 0, (S.upd d.toNat (least (isFree S d.toNat)) ⟨2, r, p, 0, false, false⟩).upd r.toNat p.toNat { S.pt r.toNat p.toNat with k := 2, p := least (isFree S d.toNat) }) else (0, 71, S))
      else (0, 70, S))
    else (0, 1, S))
  else (0, 1, S)
def virqE (S : Ev) (d v : Int) : Int × Int × Ev :=
  if edOk d = true then (if evOk v = true then (if least (isVirqOf S d.toNat v) < 32 then (0, 8, S) else takeE S d.toNat ⟨3, 0, 0, v, false, false⟩) else (0, 1, S)) else (0, 1, S)
def loosen (S : Ev) (q : Prt) : Ev := if q.k = 2 then S.upd q.r.toNat q.p.toNat { S.pt q.r.toNat q.p.toNat with k := 1, p := 0 } else S
def closeE (S : Ev) (d p : Int) : Int × Ev :=
  if edOk d = true ∧ epOk p = true then
    (if (S.pt d.toNat p.toNat).k = 0 then (70, S) else (0, (loosen S (S.pt d.toNat p.toNat)).upd d.toNat p.toNat Prt.zero))
  else (1, S)
def pendE (S : Ev) (d n : Nat) : Ev :=
  if (S.pt d n).ma = true then S.upd d n { S.pt d n with pe := true } else (S.upd d n { S.pt d n with pe := true }).setUp d true
def sendE (S : Ev) (d p : Int) : Int × Ev :=
  if edOk d = true ∧ epOk p = true then
    (if (S.pt d.toNat p.toNat).k = 2 then (0, pendE S (S.pt d.toNat p.toNat).r.toNat (S.pt d.toNat p.toNat).p.toNat) else (70, S))
  else (1, S)
def raiseE (S : Ev) (d v : Int) : Int × Ev :=
  if edOk d = true then (if evOk v = true then (if least (isVirqOf S d.toNat v) < 32 then (0, pendE S d.toNat (least (isVirqOf S d.toNat v))) else (6, S)) else (1, S)) else (1, S)
def maskE (S : Ev) (d p : Int) (on : Bool) : Int × Ev :=
  if edOk d = true ∧ epOk p = true then
    (if (S.pt d.toNat p.toNat).k = 0 then (70, S)
    else (0, if ((S.pt d.toNat p.toNat).ma && !on && (S.pt d.toNat p.toNat).pe) = true then (S.upd d.toNat p.toNat { S.pt d.toNat p.toNat with ma := on }).setUp d.toNat true else S.upd d.toNat p.toNat { S.pt d.toNat p.toNat with ma := on }))
  else (1, S)
def clearE (S : Ev) (d p : Int) : Int × Ev :=
  if edOk d = true ∧ epOk p = true then
    (if (S.pt d.toNat p.toNat).k = 0 then (70, S) else (0, S.upd d.toNat p.toNat { S.pt d.toNat p.toNat with pe := false }))
  else (1, S)
def takeUpE (S : Ev) (d : Int) : Bool × Int × Ev :=
  if edOk d = true then (S.up d.toNat, 0, S.setUp d.toNat false) else (false, 1, S)
def closesE (S : Ev) (d : Nat) : Nat → Ev
  | 0 => S
  | k + 1 => (closeE (closesE S d k) d k).2
def dropE (S : Ev) (d : Int) : Int × Ev :=
  if edOk d = true then (0, (closesE S d.toNat 32).setUp d.toNat false) else (1, S)
/-- the ports whose bit is set, below k -/
def pendL (S : Ev) (d : Nat) : Nat → List Nat
  | 0 => []
  | k + 1 => pendL S d k ++ if (S.pt d k).pe = true then [k] else []

/-- what holds of each port -/
structure POk (S : Ev) (d n : Nat) : Prop where
  kind : (S.pt d n).k = 0 ∨ (S.pt d n).k = 1 ∨ (S.pt d n).k = 2 ∨ (S.pt d n).k = 3
  free : (S.pt d n).k = 0 → S.pt d n = Prt.zero
  bound : (S.pt d n).k = 2 → ∃ r p : Nat, r < 8 ∧ p < 32 ∧ (S.pt d n).r = r ∧ (S.pt d n).p = p ∧ (S.pt r p).k = 2 ∧ (S.pt r p).r = d ∧ (S.pt r p).p = n ∧ ¬ (r = d ∧ p = n)
  virq : (S.pt d n).k = 3 → (∃ v : Nat, v < 4 ∧ (S.pt d n).v = v) ∧ ∀ m, m < 32 → (S.pt d m).k = 3 → (S.pt d m).v = (S.pt d n).v → m = n
def EOk (S : Ev) : Prop := ∀ d n, d < 8 → n < 32 → POk S d n
theorem EOk.start : EOk ev0 := fun d n _ _ => ⟨.inl rfl, fun _ => rfl, fun h => by simp [ev0, Prt.zero] at h, fun h => by simp [ev0, Prt.zero] at h⟩
theorem EOk.ups {S : Ev} (h : EOk S) (d : Nat) (b : Bool) : EOk (S.setUp d b) := fun a c ha hc => ⟨(h a c ha hc).kind, (h a c ha hc).free, (h a c ha hc).bound, (h a c ha hc).virq⟩
/-- bits alone are turned -/
theorem EOk.bits {S : Ev} (h : EOk S) {d n : Nat} {q : Prt} (hq : q.k = (S.pt d n).k ∧ q.r = (S.pt d n).r ∧ q.p = (S.pt d n).p ∧ q.v = (S.pt d n).v) (hz : (S.pt d n).k = 0 → q = S.pt d n) : EOk (S.upd d n q) := by
  have same : ∀ a c, ((S.upd d n q).pt a c).k = (S.pt a c).k ∧ ((S.upd d n q).pt a c).r = (S.pt a c).r ∧ ((S.upd d n q).pt a c).p = (S.pt a c).p ∧ ((S.upd d n q).pt a c).v = (S.pt a c).v := fun a c => by
    by_cases e : a = d ∧ c = n
    · obtain ⟨rfl, rfl⟩ := e; rw [Ev.upd_same]; exact hq
    · rw [Ev.upd_other _ _ _ _ _ _ e]; exact ⟨rfl, rfl, rfl, rfl⟩
  intro a c ha hc
  have h0 := h a c ha hc
  refine ⟨by rw [(same a c).1]; exact h0.kind, fun e => ?_, fun e => ?_, fun e => ?_⟩
  · rw [(same a c).1] at e
    have hf := h0.free e
    by_cases e2 : a = d ∧ c = n
    · obtain ⟨rfl, rfl⟩ := e2; rw [Ev.upd_same, hz e, hf]
    · rw [Ev.upd_other _ _ _ _ _ _ e2, hf]
  · rw [(same a c).1] at e
    obtain ⟨r, p, hr, hp, e1, e2, e3, e4, e5, e6⟩ := h0.bound e
    exact ⟨r, p, hr, hp, by rw [(same a c).2.1, e1], by rw [(same a c).2.2.1, e2], by rw [(same r p).1, e3], by rw [(same r p).2.1, e4], by rw [(same r p).2.2.1, e5], e6⟩
  · rw [(same a c).1] at e
    obtain ⟨⟨v, hv, ev⟩, hu⟩ := h0.virq e
    refine ⟨⟨v, hv, by rw [(same a c).2.2.2, ev]⟩, fun m hm k3 kv => hu m hm ?_ ?_⟩
    · rw [← (same a m).1]; exact k3
    · rw [← (same a m).2.2.2, ← (same a c).2.2.2]; exact kv
/-- a free port is made what does not lead on: unbound, or a virtual interrupt that is not there -/
theorem EOk.taken {S : Ev} (h : EOk S) {d n : Nat} (hd : d < 8) (hn : n < 32) (hf : (S.pt d n).k = 0) {q : Prt} (hk : q.k = 1 ∨ (q.k = 3 ∧ (∃ v : Nat, v < 4 ∧ q.v = v) ∧ ∀ m, m < 32 → ¬ ((S.pt d m).k = 3 ∧ (S.pt d m).v = q.v))) : EOk (S.upd d n q) := by
  intro a c ha hc
  have h0 := h a c ha hc
  by_cases e : a = d ∧ c = n
  · obtain ⟨rfl, rfl⟩ := e
    refine ⟨by rw [Ev.upd_same]; omega, fun e => ?_, fun e => ?_, fun e => ?_⟩
    · rw [Ev.upd_same] at e; omega
    · rw [Ev.upd_same] at e; omega
    · rw [Ev.upd_same] at e ⊢
      rcases hk with hk | ⟨hk, hv, hu⟩
      · omega
      · refine ⟨hv, fun m hm k3 kv => ?_⟩
        by_cases em : m = c
        · exact em
        · rw [Ev.upd_other _ _ _ _ _ _ (by simp [em])] at k3 kv
          exact absurd ⟨k3, kv⟩ (hu m hm)
  · have eq := Ev.upd_other S d n a c q e
    refine ⟨by rw [eq]; exact h0.kind, fun e' => by rw [eq] at e' ⊢; exact h0.free e', fun e' => ?_, fun e' => ?_⟩
    · rw [eq] at e' ⊢
      obtain ⟨r, p, hr, hp, e1, e2, e3, e4, e5, e6⟩ := h0.bound e'
      have ne : ¬ (r = d ∧ p = n) := by rintro ⟨rfl, rfl⟩; omega
      exact ⟨r, p, hr, hp, e1, e2, by rw [Ev.upd_other _ _ _ _ _ _ ne, e3], by rw [Ev.upd_other _ _ _ _ _ _ ne, e4], by rw [Ev.upd_other _ _ _ _ _ _ ne, e5], e6⟩
    · rw [eq] at e' ⊢
      obtain ⟨hv, hu⟩ := h0.virq e'
      refine ⟨hv, fun m hm k3 kv => ?_⟩
      by_cases em : a = d ∧ m = n
      · obtain ⟨rfl, rfl⟩ := em
        rw [Ev.upd_same] at k3 kv
        rcases hk with hk | ⟨_, _, hu'⟩
        · omega
        · exact absurd ⟨e', kv.symm⟩ (hu' c hc)
      · rw [Ev.upd_other _ _ _ _ _ _ em] at k3 kv; exact hu m hm k3 kv
theorem least_free {S : Ev} {d : Nat} (h : least (isFree S d) < 32) : (S.pt d (least (isFree S d))).k = 0 := by simpa [isFree] using least_is _ h
theorem EOk.take {S : Ev} (h : EOk S) {d : Nat} (hd : d < 8) {q : Prt} (hk : q.k = 1 ∨ (q.k = 3 ∧ (∃ v : Nat, v < 4 ∧ q.v = v) ∧ ∀ m, m < 32 → ¬ ((S.pt d m).k = 3 ∧ (S.pt d m).v = q.v))) : EOk (takeE S d q).2.2 := by
  unfold takeE
  split
  · rename_i hl; exact h.taken hd hl (least_free hl) hk
  · exact h
theorem EOk.alloc {S : Ev} (h : EOk S) (d r : Int) : EOk (allocE S d r).2.2 := by
  unfold allocE
  split
  · rename_i hd
    obtain ⟨d, rfl, hd'⟩ := edOk_nat hd
    split
    · exact h.take (by simpa using hd') (.inl rfl)
    · exact h
  · exact h
theorem EOk.virq {S : Ev} (h : EOk S) (d v : Int) : EOk (virqE S d v).2.2 := by
  unfold virqE
  split
  · rename_i hd
    obtain ⟨d, rfl, hd'⟩ := edOk_nat hd
    split
    · rename_i hv
      obtain ⟨v, rfl, hv'⟩ := evOk_nat hv
      split
      · exact h
      · rename_i hl
        refine h.take (by simpa using hd') (.inr ⟨rfl, ⟨v, hv', rfl⟩, fun m hm e => ?_⟩)
        have : isVirqOf S (Int.toNat d) v m = false := by
          refine least_lt _ (Nat.lt_of_lt_of_le hm ?_)
          have := least_le (isVirqOf S (Int.toNat d) v); omega
        obtain ⟨e1, e2⟩ := e
        simp only [isVirqOf, e1, e2, decide_true, Bool.and_self] at this
        cases this
    · exact h
  · exact h
theorem EOk.bind {S : Ev} (h : EOk S) (d r p : Int) : EOk (bindE S d r p).2.2 := by
  unfold bindE
  split
  · rename_i hd
    obtain ⟨d, rfl, hd'⟩ := edOk_nat hd
    split
    · rename_i hr
      obtain ⟨r, rfl, hr'⟩ := edOk_nat hr.1
      obtain ⟨p, rfl, hp'⟩ := epOk_nat hr.2
      split
      · rename_i hk
        split
        · rename_i hl
          simp only [Int.toNat_natCast] at hl hk ⊢
          have hf := least_free hl
          generalize least (isFree S d) = n at *
          have ne : ¬ (r = d ∧ p = n) := by rintro ⟨rfl, rfl⟩; omega
          have ne' : ¬ (d = r ∧ n = p) := fun e => ne ⟨e.1.symm, e.2.symm⟩
          have atdn : ((S.upd d n ⟨2, r, p, 0, false, false⟩).upd r p { S.pt r p with k := 2, p := n }).pt d n = ⟨2, r, p, 0, false, false⟩ := by rw [Ev.upd_other _ _ _ _ _ _ ne', Ev.upd_same]
          have atrp : ((S.upd d n ⟨2, r, p, 0, false, false⟩).upd r p { S.pt r p with k := 2, p := n }).pt r p = { S.pt r p with k := 2, p := n } := Ev.upd_same _ _ _ _
          have ato : ∀ a c, ¬ (a = d ∧ c = n) → ¬ (a = r ∧ c = p) → ((S.upd d n ⟨2, r, p, 0, false, false⟩).upd r p { S.pt r p with k := 2, p := n }).pt a c = S.pt a c := fun a c h1 h2 => by rw [Ev.upd_other _ _ _ _ _ _ h2, Ev.upd_other _ _ _ _ _ _ h1]
          generalize hT : (S.upd d n ⟨2, r, p, 0, false, false⟩).upd r p { S.pt r p with k := 2, p := n } = T at *
          intro a c ha hc
          by_cases e1 : a = d ∧ c = n
          · obtain ⟨rfl, rfl⟩ := e1
            refine ⟨by rw [atdn]; simp, fun e => by rw [atdn] at e; simp at e, fun _ => ⟨r, p, hr', hp', by rw [atdn], by rw [atdn], by rw [atrp], by rw [atrp]; exact hk.2, by rw [atrp], ne⟩, fun e => by rw [atdn] at e; simp at e⟩
          · by_cases e2 : a = r ∧ c = p
            · obtain ⟨rfl, rfl⟩ := e2
              refine ⟨by rw [atrp]; simp, fun e => by rw [atrp] at e; simp at e, fun _ => ⟨d, n, hd', hl, by rw [atrp]; exact hk.2, by rw [atrp], by rw [atdn], by rw [atdn], by rw [atdn], ne'⟩, fun e => by rw [atrp] at e; simp at e⟩
            · have h0 := h a c ha hc
              have eq := ato a c e1 e2
              refine ⟨by rw [eq]; exact h0.kind, fun e => by rw [eq] at e ⊢; exact h0.free e, fun e => ?_, fun e => ?_⟩
              · rw [eq] at e ⊢
                obtain ⟨r1, p1, hr1, hp1, f1, f2, f3, f4, f5, f6⟩ := h0.bound e
                have m1 : ¬ (r1 = d ∧ p1 = n) := by rintro ⟨rfl, rfl⟩; omega
                have m2 : ¬ (r1 = r ∧ p1 = p) := by rintro ⟨rfl, rfl⟩; omega
                have eq1 := ato r1 p1 m1 m2
                exact ⟨r1, p1, hr1, hp1, f1, f2, by rw [eq1, f3], by rw [eq1, f4], by rw [eq1, f5], f6⟩
              · rw [eq] at e ⊢
                obtain ⟨hv, hu⟩ := h0.virq e
                refine ⟨hv, fun m hm k3 kv => ?_⟩
                by_cases g1 : a = d ∧ m = n
                · obtain ⟨rfl, rfl⟩ := g1; rw [atdn] at k3; simp at k3
                · by_cases g2 : a = r ∧ m = p
                  · obtain ⟨rfl, rfl⟩ := g2; rw [atrp] at k3; simp at k3
                  · rw [ato a m g1 g2] at k3 kv; exact hu m hm k3 kv
        · exact h
      · exact h
    · exact h
  · exact h
theorem EOk.close {S : Ev} (h : EOk S) (d p : Int) : EOk (closeE S d p).2 := by
  unfold closeE
  split
  · rename_i hd
    obtain ⟨d, rfl, hd'⟩ := edOk_nat hd.1
    obtain ⟨n, rfl, hn'⟩ := epOk_nat hd.2
    simp only [Int.toNat_natCast]
    split
    · exact h
    · rename_i hk
      unfold loosen
      split
      · rename_i h2
        obtain ⟨r, p, hr, hp, f1, f2, f3, f4, f5, f6⟩ := (h d n hd' hn').bound h2
        simp only [f1, f2, Int.toNat_natCast]
        have f6' : ¬ (d = r ∧ n = p) := fun e => f6 ⟨e.1.symm, e.2.symm⟩
        have atdn : ((S.upd r p { S.pt r p with k := 1, p := 0 }).upd d n Prt.zero).pt d n = Prt.zero := Ev.upd_same _ _ _ _
        have atrp : ((S.upd r p { S.pt r p with k := 1, p := 0 }).upd d n Prt.zero).pt r p = { S.pt r p with k := 1, p := 0 } := by rw [Ev.upd_other _ _ _ _ _ _ f6, Ev.upd_same]
        have ato : ∀ a c, ¬ (a = d ∧ c = n) → ¬ (a = r ∧ c = p) → ((S.upd r p { S.pt r p with k := 1, p := 0 }).upd d n Prt.zero).pt a c = S.pt a c := fun a c h1 h2 => by rw [Ev.upd_other _ _ _ _ _ _ h1, Ev.upd_other _ _ _ _ _ _ h2]
        generalize hT : (S.upd r p { S.pt r p with k := 1, p := 0 }).upd d n Prt.zero = T at *
        intro a c ha hc
        by_cases e1 : a = d ∧ c = n
        · obtain ⟨rfl, rfl⟩ := e1
          exact ⟨by rw [atdn]; simp [Prt.zero], fun _ => atdn, fun e => by rw [atdn] at e; simp [Prt.zero] at e, fun e => by rw [atdn] at e; simp [Prt.zero] at e⟩
        · by_cases e2 : a = r ∧ c = p
          · obtain ⟨rfl, rfl⟩ := e2
            exact ⟨by rw [atrp]; simp, fun e => by rw [atrp] at e; simp at e, fun e => by rw [atrp] at e; simp at e, fun e => by rw [atrp] at e; simp at e⟩
          · have h0 := h a c ha hc
            have eq := ato a c e1 e2
            refine ⟨by rw [eq]; exact h0.kind, fun e => by rw [eq] at e ⊢; exact h0.free e, fun e => ?_, fun e => ?_⟩
            · rw [eq] at e ⊢
              obtain ⟨r1, p1, hr1, hp1, g1, g2, g3, g4, g5, g6⟩ := h0.bound e
              have m1 : ¬ (r1 = d ∧ p1 = n) := by
                rintro ⟨rfl, rfl⟩
                refine e2 ⟨?_, ?_⟩ <;> omega
              have m2 : ¬ (r1 = r ∧ p1 = p) := by
                rintro ⟨rfl, rfl⟩
                refine e1 ⟨?_, ?_⟩ <;> omega
              have eq1 := ato r1 p1 m1 m2
              exact ⟨r1, p1, hr1, hp1, g1, g2, by rw [eq1, g3], by rw [eq1, g4], by rw [eq1, g5], g6⟩
            · rw [eq] at e ⊢
              obtain ⟨hv, hu⟩ := h0.virq e
              refine ⟨hv, fun m hm k3 kv => ?_⟩
              by_cases g1 : a = d ∧ m = n
              · obtain ⟨rfl, rfl⟩ := g1; rw [atdn] at k3; simp [Prt.zero] at k3
              · by_cases g2 : a = r ∧ m = p
                · obtain ⟨rfl, rfl⟩ := g2; rw [atrp] at k3; simp at k3
                · rw [ato a m g1 g2] at k3 kv; exact hu m hm k3 kv
      · rename_i h2
        intro a c ha hc
        have h0 := h a c ha hc
        by_cases e1 : a = d ∧ c = n
        · obtain ⟨rfl, rfl⟩ := e1
          exact ⟨by rw [Ev.upd_same]; simp [Prt.zero], fun _ => Ev.upd_same _ _ _ _, fun e => by rw [Ev.upd_same] at e; simp [Prt.zero] at e, fun e => by rw [Ev.upd_same] at e; simp [Prt.zero] at e⟩
        · have eq := Ev.upd_other S d n a c Prt.zero e1
          refine ⟨by rw [eq]; exact h0.kind, fun e => by rw [eq] at e ⊢; exact h0.free e, fun e => ?_, fun e => ?_⟩
          · rw [eq] at e ⊢
            obtain ⟨r1, p1, hr1, hp1, g1, g2, g3, g4, g5, g6⟩ := h0.bound e
            have m1 : ¬ (r1 = d ∧ p1 = n) := by rintro ⟨rfl, rfl⟩; exact h2 g3
            have eq1 := Ev.upd_other S d n r1 p1 Prt.zero m1
            exact ⟨r1, p1, hr1, hp1, g1, g2, by rw [eq1, g3], by rw [eq1, g4], by rw [eq1, g5], g6⟩
          · rw [eq] at e ⊢
            obtain ⟨hv, hu⟩ := h0.virq e
            refine ⟨hv, fun m hm k3 kv => ?_⟩
            by_cases g1 : a = d ∧ m = n
            · obtain ⟨rfl, rfl⟩ := g1; rw [Ev.upd_same] at k3; simp [Prt.zero] at k3
            · rw [Ev.upd_other _ _ _ _ _ _ g1] at k3 kv; exact hu m hm k3 kv
  · exact h
theorem EOk.pend {S : Ev} (h : EOk S) (d n : Nat) (hk : (S.pt d n).k ≠ 0) : EOk (pendE S d n) := by
  unfold pendE
  split
  · exact h.bits ⟨rfl, rfl, rfl, rfl⟩ fun e => absurd e hk
  · refine EOk.ups (EOk.bits h ?_ fun e => absurd e hk) _ _
    exact ⟨rfl, rfl, rfl, rfl⟩
theorem EOk.send {S : Ev} (h : EOk S) (d p : Int) : EOk (sendE S d p).2 := by
  unfold sendE
  split
  · rename_i hd
    obtain ⟨d, rfl, hd'⟩ := edOk_nat hd.1
    obtain ⟨n, rfl, hn'⟩ := epOk_nat hd.2
    simp only [Int.toNat_natCast]
    split
    · rename_i h2
      obtain ⟨r, p, hr, hp, f1, f2, f3, f4, f5, f6⟩ := (h d n hd' hn').bound h2
      simp only [f1, f2, Int.toNat_natCast]
      exact h.pend r p (by omega)
    · exact h
  · exact h
theorem EOk.raise {S : Ev} (h : EOk S) (d v : Int) : EOk (raiseE S d v).2 := by
  unfold raiseE
  split
  · split
    · split
      · rename_i hl
        refine h.pend _ _ ?_
        have := least_is _ hl
        simp only [isVirqOf, Bool.and_eq_true, decide_eq_true_eq] at this
        omega
      · exact h
    · exact h
  · exact h
theorem EOk.mask {S : Ev} (h : EOk S) (d p : Int) (on : Bool) : EOk (maskE S d p on).2 := by
  unfold maskE
  split
  · split
    · exact h
    · rename_i hk
      simp only
      split
      · refine EOk.ups (EOk.bits h ?_ fun e => absurd e hk) _ _
        exact ⟨rfl, rfl, rfl, rfl⟩
      · exact h.bits ⟨rfl, rfl, rfl, rfl⟩ fun e => absurd e hk
  · exact h
theorem EOk.clear {S : Ev} (h : EOk S) (d p : Int) : EOk (clearE S d p).2 := by
  unfold clearE
  split
  · split
    · exact h
    · rename_i hk
      exact h.bits ⟨rfl, rfl, rfl, rfl⟩ fun e => absurd e hk
  · exact h
theorem EOk.takeUp {S : Ev} (h : EOk S) (d : Int) : EOk (takeUpE S d).2.2 := by
  unfold takeUpE
  split
  · exact h.ups _ _
  · exact h
theorem EOk.closes {S : Ev} (h : EOk S) (d : Nat) : ∀ k, EOk (closesE S d k)
  | 0 => h
  | k + 1 => (EOk.closes h d k).close d k
theorem EOk.drop {S : Ev} (h : EOk S) (d : Int) : EOk (dropE S d).2 := by
  unfold dropE
  split
  · exact (h.closes _ _).ups _ _
  · exact h
end Go.Proofs.Ytbbaplcfhofeeaa.Evx

/-
  Ports of all domains in memory: the block of package event, the blocks of tenementref07. No walk here.
-/
set_option linter.unusedSimpArgs false
set_option linter.unusedVariables false
namespace Go.Proofs.Ytbbaplcfhofeeaa.Evx
open Go.RowKit Gen

def Prt.cell (q : Prt) : Nat → Value
  | 0 => .int .i64 q.k
  | 1 => .int .i64 q.r
  | 2 => .int .i64 q.p
  | 3 => .int .i64 q.v
  | 4 => .bool q.pe
  | _ => .bool q.ma
def Prt.val (q : Prt) : Value := .agg #[.int .i64 q.k, .int .i64 q.r, .int .i64 q.p, .int .i64 q.v, .bool q.pe, .bool q.ma]
def Ev.cell (S : Ev) : Nat → Value
  | 0 => .bool true
  | k + 1 => if k % 193 = 192 then .bool (S.up (k / 193)) else (S.pt (k / 193) (k % 193 / 6)).cell (k % 193 % 6)
theorem Ev.cell_pt (S : Ev) {d n f : Nat} (hn : n < 32) (hf : f < 6) : S.cell (1 + d * 193 + n * 6 + f) = (S.pt d n).cell f := by
  obtain ⟨m, hm⟩ : ∃ m, m = n * 6 + f := ⟨_, rfl⟩
  have hm2 : m < 192 := by omega
  rw [show 1 + d * 193 + n * 6 + f = (d * 193 + m) + 1 by omega]
  show (if (d * 193 + m) % 193 = 192 then _ else _) = _
  have e1 : (d * 193 + m) % 193 = m := by omega
  have e2 : (d * 193 + m) / 193 = d := by omega
  rw [e1, e2, if_neg (by omega), hm, show (n * 6 + f) / 6 = n by omega, show (n * 6 + f) % 6 = f by omega]
theorem Ev.cell_up (S : Ev) (d : Nat) : S.cell (1 + d * 193 + 192) = .bool (S.up d) := by
  rw [show 1 + d * 193 + 192 = (d * 193 + 192) + 1 by omega]
  show (if (d * 193 + 192) % 193 = 192 then _ else _) = _
  rw [if_pos (by omega), show (d * 193 + 192) / 193 = d by omega]
theorem Ev.split {k : Nat} (h : k < 1545) : k = 0 ∨ (∃ d, d < 8 ∧ k = 1 + d * 193 + 192) ∨ ∃ d n f, d < 8 ∧ n < 32 ∧ f < 6 ∧ k = 1 + d * 193 + n * 6 + f := by
  cases k with
  | zero => exact .inl rfl
  | succ k =>
    by_cases e : k % 193 = 192
    · exact .inr (.inl ⟨k / 193, by omega, by omega⟩)
    · exact .inr (.inr ⟨k / 193, k % 193 / 6, k % 193 % 6, by omega, by omega, by omega, by omega⟩)
/-- block X holds the events S -/
def EvAt (w : World) (X : Nat) (S : Ev) : Prop := Row w X 91 1545 S.cell
section
variable {w w' : World} {X : Nat} {S : Ev}
theorem EvAt.made (h : EvAt w X S) : w.cell? ⟨X, 0, none⟩ = some (.bool true) := Row.cell h (k := 0) (by omega)
theorem EvAt.at (h : EvAt w X S) {d n f : Nat} (hd : d < 8) (hn : n < 32) (hf : f < 6) : w.cell? ⟨X, 1 + d * 193 + n * 6 + f, none⟩ = some ((S.pt d n).cell f) := by
  rw [Row.cell h (k := 1 + d * 193 + n * 6 + f) (by omega), Ev.cell_pt S hn hf]
theorem EvAt.k (h : EvAt w X S) {d n : Nat} (hd : d < 8) (hn : n < 32) : w.cell? ⟨X, 1 + d * 193 + n * 6, none⟩ = some (.int .i64 (S.pt d n).k) := h.at (f := 0) hd hn (by omega)
theorem EvAt.r (h : EvAt w X S) {d n : Nat} (hd : d < 8) (hn : n < 32) : w.cell? ⟨X, 1 + d * 193 + n * 6 + 1, none⟩ = some (.int .i64 (S.pt d n).r) := h.at (f := 1) hd hn (by omega)
theorem EvAt.p (h : EvAt w X S) {d n : Nat} (hd : d < 8) (hn : n < 32) : w.cell? ⟨X, 1 + d * 193 + n * 6 + 2, none⟩ = some (.int .i64 (S.pt d n).p) := h.at (f := 2) hd hn (by omega)
theorem EvAt.v (h : EvAt w X S) {d n : Nat} (hd : d < 8) (hn : n < 32) : w.cell? ⟨X, 1 + d * 193 + n * 6 + 3, none⟩ = some (.int .i64 (S.pt d n).v) := h.at (f := 3) hd hn (by omega)
theorem EvAt.pe (h : EvAt w X S) {d n : Nat} (hd : d < 8) (hn : n < 32) : w.cell? ⟨X, 1 + d * 193 + n * 6 + 4, none⟩ = some (.bool (S.pt d n).pe) := h.at (f := 4) hd hn (by omega)
theorem EvAt.ma (h : EvAt w X S) {d n : Nat} (hd : d < 8) (hn : n < 32) : w.cell? ⟨X, 1 + d * 193 + n * 6 + 5, none⟩ = some (.bool (S.pt d n).ma) := h.at (f := 5) hd hn (by omega)
theorem EvAt.up (h : EvAt w X S) {d : Nat} (hd : d < 8) : w.cell? ⟨X, 1 + d * 193 + 192, none⟩ = some (.bool (S.up d)) := by
  rw [Row.cell h (k := 1 + d * 193 + 192) (by omega), Ev.cell_up]
theorem EvAt.fz (h : EvAt w X S) (k : Nat) : w.frozen? ⟨X, k, none⟩ = false := Row.frozen h k
theorem EvAt.lt (h : EvAt w X S) : X < w.heap.size := Row.lt h
theorem EvAt.grown {row : Option Nat} (h : EvAt w X S) (hg : w.grownBy w' row) (hr : some X ≠ row) : EvAt w' X S := Row.grown h hg hr
theorem EvAt.grow0 (h : EvAt w X S) (hg : w.grownBy w' none) : EvAt w' X S := h.grown hg (by simp)
theorem EvAt.chg {C : Nat → Prop} (h : EvAt w X S) (hc : Chg C w w') (hb : ¬ C X) : EvAt w' X S := Row.chg h hc hb
/-- one cell of a port is set -/
theorem EvAt.set (h : EvAt w X S) {d n f : Nat} (hd : d < 8) (hn : n < 32) (hf : f < 6) {v : Value} {q : Prt} (hv : q.cell f = v) (ho : ∀ g, g < 6 → g ≠ f → q.cell g = (S.pt d n).cell g) : EvAt (w.setCell ⟨X, 1 + d * 193 + n * 6 + f, none⟩ v) X (S.upd d n q) := by
  refine Row.set (k := 1 + d * 193 + n * 6 + f) h (by rw [Ev.cell_pt _ hn hf, Ev.upd_same, hv]) fun j hj hne => ?_
  rcases Ev.split hj with rfl | ⟨a, ha, rfl⟩ | ⟨a, b, c, ha, hb, hc, rfl⟩
  · rfl
  · rw [Ev.cell_up, Ev.cell_up, Ev.upd_up]
  · rw [Ev.cell_pt _ hb hc, Ev.cell_pt _ hb hc]
    by_cases e : a = d ∧ b = n
    · obtain ⟨rfl, rfl⟩ := e
      rw [Ev.upd_same, ho c hc (fun e => hne (by rw [e]))]
    · rw [Ev.upd_other _ _ _ _ _ _ e]
theorem EvAt.setK (h : EvAt w X S) {d n : Nat} (hd : d < 8) (hn : n < 32) (x : Int) : EvAt (w.setCell ⟨X, 1 + d * 193 + n * 6, none⟩ (.int .i64 x)) X (S.upd d n { S.pt d n with k := x }) :=
  h.set (f := 0) hd hn (by omega) rfl fun g _ hg => by match g, hg with | 0, h => exact absurd rfl h | 1, _ => rfl | 2, _ => rfl | 3, _ => rfl | 4, _ => rfl | k + 5, _ => rfl
theorem EvAt.setR (h : EvAt w X S) {d n : Nat} (hd : d < 8) (hn : n < 32) (x : Int) : EvAt (w.setCell ⟨X, 1 + d * 193 + n * 6 + 1, none⟩ (.int .i64 x)) X (S.upd d n { S.pt d n with r := x }) :=
  h.set (f := 1) hd hn (by omega) rfl fun g _ hg => by match g, hg with | 0, _ => rfl | 1, h => exact absurd rfl h | 2, _ => rfl | 3, _ => rfl | 4, _ => rfl | k + 5, _ => rfl
theorem EvAt.setP (h : EvAt w X S) {d n : Nat} (hd : d < 8) (hn : n < 32) (x : Int) : EvAt (w.setCell ⟨X, 1 + d * 193 + n * 6 + 2, none⟩ (.int .i64 x)) X (S.upd d n { S.pt d n with p := x }) :=
  h.set (f := 2) hd hn (by omega) rfl fun g _ hg => by match g, hg with | 0, _ => rfl | 1, _ => rfl | 2, h => exact absurd rfl h | 3, _ => rfl | 4, _ => rfl | k + 5, _ => rfl
theorem EvAt.setV (h : EvAt w X S) {d n : Nat} (hd : d < 8) (hn : n < 32) (x : Int) : EvAt (w.setCell ⟨X, 1 + d * 193 + n * 6 + 3, none⟩ (.int .i64 x)) X (S.upd d n { S.pt d n with v := x }) :=
  h.set (f := 3) hd hn (by omega) rfl fun g _ hg => by match g, hg with | 0, _ => rfl | 1, _ => rfl | 2, _ => rfl | 3, h => exact absurd rfl h | 4, _ => rfl | k + 5, _ => rfl
theorem EvAt.setPe (h : EvAt w X S) {d n : Nat} (hd : d < 8) (hn : n < 32) (x : Bool) : EvAt (w.setCell ⟨X, 1 + d * 193 + n * 6 + 4, none⟩ (.bool x)) X (S.upd d n { S.pt d n with pe := x }) :=
  h.set (f := 4) hd hn (by omega) rfl fun g _ hg => by match g, hg with | 0, _ => rfl | 1, _ => rfl | 2, _ => rfl | 3, _ => rfl | 4, h => exact absurd rfl h | k + 5, _ => rfl
theorem EvAt.setMa (h : EvAt w X S) {d n : Nat} (hd : d < 8) (hn : n < 32) (x : Bool) : EvAt (w.setCell ⟨X, 1 + d * 193 + n * 6 + 5, none⟩ (.bool x)) X (S.upd d n { S.pt d n with ma := x }) :=
  h.set (f := 5) hd hn (by omega) rfl fun g hg6 hg => by match g, hg6, hg with | 0, _, _ => rfl | 1, _, _ => rfl | 2, _, _ => rfl | 3, _, _ => rfl | 4, _, _ => rfl | 5, _, h => exact absurd rfl h | k + 6, h, _ => exact absurd h (by omega)
theorem EvAt.setUp (h : EvAt w X S) {d : Nat} (hd : d < 8) (x : Bool) : EvAt (w.setCell ⟨X, 1 + d * 193 + 192, none⟩ (.bool x)) X (S.setUp d x) := by
  refine Row.set (k := 1 + d * 193 + 192) h (by rw [Ev.cell_up, Ev.setUp_same]) fun j hj hne => ?_
  rcases Ev.split hj with rfl | ⟨a, ha, rfl⟩ | ⟨a, b, c, ha, hb, hc, rfl⟩
  · rfl
  · rw [Ev.cell_up, Ev.cell_up, Ev.setUp_other _ _ _ _ (by rintro rfl; exact hne rfl)]
  · rw [Ev.cell_pt _ hb hc, Ev.cell_pt _ hb hc, Ev.setUp_pt]
/-- a whole port is laid -/
def set6 (w : World) (b o : Nat) (q : Prt) : World := (((((w.setCell ⟨b, o, none⟩ (.int .i64 q.k)).setCell ⟨b, o + 1, none⟩ (.int .i64 q.r)).setCell ⟨b, o + 2, none⟩ (.int .i64 q.p)).setCell ⟨b, o + 3, none⟩ (.int .i64 q.v)).setCell ⟨b, o + 4, none⟩ (.bool q.pe)).setCell ⟨b, o + 5, none⟩ (.bool q.ma)
theorem EvAt.setAll (h : EvAt w X S) {d n : Nat} (hd : d < 8) (hn : n < 32) (q : Prt) : EvAt (set6 w X (1 + d * 193 + n * 6) q) X (S.upd d n q) := by
  have h6 := (((((h.setK hd hn q.k).setR hd hn q.r).setP hd hn q.p).setV hd hn q.v).setPe hd hn q.pe).setMa hd hn q.ma
  simp only [Ev.upd_upd, Ev.upd_same] at h6
  exact h6
theorem set6_grown (w : World) (b o : Nat) (q : Prt) : w.grownBy (set6 w b o q) (some b) :=
  ((((((grownBy_setCell w b o none _).trans (grownBy_setCell _ b (o + 1) none _)).trans (grownBy_setCell _ b (o + 2) none _)).trans (grownBy_setCell _ b (o + 3) none _)).trans (grownBy_setCell _ b (o + 4) none _)).trans (grownBy_setCell _ b (o + 5) none _))
end

/-! ### the reference's -/
structure ELay where
  fP : Nat
  cP : Nat
  fU : Nat
  cU : Nat
  g : Nat → Nat
  cg : Nat → Nat
def ELay.top (L : ELay) : Nat → Value
  | 0 => .slice (some ⟨L.fP, 0, none⟩) 8 L.cP
  | _ => .slice (some ⟨L.fU, 0, none⟩) 8 L.cU
def ELay.row (L : ELay) (i : Nat) : Value := .slice (some ⟨L.g i, 0, none⟩) 32 (L.cg i)
def ELay.foot (L : ELay) (Y k : Nat) : Prop := k = Y ∨ k = L.fP ∨ k = L.fU ∨ ∃ d, d < 8 ∧ k = L.g d
def prow (S : Ev) (d q : Nat) : Value := (S.pt d (q / 6)).cell (q % 6)
section
variable {w w' : World} {Y : Nat} {S : Ev} {L : ELay}
end
end Go.Proofs.Ytbbaplcfhofeeaa.Evx

/-
  Package event: contracts of the small functions.
-/
set_option linter.unusedSimpArgs false
set_option linter.unusedVariables false
namespace Go.Proofs.Ytbbaplcfhofeeaa.Evx
open Go.RowKit Gen
set_option maxHeartbeats 400000

theorem edOk_yes {d : Nat} (h : d < 8) : edOk (d : Int) = true := by simp [edOk]; omega
theorem epOk_yes {d : Nat} (h : d < 32) : epOk (d : Int) = true := by simp [epOk]; omega
theorem evOk_yes {d : Nat} (h : d < 4) : evOk (d : Int) = true := by simp [evOk]; omega
/-- what a call leaves -/
def ELeft (X : Nat) (w : World) (S : Ev) (w' : World) : Prop := EvAt w' X S ∧ w.grownBy w' (some X)
theorem ELeft.same {X : Nat} {w : World} {S : Ev} (h : EvAt w X S) : ELeft X w S w := ⟨h, World.grownBy.refl _ _⟩
theorem ELeft.of {X : Nat} {w w' : World} {S : Ev} (h : EvAt w X S) (hg : w.grownBy w' none) : ELeft X w S w' := ⟨h.grow0 hg, grown_any hg _⟩
theorem ELeft.trans {X : Nat} {w w' w2 : World} {S S2 : Ev} (h : ELeft X w S w') (k : ELeft X w' S2 w2) : ELeft X w S2 w2 := ⟨k.1, h.2.trans k.2⟩
end Go.Proofs.Ytbbaplcfhofeeaa.Evx

/-
  Package event: contracts of the scans of a domain's ports: take, virq, pending.
-/
set_option linter.unusedSimpArgs false
set_option linter.unusedVariables false
namespace Go.Proofs.Ytbbaplcfhofeeaa.Evx
open Go.RowKit Gen
set_option maxHeartbeats 1000000

theorem least_no {P : Nat → Bool} {j : Nat} (h : j ≤ least P) (hj : j < 32) (hP : P j = false) : j + 1 ≤ least P := by
  rcases Nat.lt_or_ge j (least P) with e | e
  · omega
  · obtain rfl : j = least P := by omega
    have := least_is P hj
    rw [hP] at this; cases this
theorem least_yes {P : Nat → Bool} {j : Nat} (h : j ≤ least P) (hP : P j = true) : least P = j := by
  rcases Nat.lt_or_ge j (least P) with e | e
  · have := least_lt P e; rw [hP] at this; cases this
  · omega
theorem least_end {P : Nat → Bool} (h : 32 ≤ least P) : least P = 32 := by have := least_le P; omega
theorem box6 (w : World) (q : Prt) : ∃ W, w.alloc (.cells #[.int .i64 q.k, .int .i64 q.r, .int .i64 q.p, .int .i64 q.v, .bool q.pe, .bool q.ma] 84) = W ∧ w.grownBy W none ∧ Row W w.heap.size 84 6 q.cell ∧
    W.cell? ⟨w.heap.size, 0, none⟩ = some (.int .i64 q.k) ∧ W.cell? ⟨w.heap.size, 1, none⟩ = some (.int .i64 q.r) ∧ W.cell? ⟨w.heap.size, 2, none⟩ = some (.int .i64 q.p) ∧ W.cell? ⟨w.heap.size, 3, none⟩ = some (.int .i64 q.v) ∧ W.cell? ⟨w.heap.size, 4, none⟩ = some (.bool q.pe) ∧ W.cell? ⟨w.heap.size, 5, none⟩ = some (.bool q.ma) := by
  have hr : Row (w.alloc (.cells #[.int .i64 q.k, .int .i64 q.r, .int .i64 q.p, .int .i64 q.v, .bool q.pe, .bool q.ma] 84)) w.heap.size 84 6 q.cell := ⟨_, heap_alloc_new w _, by simp, fun k hk => by match k, hk with | 0, _ => rfl | 1, _ => rfl | 2, _ => rfl | 3, _ => rfl | 4, _ => rfl | 5, _ => rfl⟩
  exact ⟨_, rfl, World.grownBy_alloc w _ none, hr, hr.cell (k := 0) (by omega), hr.cell (k := 1) (by omega), hr.cell (k := 2) (by omega), hr.cell (k := 3) (by omega), hr.cell (k := 4) (by omega), hr.cell (k := 5) (by omega)⟩

theorem ELeft.laid {X d k : Nat} {w W : World} {S : Ev} (h : EvAt W X S) (hd : d < 8) (hk : k < 32) (hg : w.grownBy W none) (q : Prt) : ELeft X w (S.upd d k q) (set6 W X (1 + d * 193 + k * 6) q).drew :=
  ⟨(h.setAll hd hk q).grow0 (grownBy_drew _ none), ((grown_any hg _).trans (set6_grown _ _ _ _)).trans (grownBy_drew _ _)⟩
/-! ### a copy of a port -/
theorem row6z (w : World) : Row (w.alloc (.cells #[.int .i64 0, .int .i64 0, .int .i64 0, .int .i64 0, .bool false, .bool false] 84)) w.heap.size 84 6 Prt.zero.cell :=
  ⟨_, heap_alloc_new w _, by simp, fun k hk => by match k, hk with | 0, _ => rfl | 1, _ => rfl | 2, _ => rfl | 3, _ => rfl | 4, _ => rfl | 5, _ => rfl⟩
def virqR (S : Ev) (d : Nat) (v : Int) : Int × Bool := if least (isVirqOf S d v) < 32 then (least (isVirqOf S d v), true) else (0, false)
/-! ### pending -/
theorem info_int : (Try.prog.info? 3).map (fun i => (i.zero, i.size, i.bytes)) = some (some (.int .i64 0), 1, 8) := by kernel_rfl
def icells (l : List Nat) : List Value := l.map fun (k : Nat) => .int .i64 k
theorem icells_snoc (l : List Nat) (k : Nat) : icells (l ++ [k]) = icells l ++ [.int .i64 k] := by simp [icells]
theorem icells_len (l : List Nat) : (icells l).length = l.length := by simp [icells]
def NewInts (w : World) (l : List Nat) (v : Value) (w' : World) : Prop := w'.ownsRow w.heap.size 3 1 v l.length (icells l) ∧ w.grownBy w' none
theorem newInts_slice {w w' : World} {l : List Nat} {v : Value} (h : NewInts w l v w') : ∃ p c, v = .slice p l.length c := ownsRow_slice h.1
theorem pendL_in {S : Ev} {d k : Nat} (h : (S.pt d k).pe = true) : pendL S d (k + 1) = pendL S d k ++ [k] := by
  show pendL S d k ++ (if (S.pt d k).pe = true then [k] else []) = _
  rw [if_pos h]
theorem pendL_out {S : Ev} {d k : Nat} (h : (S.pt d k).pe = false) : pendL S d (k + 1) = pendL S d k := by
  show pendL S d k ++ (if (S.pt d k).pe = true then [k] else []) = _
  rw [h]; simp
theorem pendL_le' (S : Ev) (d : Nat) : ∀ k, (pendL S d k).length ≤ k
  | 0 => by simp [pendL]
  | k + 1 => by
    have := pendL_le' S d k
    unfold pendL
    simp only [List.length_append]
    split <;> simp <;> omega
theorem ownsRow_drew {W : World} {base : Nat} {e : TypeId} {size n : Nat} {v : Value} {xs : List Value} (h : W.ownsRow base e size v n xs) : W.drew.ownsRow base e size v n xs := h
end Go.Proofs.Ytbbaplcfhofeeaa.Evx

/-
  Package event: contracts of Alloc, Bind, Virq, Close, Send, Raise, Mask, Clear.
-/
set_option linter.unusedSimpArgs false
set_option linter.unusedVariables false
namespace Go.Proofs.Ytbbaplcfhofeeaa.Evx
open Go.RowKit Gen
set_option maxHeartbeats 1000000

theorem ELeft.mk' {X : Nat} {w w' : World} {S : Ev} (h : EvAt w' X S) (hg : w.grownBy w' (some X)) : ELeft X w S w' := ⟨h, hg⟩
theorem _root_.Go.World.grownBy.any {w w' : World} (h : w.grownBy w' none) (row : Option Nat) : w.grownBy w' row := grown_any h row
theorem _root_.Go.World.grownBy.trans_any {w w' w2 : World} {row : Option Nat} (h : w.grownBy w' none) (k : w'.grownBy w2 row) : w.grownBy w2 row := (grown_any h row).trans k
end Go.Proofs.Ytbbaplcfhofeeaa.Evx
