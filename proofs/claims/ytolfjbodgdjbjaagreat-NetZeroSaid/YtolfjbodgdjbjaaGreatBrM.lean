/-
  Package bridge: maps from bytes to integers as functions with their number; for any program. No walk here.
-/
import Derived.Test.YtolfjbodgdjbjaaGreatBrG
import Derived.OpenShut
set_option linter.unusedSimpArgs false
set_option linter.unusedVariables false
namespace Go.Proofs.YtolfjbodgdjbjaaGreat.Br
open Go.RowKit Gen
open Go.Maps (Keyed)
open Go.ChangeShapes Go.WideShapes

/-- how many of 0 .. n - 1 have one -/
def cnt (f : Nat → Option Nat) (n : Nat) : Nat := ((List.range n).filter fun i => (f i).isSome).length
theorem cnt_le (f : Nat → Option Nat) (n : Nat) : cnt f n ≤ n := by
  have := List.length_filter_le (fun i => (f i).isSome) (List.range n)
  simpa [cnt] using this
theorem cnt_succ (f : Nat → Option Nat) (n : Nat) : cnt f (n + 1) = cnt f n + (if (f n).isSome = true then 1 else 0) := by
  unfold cnt
  rw [List.range_succ, List.filter_append, List.length_append]
  by_cases h : (f n).isSome = true <;> simp [h]
theorem cnt_congr {f g : Nat → Option Nat} {n : Nat} (h : ∀ i, i < n → (f i).isSome = (g i).isSome) : cnt f n = cnt g n := by
  unfold cnt
  congr 1
  exact List.filter_congr fun i hi => h i (by simpa using hi)
theorem cnt_set (f : Nat → Option Nat) (a v : Nat) : ∀ n, cnt (fun i => if i = a then some v else f i) n = cnt f n + (if a < n ∧ (f a).isSome = false then 1 else 0)
  | 0 => by simp [cnt]
  | n + 1 => by
    rw [cnt_succ, cnt_succ, cnt_set f a v n]
    by_cases h : n = a
    · subst h
      simp only [if_true, Option.isSome_some]
      cases (f n).isSome <;> simp
    · rw [if_neg h]
      by_cases h2 : a < n
      · simp [h2, show a < n + 1 by omega]
        omega
      · simp [h2, show ¬ a < n + 1 by omega]
/-- block b is a map from bytes to ints that is the function f -/
def M8 (P : Program) (k e : TypeId) (w : World) (b : Nat) (f : Nat → Option Nat) : Prop :=
  ∃ D : DataW Unit, w.ownsMap P k (plainElem P e) b (Maps.size D) D ∧ ∀ g : Nat, g < 256 → Maps.has D (.int .u8 g) = (f g).isSome ∧ D.atKey (.int .u8 g) (.lit (.int .i64 0)) = .lit (.int .i64 ((f g).getD 0 : Nat))
theorem tight {H : Type} {P : Program} {k : TypeId} {R : Value → Option (DataW H × List MemPlace)} {w : World} {b n : Nat} {D : DataW H} (h : w.ownsMap P k R b n D) : w.ownsMap P k R b (Maps.size D) D := by
  obtain ⟨es, c, hb, F, _, rfl⟩ := h
  refine ⟨es, c, hb, F, ?_, rfl⟩
  have := Go.length_read (P := P) (k := k) (R0 := R) es
  simp only [Maps.size]
  omega
theorem u8_wf {g : Nat} (h : g < 256) : (Lit.int .u8 g).wf = true := by
  exact WalkArith.wf_u8 (by omega)
section
variable {P : Program} {k e : TypeId} {w w' : World} {b : Nat} {f : Nat → Option Nat}
theorem M8.lt (h : M8 P k e w b f) : b < w.heap.size := by obtain ⟨D, h, _⟩ := h; exact h.lt
theorem M8.same (h : M8 P k e w b f) (hb : w'.heap[b]? = w.heap[b]?) : M8 P k e w' b f := by
  obtain ⟨D, ⟨es, c, h0, r⟩, q⟩ := h
  exact ⟨D, ⟨es, c, hb.trans h0, r⟩, q⟩
theorem M8.grown {row : Option Nat} (h : M8 P k e w b f) (hg : w.grownBy w' row) (hr : some b ≠ row) : M8 P k e w' b f := h.same (hg.block b h.lt hr)
theorem M8.st {C : Nat → Prop} {lab lab' : Nat → Nat} (h : M8 P k e w b f) (s : St C lab w lab' w') (hC : ¬ C (lab b)) : M8 P k e w' b f := h.same (s.block h.lt hC)
theorem M8.congr (h : M8 P k e w b f) {f' : Nat → Option Nat} (hf : ∀ g, g < 256 → f' g = f g) : M8 P k e w b f' := by obtain ⟨D, h, r⟩ := h; exact ⟨D, h, fun g hg => by rw [hf g hg]; exact r g hg⟩
theorem M8.made (w : World) (P : Program) (k e : TypeId) : M8 P k e (w.alloc (.map #[] 0)) w.heap.size (fun _ => none) :=
  ⟨.map [], World.ownsMap_made w P k _, fun _ _ => ⟨rfl, rfl⟩⟩
theorem key_is {v : Value} {kl : Lit} (hk : P.underlying k = some (.int .u8)) (h : keyOf P k v = some kl) : ∃ g : Nat, g < 256 ∧ v = .int .u8 g ∧ kl = .int .u8 g := by
  cases v <;> simp [keyOf, mapKey, hk] at h
  rename_i q a
  obtain ⟨⟨rfl, h2⟩, h3⟩ := h
  have hb := bounds_u8 h2
  have e1 : ((a.toNat : Nat) : Int) = a := Int.toNat_of_nonneg hb.1
  exact ⟨a.toNat, by omega, by rw [e1], by rw [e1]; exact h3.symm⟩
/-- the entries: their keys are bytes, none twice -/
theorem M8.entries {D : DataW Unit} {n : Nat} (hk : P.underlying k = some (.int .u8)) (h : w.ownsMap P k (plainElem P e) b n D) : ∃ es, D = .map es ∧ es.Pairwise (fun p q => p.1 ≠ q.1) ∧ ∀ p ∈ es, ∃ g : Nat, g < 256 ∧ p.1 = .int .u8 g := by
  obtain ⟨es, clock, _, F, _, rfl⟩ := h
  refine ⟨_, rfl, ((sorted_perm _).pairwise_iff (fun {_ _} hne => Ne.symm hne)).2 (Maps.fit_apart (Maps.int_keyed hk) F), fun p hp => ?_⟩
  obtain ⟨x, hx, rfl⟩ := List.mem_map.1 (mem_sorted.1 hp)
  obtain ⟨y, hy⟩ := F.reads x hx
  rw [WideElems.rg_of hy]
  obtain ⟨g, hg, _, e⟩ := key_is hk (WideElems.rd_key hy)
  exact ⟨g, hg, e⟩
theorem key_eq {g g' : Nat} (h : (Lit.int .u8 g) = (Lit.int .u8 g')) : g = g' := by injection h with _ h; omega
theorem key_ne {g g' : Nat} (h : g ≠ g') : (Lit.int .u8 g) ≠ (Lit.int .u8 g') := fun e => h (key_eq e)
theorem u8_key (g : Nat) : WideAt.IsKeyLit (Lit.int .u8 g) := trivial
theorem has_iff {H : Type} (es : List (Lit × DataW H)) (g : Nat) : Maps.has (.map es) (.int .u8 g) = true ↔ ∃ p ∈ es, p.1 = .int .u8 g := by
  rw [Maps.has_eq, List.any_eq_true]
  constructor
  · rintro ⟨p, hp, h⟩
    exact ⟨p, hp, WideAt.sameKey_eq h⟩
  · rintro ⟨p, hp, h⟩
    exact ⟨p, hp, by rw [h]; exact WideAt.sameKey_self (u8_key g)⟩
/-- the number of entries -/
theorem size_cnt {D : DataW Unit} {n : Nat} (hk : P.underlying k = some (.int .u8)) (h : w.ownsMap P k (plainElem P e) b n D) (hf : ∀ g : Nat, g < 256 → Maps.has D (.int .u8 g) = (f g).isSome) : Maps.size D = cnt f 256 := by
  obtain ⟨es, rfl, hap, hkeys⟩ := M8.entries hk h
  let key : Lit × DataW Unit → Nat := fun p => match p.1 with | .int _ a => a.toNat | _ => 0
  have hkey : ∀ p ∈ es, key p < 256 ∧ p.1 = .int .u8 (key p : Nat) := fun p hp => by
    obtain ⟨g, hg, e⟩ := hkeys p hp
    have : key p = g := by show (match p.1 with | .int _ a => a.toNat | _ => 0) = g; rw [e]; rfl
    rw [this]; exact ⟨hg, e⟩
  have hnd : (es.map key).Nodup := by
    rw [List.Nodup, List.pairwise_map]
    refine List.Pairwise.imp_of_mem (fun {p q} hp hq hne heq => hne ?_) hap
    rw [(hkey p hp).2, (hkey q hq).2, heq]
  have hnd2 : ((List.range 256).filter fun i => (f i).isSome).Nodup := List.Pairwise.filter _ List.nodup_range
  have hp : (es.map key).Perm ((List.range 256).filter fun i => (f i).isSome) := (List.perm_ext_iff_of_nodup hnd hnd2).2 fun x => by
    rw [List.mem_map, List.mem_filter, List.mem_range]
    constructor
    · rintro ⟨p, hp, rfl⟩
      refine ⟨(hkey p hp).1, ?_⟩
      rw [← hf _ (hkey p hp).1]
      exact (has_iff es _).2 ⟨p, hp, (hkey p hp).2⟩
    · rintro ⟨hx, h1⟩
      rw [← hf x hx] at h1
      obtain ⟨p, hp, e1⟩ := (has_iff es x).1 h1
      exact ⟨p, hp, (key_eq (e1.symm.trans (hkey p hp).2)).symm⟩
  have := hp.length_eq
  rw [List.length_map] at this
  exact this
theorem M8.len (h : M8 P k e w b f) {t : TypeId} (hk : P.underlying k = some (.int .u8)) (ht : P.underlying t = some (.map k e)) (ty : TypeId) : (Builtin.len_ #[t] ty #[.map (some b)]).run P w = .ok (.int .i64 (cnt f 256 : Nat)) w := by
  obtain ⟨D, h, hf⟩ := h
  rw [h.len ht ty, size_cnt hk h fun g hg => (hf g hg).1]
theorem M8.look (h : M8 P k e w b f) {t : TypeId} (hk : P.underlying k = some (.int .u8)) (ht : P.underlying t = some (.map k e)) (he : P.underlying e = some (.int .i64)) (hz : (zeroValue e).run P w = .ok (.int .i64 0) w) {g : Nat} (hg : g < 256) :
    (Instr.lookup t (.map (some b)) (.int .u8 g) true).run P w = .ok (.tuple #[.int .i64 ((f g).getD 0 : Nat), .bool (f g).isSome]) w := by
  obtain ⟨D, h, hf⟩ := h
  obtain ⟨v, ps, hrun, hv⟩ := h.look_ok (Maps.int_keyed hk) ht hz (zd := .lit (.int .i64 0)) (zp := []) (plainElem_int he (by decide)) (Maps.keyOf_int_mk hk (u8_wf hg))
  obtain ⟨h1, h2⟩ := hf g hg
  rw [h2] at hv
  obtain ⟨a, rfl, e1, _⟩ := plainElem_int_inv he hv
  simp only [Prod.mk.injEq, DataW.lit.injEq, Lit.int.injEq, true_and] at e1
  rw [hrun, h1, e1.1]
theorem M8.put (h : M8 P k e w b f) {t : TypeId} (hk : P.underlying k = some (.int .u8)) (ht : P.underlying t = some (.map k e)) (he : P.underlying e = some (.int .i64)) {g : Nat} (hg : g < 256) (v : Nat) (hv : v < 1000) :
    ∃ w', (Instr.mapUpdate t (.map (some b)) (.int .u8 g) (.int .i64 v)).run P w = .ok () w' ∧ M8 P k e w' b (fun i => if i = g then some v else f i) ∧ w.grownBy w' (some b) := by
  obtain ⟨D, h, hf⟩ := h
  have hD : Maps.IsMap D := by obtain ⟨es, e, _⟩ := h.entries (Maps.int_keyed hk); exact ⟨es, e⟩
  have hsz := size_cnt hk h fun g hg => (hf g hg).1
  have hcl := cnt_le f 256
  obtain ⟨w', hrun, h', hg'⟩ := h.update (Maps.int_keyed hk) ht (by unfold maxLen; omega) (Maps.keyOf_int_mk hk (u8_wf hg)) (val := .int .i64 v) (d := .lit (.int .i64 v)) (ps := []) (plainElem_int he (WalkArith.wf_i64 (by omega)))
  refine ⟨w', hrun, ⟨_, tight h', fun x hx => ?_⟩, hg'⟩
  show _ = ((if x = g then some v else f x) : Option Nat).isSome ∧ _ = DataW.lit (.int .i64 (((if x = g then some v else f x) : Option Nat).getD 0 : Nat))
  by_cases hxg : x = g
  · subst hxg
    rw [if_pos rfl, Maps.has_put_same hD (u8_key x), Maps.atKey_put_same hD (u8_key x)]
    exact ⟨rfl, rfl⟩
  · rw [if_neg hxg, Maps.has_put_other (key_ne hxg), Maps.atKey_put_other (key_ne hxg)]
    exact hf x hx
/-- the entries at v are struck -/
def strike (f : Nat → Option Nat) (v : Nat) : Nat → Option Nat := fun g => if f g = some v then none else f g
def pdAt (v : Nat) (_ : Lit) (d : DataW Unit) : Bool := match d with | .lit (.int .i64 a) => decide (a = v) | _ => false
theorem M8.struck {D : DataW Unit} {n : Nat} (hk : P.underlying k = some (.int .u8)) (he : P.underlying e = some (.int .i64)) (h0 : w.ownsMap P k (plainElem P e) b n D) (hf : ∀ g : Nat, g < 256 → Maps.has D (.int .u8 g) = (f g).isSome ∧ D.atKey (.int .u8 g) (.lit (.int .i64 0)) = .lit (.int .i64 ((f g).getD 0 : Nat))) (v : Nat)
    {w' : World} (h : w'.ownsMap P k (plainElem P e) b n (Lib.deleteFuncD (pdAt v) D)) : M8 P k e w' b (strike f v) := by
  obtain ⟨es, rfl, hap, hkeys⟩ := M8.entries hk h0
  refine ⟨_, tight h, fun g hg => ?_⟩
  have hat : ∀ p ∈ es, p.1 = .int .u8 g → (f g).isSome = true ∧ p.2 = .lit (.int .i64 ((f g).getD 0 : Nat)) := fun p hp e1 => by
    obtain ⟨h1, h2⟩ := hf g hg
    refine ⟨by rw [← h1]; exact (has_iff es g).2 ⟨p, hp, e1⟩, ?_⟩
    rw [← h2, ← e1]
    exact (WideAt.atKey_mem _ (by rw [e1]; exact u8_key g) hap hp).symm
  have hpd : ∀ p ∈ es, p.1 = .int .u8 g → pdAt v p.1 p.2 = decide (f g = some v) := fun p hp e1 => by
    obtain ⟨h1, h2⟩ := hat p hp e1
    rw [h2]
    obtain ⟨a, ha⟩ := Option.isSome_iff_exists.1 h1
    rw [ha]
    simp only [pdAt, Option.getD_some, Option.some.injEq]
    exact decide_eq_decide.2 (by omega)
  show Maps.has (DataW.map (es.filter fun p => !pdAt v p.1 p.2)) _ = _ ∧ (DataW.map (es.filter fun p => !pdAt v p.1 p.2)).atKey _ _ = _
  unfold strike
  by_cases hfg : f g = some v
  · rw [if_pos hfg]
    have hno : Maps.has (DataW.map (es.filter fun p => !pdAt v p.1 p.2)) (.int .u8 g) = false := by
      cases hh : Maps.has (DataW.map (es.filter fun p => !pdAt v p.1 p.2)) (.int .u8 g) with
      | false => rfl
      | true =>
        obtain ⟨p, hp, e1⟩ := (has_iff _ g).1 hh
        obtain ⟨hp, h2⟩ := List.mem_filter.1 hp
        rw [hpd p hp e1] at h2
        simp [hfg] at h2
    refine ⟨hno, ?_⟩
    simp only [DataW.atKey]
    cases hfd : (es.filter fun p => !pdAt v p.1 p.2).find? (fun p => p.1.sameKey (.int .u8 g)) with
    | none => rfl
    | some p =>
      have h1 := List.mem_of_find?_eq_some hfd
      have h2 := List.find?_some hfd
      rw [(has_iff _ g).2 ⟨p, h1, WideAt.sameKey_eq h2⟩] at hno
      cases hno
  · rw [if_neg hfg]
    obtain ⟨h1, h2⟩ := hf g hg
    rw [← h1, ← h2]
    refine ⟨?_, ?_⟩
    · cases hh : Maps.has (DataW.map es) (.int .u8 g) with
      | false =>
        cases hh2 : Maps.has (DataW.map (es.filter fun p => !pdAt v p.1 p.2)) (.int .u8 g) with
        | false => rfl
        | true =>
          obtain ⟨p, hp, e1⟩ := (has_iff _ g).1 hh2
          rw [(has_iff es g).2 ⟨p, (List.mem_filter.1 hp).1, e1⟩] at hh
          cases hh
      | true =>
        obtain ⟨p, hp, e1⟩ := (has_iff _ g).1 hh
        exact (has_iff _ g).2 ⟨p, List.mem_filter.2 ⟨hp, by rw [hpd p hp e1]; simp [hfg]⟩, e1⟩
    · simp only [DataW.atKey]
      have e2 : ∀ l : List (Lit × DataW Unit), (∀ p ∈ l, p ∈ es) → (l.filter fun p => !pdAt v p.1 p.2).find? (fun p => p.1.sameKey (.int .u8 g)) = l.find? (fun p => p.1.sameKey (.int .u8 g)) := by
        intro l
        induction l with
        | nil => intro _; rfl
        | cons q l ih =>
          intro hl
          have ih := ih fun p hp => hl p (List.mem_cons_of_mem _ hp)
          cases hs : q.1.sameKey (.int .u8 g) with
          | true =>
            have : pdAt v q.1 q.2 = false := by rw [hpd q (hl q (by simp)) (WideAt.sameKey_eq hs)]; simp [hfg]
            simp [List.filter_cons, this, hs]
          | false =>
            rw [List.filter_cons]
            split
            · simp [hs, ih]
            · simp [hs, ih]
      rw [e2 es fun _ h => h]
end
end Go.Proofs.YtolfjbodgdjbjaaGreat.Br
