/-
  Both ends of a ring over one page: what stands between two calls, and the calls.
-/
import Derived.Test.YtgnihllnjaagcaaRgG
import Derived.Test.YtgnihllnjaagcaaRgS
import Derived.Test.YtgnihllnjaagcaaRgT
set_option linter.unusedSimpArgs false
set_option linter.unusedVariables false
namespace Go.Proofs.Ytgnihllnjaagcaa
open Go.RowKit
set_option maxHeartbeats 1000000

def m16 (n : Nat) : Int := ((n % 65536 : Nat) : Int)
theorem m16_lo (n : Nat) : 0 ≤ m16 n := by unfold m16; omega
theorem m16_hi (n : Nat) : m16 n ≤ 65535 := by unfold m16; omega
theorem m16_sub (a b : Nat) (h : b ≤ a) (h2 : a - b < 65536) : IntKind.u16.wrap (m16 a - m16 b) = ((a - b : Nat) : Int) := by rw [wrap16]; unfold m16; omega
theorem m16_next (n : Nat) : IntKind.u16.wrap (m16 n + 1) = m16 (n + 1) := by rw [wrap16]; unfold m16; omega
theorem m16_mod (n : Nat) : (m16 n).toNat % 8 = n % 8 := by unfold m16; omega
/-- the back's numbers: laid d, taken t, seen s -/
def gg (d t s : Nat) : Rg := ⟨0, m16 t, m16 d, m16 s⟩
theorem gg_ok (d t s : Nat) (h0 : d ≤ t) (h1 : t ≤ d + 8) (h2 : t ≤ s) (h3 : s ≤ t + 8) : (gg d t s).ok := by
  refine ⟨m16_lo _, m16_hi _, m16_lo _, m16_hi _, m16_lo _, m16_hi _, ?_, ?_⟩
  · show IntKind.u16.wrap (m16 s - m16 t) ≤ 8; rw [m16_sub _ _ h2 (by omega)]; omega
  · show IntKind.u16.wrap (m16 t - m16 d) ≤ 8; rw [m16_sub _ _ h0 (by omega)]; omega
theorem gg_can (d s : Nat) (h2 : d < s) (h3 : s ≤ d + 8) : (gg d d s).can = true := by
  have e : (gg d d s).wait ≠ 0 := by show IntKind.u16.wrap (m16 s - m16 d) ≠ 0; rw [m16_sub _ _ (by omega) (by omega)]; omega
  have e2 : (gg d d s).opn ≠ 8 := by show IntKind.u16.wrap (m16 d - m16 d) ≠ 8; rw [m16_sub _ _ (by omega) (by omega)]; omega
  unfold Rg.can; simp [e, e2]
theorem gg_cant (d : Nat) : (gg d d d).can = false := by
  have e : (gg d d d).wait = 0 := by show IntKind.u16.wrap (m16 d - m16 d) = 0; rw [m16_sub _ _ (by omega) (by omega)]; omega
  unfold Rg.can; simp [e]
theorem gg_ahead (p d : Nat) (h : d ≤ p) (h2 : p ≤ d + 8) : ringAhead (m16 p) (m16 d) = (((p - d : Nat) : Int), false) := by
  unfold ringAhead; rw [m16_sub _ _ h (by omega), if_neg (by omega)]
theorem gg_looked (d s p : Nat) (h : d ≤ p) : ({ mfn := (gg d d s).mfn, tk := m16 d, ld := (gg d d s).ld, sn := IntKind.u16.wrap (m16 d + ((p - d : Nat) : Int)) } : Rg) = gg d d p := by
  unfold gg
  simp only [Rg.mk.injEq, true_and]
  rw [wrap16]; unfold m16; omega
theorem gg_took (d s : Nat) : (gg d d s).took = gg d (d + 1) s := by
  unfold Rg.took gg
  simp only [Rg.mk.injEq, true_and, and_true]
  exact m16_next d
theorem gg_laid (d s : Nat) : (gg d (d + 1) s).laid = gg (d + 1) (d + 1) s := by
  unfold Rg.laid gg
  simp only [Rg.mk.injEq, true_and, and_true]
  exact m16_next d
theorem gg_opn (d s : Nat) : (gg d (d + 1) s).opn ≠ 0 := by
  show IntKind.u16.wrap (m16 (d + 1) - m16 d) ≠ 0
  rw [m16_sub _ _ (by omega) (by omega)]; omega
theorem two_lo (bs : Nat → UInt8) (o n : Nat) : lay bs o (two16 (m16 n)) o = UInt8.ofNat (n % 65536 % 256) := by
  rw [lay_in (by omega) (by rw [two16_len]; omega), Nat.sub_self, two16_get0]; rfl
theorem two_hi (bs : Nat → UInt8) (o n : Nat) : lay bs o (two16 (m16 n)) (o + 1) = UInt8.ofNat (n % 65536 / 256) := by
  rw [lay_in (by omega) (by rw [two16_len]; omega), Nat.add_sub_cancel_left, two16_get1]; rfl
theorem two_out (bs : Nat → UInt8) (o k : Nat) (x : Int) (h : k < o ∨ o + 2 ≤ k) : lay bs o (two16 x) k = bs k := lay_out (by rw [two16_len]; exact h)
theorem slot_in (bs : Nat → UInt8) (o n id k : Nat) (h : k < n) : lay bs o (slotV n id) (o + k) = UInt8.ofNat ((id + k) % 256) := by
  rw [lay_in (by omega) (by rw [slotV_len]; omega), Nat.add_sub_cancel_left, slotV_get _ _ _ h]
theorem slot_out (bs : Nat → UInt8) (o n id k : Nat) (h : k < o ∨ o + n ≤ k) : lay bs o (slotV n id) k = bs k := lay_out (by rw [slotV_len]; exact h)

/-- what stands in the page: p put, d answered, o got -/
structure Pg (bs : Nat → UInt8) (p d o : Nat) : Prop where
  e0 : bs 0 = UInt8.ofNat (p % 65536 % 256)
  e1 : bs 1 = UInt8.ofNat (p % 65536 / 256)
  e2 : bs 2 = UInt8.ofNat (d % 65536 % 256)
  e3 : bs 3 = UInt8.ofNat (d % 65536 / 256)
  rq : ∀ q, d ≤ q → q < p → ∀ k, k < 16 → bs (16 + 16 * (q % 8) + k) = UInt8.ofNat ((q % 256 + k) % 256)
  rs : ∀ q, o ≤ q → q < d → ∀ k, k < 8 → bs (144 + 8 * (q % 8) + k) = UInt8.ofNat ((q % 256 + k) % 256)
theorem Pg.zero : Pg (fun _ => 0) 0 0 0 := ⟨rfl, rfl, rfl, rfl, fun q _ h => by omega, fun q _ h => by omega⟩
theorem Pg.put {bs : Nat → UInt8} {p d o : Nat} (h : Pg bs p d o) (hp : p < d + 8) : Pg (lay (lay bs (16 + 16 * (p % 8)) (slotV 16 (p % 256))) 0 (two16 (m16 (p + 1)))) (p + 1) d o := by
  refine ⟨two_lo _ _ _, two_hi _ 0 _, ?_, ?_, fun q h0 h1 k hk => ?_, fun q h0 h1 k hk => ?_⟩
  · rw [two_out _ _ _ _ (by omega), slot_out _ _ _ _ _ (by omega)]; exact h.e2
  · rw [two_out _ _ _ _ (by omega), slot_out _ _ _ _ _ (by omega)]; exact h.e3
  · rw [two_out _ _ _ _ (by omega)]
    by_cases e : q = p
    · subst e; exact slot_in _ _ _ _ _ hk
    · rw [slot_out _ _ _ _ _ (by omega)]; exact h.rq q h0 (by omega) k hk
  · rw [two_out _ _ _ _ (by omega), slot_out _ _ _ _ _ (by omega)]; exact h.rs q h0 h1 k hk
theorem Pg.ans {bs : Nat → UInt8} {p d o : Nat} (h : Pg bs p d o) (hp : d < o + 8) : Pg (lay (lay bs (144 + 8 * (d % 8)) (slotV 8 (d % 256))) 2 (two16 (m16 (d + 1)))) p (d + 1) o := by
  refine ⟨?_, ?_, two_lo _ _ _, two_hi _ 2 _, fun q h0 h1 k hk => ?_, fun q h0 h1 k hk => ?_⟩
  · rw [two_out _ _ _ _ (by omega), slot_out _ _ _ _ _ (by omega)]; exact h.e0
  · rw [two_out _ _ _ _ (by omega), slot_out _ _ _ _ _ (by omega)]; exact h.e1
  · rw [two_out _ _ _ _ (by omega), slot_out _ _ _ _ _ (by omega)]; exact h.rq q (by omega) h1 k hk
  · rw [two_out _ _ _ _ (by omega)]
    by_cases e : q = d
    · subst e; exact slot_in _ _ _ _ _ hk
    · rw [slot_out _ _ _ _ _ (by omega)]; exact h.rs q h0 (by omega) k hk
theorem Pg.get {bs : Nat → UInt8} {p d o : Nat} (h : Pg bs p d o) : Pg bs p d (o + 1) := ⟨h.e0, h.e1, h.e2, h.e3, h.rq, fun q h0 h1 => h.rs q (by omega) h1⟩
theorem Pg.req {bs : Nat → UInt8} {p d o : Nat} (h : Pg bs p d o) (hp : d < p) : (pgFr bs).part (16 + 16 * (d % 8)) 16 = slotV 16 (d % 256) := by
  refine List.ext_getElem (by rw [part_len, slotV_len]) fun k h1 h2 => ?_
  rw [part_len] at h1
  have a := part_get (pgFr bs) (16 + 16 * (d % 8)) 16 k h1
  have b := slotV_get 16 (d % 256) k h1
  rw [List.getD, List.getElem?_eq_getElem (by rw [part_len]; exact h1), Option.getD_some] at a
  rw [List.getD, List.getElem?_eq_getElem (by rw [slotV_len]; exact h1), Option.getD_some] at b
  rw [a, b]
  exact h.rq d (by omega) hp k h1
theorem Pg.rsp {bs : Nat → UInt8} {p d o : Nat} (h : Pg bs p d o) (hp : o < d) : (pgFr bs).part (144 + 8 * (o % 8)) 8 = slotV 8 (o % 256) := by
  refine List.ext_getElem (by rw [part_len, slotV_len]) fun k h1 h2 => ?_
  rw [part_len] at h1
  have a := part_get (pgFr bs) (144 + 8 * (o % 8)) 8 k h1
  have b := slotV_get 8 (o % 256) k h1
  rw [List.getD, List.getElem?_eq_getElem (by rw [part_len]; exact h1), Option.getD_some] at a
  rw [List.getD, List.getElem?_eq_getElem (by rw [slotV_len]; exact h1), Option.getD_some] at b
  rw [a, b]
  exact h.rs o (by omega) hp k h1
theorem Pg.idx {bs : Nat → UInt8} {p d o : Nat} (h : Pg bs p d o) : [bs 2, bs 3] = two16 (m16 d) := by rw [h.e2, h.e3]; rfl
theorem Pg.idx_ne {bs : Nat → UInt8} {p d o : Nat} (h : Pg bs p d o) (h1 : o < d) (h2 : d ≤ o + 8) : ([bs 2, bs 3] == two16 (m16 o)) = false := by
  rw [h.e2, h.e3]
  unfold two16 m16
  have hb : ∀ a b : Nat, a < 256 → b < 256 → a ≠ b → UInt8.ofNat a ≠ UInt8.ofNat b := fun a b ha hb hne e => hne (by
    have := congrArg UInt8.toNat e
    rw [UInt8.toNat_ofNat', UInt8.toNat_ofNat'] at this
    omega)
  rw [Int.toNat_natCast]
  by_cases e : d % 65536 % 256 = o % 65536 % 256
  · have hh := hb (d % 65536 / 256) (o % 65536 / 256) (by omega) (by omega) (by omega)
    rw [List.cons_beq_cons, List.cons_beq_cons, beq_eq_false_iff_ne.2 hh]; simp
  · have hh := hb (d % 65536 % 256) (o % 65536 % 256) (by omega) (by omega) e
    rw [List.cons_beq_cons, beq_eq_false_iff_ne.2 hh]; simp

/-- both ends between two calls: p put, d answered, t taken, o got, s seen -/
structure SF (w wr : World) (B V G K F : Nat) (S : Nat → Prop) (bs : Nat → UInt8) (p d t o s n : Nat) : Prop where
  sv : SV w wr B V G K S bs (gg d t s) n
  f : RF wr F B (m16 p) (m16 o)
  pg : Pg bs p d o
  far : w.heap.size ≤ F
  fo : ¬ vfoot V G S F
  ord : o ≤ d ∧ d ≤ t ∧ t ≤ s ∧ s ≤ p ∧ p ≤ o + 8
section
variable {w wr W : World} {B V G K F : Nat} {S : Nat → Prop} {bs bs2 : Nat → UInt8} {p d t o s n : Nat}
theorem SF.more (h : SF w wr B V G K F S bs p d t o s n) (hg : wr.grownBy W none) : SF w W B V G K F S bs p d t o s n :=
  ⟨h.sv.more hg, h.f.grown hg (by simp), h.pg, h.far, h.fo, h.ord⟩
theorem SF.fb (h : SF w wr B V G K F S bs p d t o s n) : F ≠ B := (Row.pm_ne h.f h.sv.m (by decide)).symm
theorem SF.fk (h : SF w wr B V G K F S bs p d t o s n) : F ≠ K := Row.type_ne h.f h.sv.k (by decide)
theorem SF.g (h : SF w wr B V G K F S bs p d t o s n) : w.grownBy wr none := h.sv.g
theorem SF.newB (h : SF w wr B V G K F S bs p d t o s n) {q : Nat} (hq : wr.heap.size ≤ q) : q ≠ B := fun e => h.sv.off hq (.inr (.inr (.inl e)))
/-- the back's side has turned -/
theorem SF.back (h : SF w wr B V G K F S bs p d t o s n) (hc : Chg (fun k => k = V ∨ k = G ∨ k = B ∨ k = K) wr W) : RF W F B (m16 p) (m16 o) := h.f.chg hc (by
  rintro (e | e | e | e)
  · exact h.fo (.inl e)
  · exact h.fo (.inr (.inl e))
  · exact h.fb e
  · exact h.fk e)
theorem SF.front (h : SF w wr B V G K F S bs p d t o s n) (hm : PM W B (rgM bs2)) (hc : Chg (fun k => k = B ∨ k = F) wr W) : SV w W B V G K S bs2 (gg d t s) n := by
  obtain ⟨f, hf⟩ := h.sv.v
  refine ⟨hm, ⟨f, hf.chg hc fun q hq e => ?_⟩, h.sv.k.chg hc ?_, h.sv.kk, h.sv.far, hc.grown h.sv.g ?_⟩
  · rcases e with rfl | rfl
    · rcases hq with e | e | e
      · exact hf.VB e.symm
      · exact hf.GB e.symm
      · exact hf.sB e
    · exact h.fo hq
  · rintro (e | e)
    · exact h.sv.kk.kb e
    · exact h.fk e.symm
  · rintro q (rfl | rfl)
    · exact h.sv.far.2.2.1
    · exact h.far
end
section
variable (w wr : World) (B V G K F : Nat) (S : Nat → Prop) (bs : Nat → UInt8) (p d t o s n : Nat)
theorem cRoom (h : SF w wr B V G K F S bs p d t o s n) : Calls Try.prog 48 #[.pointer (some ⟨F, 0, none⟩)] wr fun e w' => e = .returned (.int .i64 (8 - ((p : Int) - o))) ∧ wr.grownBy w' none := by
  have hr := fRoom F B _ _ wr h.f
  obtain ⟨a, b, c, e, f⟩ := h.ord
  unfold roomV at hr
  rw [m16_sub _ _ (by omega) (by omega), show ((p - o : Nat) : Int) = (p : Int) - o by omega] at hr
  exact hr
theorem cPut_full (h : SF w wr B V G K F S bs p d t o s n) (gs : Nat) (hp : p = o + 8) : Calls Try.prog 42 #[.pointer (some ⟨F, 0, none⟩), .slice (some ⟨gs, 0, none⟩) 16 16] wr fun e w' => e = .returned (.int .i64 71) ∧ SF w w' B V G K F S bs p d t o s n :=
  (fPut_full F B _ _ wr h.f (m16_lo _) (m16_hi _) _ 16 16 rfl (by unfold roomV; rw [m16_sub _ _ (by omega) (by omega)]; omega)).mono fun e w' he => ⟨he.1, h.more he.2⟩
theorem cPut_yes (h : SF w wr B V G K F S bs p d t o s n) (gs : Nat) (hb : IsBytes wr B (.slice (some ⟨gs, 0, none⟩) 16 16) (slotV 16 (p % 256))) (hp : p < o + 8) : Calls Try.prog 42 #[.pointer (some ⟨F, 0, none⟩), .slice (some ⟨gs, 0, none⟩) 16 16] wr fun e w' => e = .returned (.int .i64 0) ∧ ∃ bs2, SF w w' B V G K F S bs2 (p + 1) d t o s n := by
  obtain ⟨a, b, c, e, f⟩ := h.ord
  have hc := fPut_yes F B _ _ wr (rgM bs) 0 h.f h.sv.m (rgM_ok bs) (m16_lo _) (m16_hi _) (some ⟨gs, 0, none⟩) 16 (slotV 16 (p % 256)) (slotV_len _ _) hb (by unfold roomV; rw [m16_sub _ _ (by omega) (by omega)]; omega)
  have e1 : (16 + 16 * (m16 p % 8) : Int) = ((16 + 16 * (p % 8) : Nat) : Int) := by unfold m16; omega
  rw [e1, m16_next, rgM_write (by rw [slotV_len]; omega)] at hc
  have e2 := rgM_write (bs := lay bs (16 + 16 * (p % 8)) (slotV 16 (p % 256))) (o := 0) (l := two16 (m16 (p + 1))) (by rw [two16_len]; omega)
  rw [show ((0 : Nat) : Int) = 0 from rfl] at e2
  simp only [e2] at hc
  exact hc.mono fun e w' he => ⟨he.1, _, h.front he.2.m he.2.c, he.2.f, h.pg.put (by omega), h.far, h.fo, by omega⟩
theorem cLook (h : SF w wr B V G K F S bs p d d o s n) (hn : (n : Int) < 9223372036854775807) : Calls Try.prog 44 #[.pointer (some ⟨K, 0, none⟩), .pointer (some ⟨V, 0, none⟩)] wr fun e w' => (∃ v, e = .returned v) ∧ SF w w' B V G K F S bs p d d o p (n + 1) := by
  obtain ⟨a, b, c, e, f⟩ := h.ord
  have hc := svLook w wr B V G K S bs (gg d d s) n h.sv (gg_ok d d s (by omega) (by omega) (by omega) (by omega)) rfl (p % 65536) (by omega) h.pg.e0 h.pg.e1 hn
  rw [show (gg d d s).tk = m16 d from rfl, show ((p % 65536 : Nat) : Int) = m16 p from rfl, gg_ahead p d (by omega) (by omega)] at hc
  rw [gg_looked d s p (by omega)] at hc
  exact hc.mono fun e w' he => ⟨⟨_, he.1⟩, he.2.1, h.back he.2.2, h.pg, h.far, h.fo, by omega⟩
theorem cTake_no (h : SF w wr B V G K F S bs p d d o d n) : Calls Try.prog 45 #[.pointer (some ⟨K, 0, none⟩), .pointer (some ⟨V, 0, none⟩)] wr fun e w' => e = .returned (.tuple #[.slice none 0 0, .int .i64 5]) ∧ SF w w' B V G K F S bs p d d o d n := by
  obtain ⟨f, hf⟩ := h.sv.v
  exact (rgTake_no V G B S [] n 0 f K _ wr hf h.sv.k (gg_cant d)).mono fun e w' he => ⟨he.1, h.more he.2⟩
theorem cTake (h : SF w wr B V G K F S bs p d d o s n) (hn : (n : Int) < 9223372036854775807) (hd : d < s) : Calls Try.prog 45 #[.pointer (some ⟨K, 0, none⟩), .pointer (some ⟨V, 0, none⟩)] wr fun e w' =>
    ∃ q c, e = .returned (.tuple #[.slice q 16 c, .int .i64 0]) ∧ KeptBytes w' (fun k => wr.heap.size ≤ k ∧ k < w'.heap.size) q (slotV 16 (d % 256)) ∧ SF w w' B V G K F S bs p d (d + 1) o s (n + 1) := by
  obtain ⟨a, b, c, e, f⟩ := h.ord
  have hc := svTake w wr B V G K S bs (gg d d s) n h.sv (gg_ok d d s (by omega) (by omega) (by omega) (by omega)) rfl hn (gg_can d s hd (by omega))
  rw [show (gg d d s).tk = m16 d from rfl, m16_mod, h.pg.req (by omega), gg_took] at hc
  refine hc.mono fun e w' ⟨v, he, ⟨q, c, hv, hk⟩, hs, hch⟩ => ⟨q, c, ?_, hk, hs, h.back hch, h.pg, h.far, h.fo, by omega⟩
  rw [he, hv, slotV_len]
theorem cAnswer (h : SF w wr B V G K F S bs p d (d + 1) o s n) (gs : Nat) (hb : IsBytes wr B (.slice (some ⟨gs, 0, none⟩) 8 8) (slotV 8 (d % 256))) : Calls Try.prog 46 #[.pointer (some ⟨K, 0, none⟩), .pointer (some ⟨V, 0, none⟩), .slice (some ⟨gs, 0, none⟩) 8 8] wr fun e w' =>
    e = .returned (.int .i64 0) ∧ (∃ bs2, SF w w' B V G K F S bs2 p (d + 1) (d + 1) o s n) ∧ Chg (fun k => k = B ∨ k = K) wr w' := by
  obtain ⟨a, b, c, e, f⟩ := h.ord
  have hc := svAnswer w wr B V G K S bs (gg d (d + 1) s) n h.sv (gg_ok d (d + 1) s (by omega) (by omega) (by omega) (by omega)) rfl (some ⟨gs, 0, none⟩) 8 (slotV 8 (d % 256)) (slotV_len _ _) hb (gg_opn d s)
  rw [show (gg d (d + 1) s).ld = m16 d from rfl, m16_mod, gg_laid, show (gg (d + 1) (d + 1) s).ld = m16 (d + 1) from rfl] at hc
  exact hc.mono fun e w' he => ⟨he.1, ⟨_, he.2.1, h.back (he.2.2.mono fun k hk => .inr (.inr hk)), h.pg.ans (by omega), h.far, h.fo, by omega⟩, he.2.2⟩
theorem cGet (h : SF w wr B V G K F S bs p d t o s n) (hd : o < d) : Calls Try.prog 47 #[.pointer (some ⟨F, 0, none⟩)] wr fun e w' =>
    ∃ q c, e = .returned (.tuple #[.slice q 8 c, .int .i64 0]) ∧ KeptBytes w' (fun k => wr.heap.size ≤ k ∧ k < w'.heap.size) q (slotV 8 (o % 256)) ∧ SF w w' B V G K F S bs p d t (o + 1) s n := by
  obtain ⟨a, b, c, e, f⟩ := h.ord
  have hc := fGet_yes F B _ _ wr bs h.f h.sv.m (m16_lo _) (m16_hi _) (by rw [m16_sub _ _ (by omega) (by omega)]; omega) (h.pg.idx_ne hd (by omega))
  rw [m16_mod, h.pg.rsp hd, m16_next] at hc
  refine hc.mono fun e w' ⟨v, he, ⟨q, c, hv, hk⟩, hs⟩ => ⟨q, c, ?_, hk, h.front hs.m (hs.c.mono fun k hk => .inr hk), hs.f, h.pg.get, h.far, h.fo, by omega⟩
  rw [he, hv, slotV_len]
theorem cGet_none (h : SF w wr B V G K F S bs p d t o s n) (hd : o = p) : Calls Try.prog 47 #[.pointer (some ⟨F, 0, none⟩)] wr fun e w' => e = .returned (.tuple #[.slice none 0 0, .int .i64 5]) ∧ SF w w' B V G K F S bs p d t o s n :=
  (fGet_none F B _ _ wr h.f (by rw [m16_sub _ _ (by omega) (by omega)]; omega)).mono fun e w' he => ⟨he.1, h.more he.2⟩
theorem cGet_short (h : SF w wr B V G K F S bs p d t o s n) (hd : o < p) (hq : o = d) : Calls Try.prog 47 #[.pointer (some ⟨F, 0, none⟩)] wr fun e w' => e = .returned (.tuple #[.slice none 0 0, .int .i64 3]) ∧ SF w w' B V G K F S bs p d t o s n := by
  obtain ⟨a, b, c, e, f⟩ := h.ord
  refine (fGet_short F B _ _ wr bs h.f h.sv.m (m16_lo _) (m16_hi _) (by rw [m16_sub _ _ (by omega) (by omega)]; omega) ?_).mono fun e w' he => ⟨he.1, h.more he.2⟩
  rw [h.pg.idx, hq]
  simp
end
end Go.Proofs.Ytgnihllnjaagcaa
