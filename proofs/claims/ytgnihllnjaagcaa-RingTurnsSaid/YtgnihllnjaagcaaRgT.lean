/-
  A back end over a view without rewrites of a page that is known: its calls.
-/
import Derived.Test.YtgnihllnjaagcaaRgB
import Derived.Test.YtgnihllnjaagcaaRgOne
set_option linter.unusedSimpArgs false
set_option linter.unusedVariables false
namespace Go.Proofs.Ytgnihllnjaagcaa
open Go.RowKit
set_option maxHeartbeats 1000000

structure SV (w wr : World) (B V G K : Nat) (S : Nat → Prop) (bs : Nat → UInt8) (g : Rg) (n : Nat) : Prop where
  m : PM wr B (rgM bs)
  v : ∃ f, VV wr V G B S [] n 0 f
  k : RB wr K g
  kk : RgK K V G B S
  far : w.heap.size ≤ V ∧ w.heap.size ≤ G ∧ w.heap.size ≤ B ∧ w.heap.size ≤ K
  g : w.grownBy wr none
section
variable {w wr W : World} {B V G K : Nat} {S : Nat → Prop} {bs bs2 : Nat → UInt8} {g g2 : Rg} {n : Nat}
theorem SV.more (h : SV w wr B V G K S bs g n) (hg : wr.grownBy W none) : SV w W B V G K S bs g n := by
  obtain ⟨f, hf⟩ := h.v
  exact ⟨h.m.grown hg (by simp), ⟨f, hf.grown hg⟩, h.k.grown hg (by simp), h.kk, h.far, h.g.trans hg⟩
theorem SV.read (h : SV w wr B V G K S bs g n) (hr : RgRead wr V G B S [] n 0 (rgM bs) K g2 W) : SV w W B V G K S bs g2 (n + 1) :=
  ⟨hr.mach, hr.view, hr.back, h.kk, h.far, hr.chg.grown h.g (by
    obtain ⟨a, b, c, d⟩ := h.far
    rintro q (rfl | rfl | rfl | rfl) <;> assumption)⟩
theorem SV.mach (h : SV w wr B V G K S bs g n) (hm : PM W B (rgM bs2)) (hg : wr.grownBy W (some B)) : SV w W B V G K S bs2 g n := by
  obtain ⟨f, hf⟩ := h.v
  exact ⟨hm, ⟨f, hf.mach hg⟩, h.k.grown hg (by simpa using h.kk.kb), h.kk, h.far, h.g.andThen hg fun j e => .inl (by cases e; exact h.far.2.2.1)⟩
theorem SV.ans (h : SV w wr B V G K S bs g n) (ha : RgAns wr B K (rgM bs2) g2 W) : SV w W B V G K S bs2 g2 n := by
  obtain ⟨f, hf⟩ := h.v
  refine ⟨ha.mach, ⟨f, hf.chg ha.chg fun q hq e => ?_⟩, ha.back, h.kk, h.far, ha.chg.grown h.g ?_⟩
  · rcases e with rfl | rfl
    · rcases hq with e | e | e
      · exact hf.VB e.symm
      · exact hf.GB e.symm
      · exact hf.sB e
    · exact h.kk.kv hq
  · rintro q (rfl | rfl)
    · exact h.far.2.2.1
    · exact h.far.2.2.2
theorem SV.off (h : SV w wr B V G K S bs g n) {q : Nat} (hq : wr.heap.size ≤ q) : ¬ (q = V ∨ q = G ∨ q = B ∨ q = K) := by
  obtain ⟨f, hf⟩ := h.v
  have h1 := hf.foot_lt (.inl rfl)
  have h2 := hf.foot_lt (.inr (.inl rfl))
  have h3 := h.m.lt
  have h4 := h.k.lt
  omega
/-- another block of the caller's own turns -/
theorem SV.chg {D : Nat → Prop} (h : SV w wr B V G K S bs g n) (hc : Chg D wr W) (hD : ∀ q, D q → w.heap.size ≤ q ∧ q ≠ B ∧ q ≠ K ∧ ¬ vfoot V G S q) : SV w W B V G K S bs g n := by
  obtain ⟨f, hf⟩ := h.v
  exact ⟨h.m.chg hc fun e => (hD _ e).2.1 rfl, ⟨f, hf.chg hc fun q hq e => (hD q e).2.2.2 hq⟩, h.k.chg hc fun e => (hD _ e).2.2.1 rfl, h.kk, h.far, hc.grown h.g fun q e => (hD q e).1⟩
end
section
variable (w wr : World) (B V G K : Nat) (S : Nat → Prop) (bs : Nat → UInt8) (g : Rg) (n : Nat)
theorem svLook (h : SV w wr B V G K S bs g n) (hg : g.ok) (h0 : g.mfn = 0) (x : Nat) (hx : x < 65536) (e0 : bs 0 = UInt8.ofNat (x % 256)) (e1 : bs 1 = UInt8.ofNat (x / 256)) (hn : (n : Int) < 9223372036854775807) :
    Calls Try.prog 44 #[.pointer (some ⟨K, 0, none⟩), .pointer (some ⟨V, 0, none⟩)] wr fun e w' =>
      e = .returned (.tuple #[.int .i64 (ringAhead x g.tk).1, .bool (ringAhead x g.tk).2, .int .i64 0]) ∧ SV w w' B V G K S bs { g with sn := IntKind.u16.wrap (g.tk + (ringAhead x g.tk).1) } (n + 1) ∧ Chg (fun k => k = V ∨ k = G ∨ k = B ∨ k = K) wr w' := by
  obtain ⟨f, hf⟩ := h.v
  have hr : (rgM bs).read g.mfn 0 2 = ((pgFr bs).part 0 2, 0) := by
    rw [h0]; exact rgM_read (bs := bs) (o := 0) (n := 2) (by omega)
  have hl : g.look ((pgFr bs).part 0 2, 0) = ((ringAhead x g.tk).1, (ringAhead x g.tk).2, 0, { g with sn := IntKind.u16.wrap (g.tk + (ringAhead x g.tk).1) }) := by
    unfold Rg.look
    rw [if_pos rfl, word_of (by omega) hx e0 e1]
  have hc := rgLook V G B S [] n 0 f K g wr (rgM bs) 0 hf h.m (rgM_ok bs) h.k h.kk hg (by simp) hn (by simp)
  rw [show (rgM bs).rews (due [] n) = rgM bs from rfl, hr, hl] at hc
  exact hc.mono fun e w' he => ⟨he.1, h.read he.2, he.2.chg⟩
theorem svTake_no (h : SV w wr B V G K S bs g n) (hc : g.can = false) :
    Calls Try.prog 45 #[.pointer (some ⟨K, 0, none⟩), .pointer (some ⟨V, 0, none⟩)] wr fun e w' => e = .returned (.tuple #[.slice none 0 0, .int .i64 5]) ∧ SV w w' B V G K S bs g n := by
  obtain ⟨f, hf⟩ := h.v
  exact (rgTake_no V G B S [] n 0 f K g wr hf h.k hc).mono fun e w' he => ⟨he.1, h.more he.2⟩
theorem svTake (h : SV w wr B V G K S bs g n) (hg : g.ok) (h0 : g.mfn = 0) (hn : (n : Int) < 9223372036854775807) (hc : g.can = true) :
    Calls Try.prog 45 #[.pointer (some ⟨K, 0, none⟩), .pointer (some ⟨V, 0, none⟩)] wr fun e w' =>
      ∃ v, e = .returned (.tuple #[v, .int .i64 0]) ∧ FreshB wr ((pgFr bs).part (16 + 16 * (g.tk.toNat % 8)) 16) v w' ∧ SV w w' B V G K S bs g.took (n + 1) ∧ Chg (fun k => k = V ∨ k = G ∨ k = B ∨ k = K) wr w' := by
  obtain ⟨f, hf⟩ := h.v
  have hr : (rgM bs).read g.mfn g.reqAt 16 = ((pgFr bs).part (16 + 16 * (g.tk.toNat % 8)) 16, 0) := by
    have h1 := hg.t0
    rw [h0, show g.reqAt = ((16 + 16 * (g.tk.toNat % 8) : Nat) : Int) by unfold Rg.reqAt; omega]
    exact rgM_read (bs := bs) (o := 16 + 16 * (g.tk.toNat % 8)) (n := 16) (by omega)
  have hcl := rgTake_yes V G B S [] n 0 f K g wr (rgM bs) 0 hf h.m (rgM_ok bs) h.k h.kk hg (by simp) hn (by simp) hc
  rw [show (rgM bs).rews (due [] n) = rgM bs from rfl, hr] at hcl
  exact hcl.mono fun e w' ⟨v, he, hb, hx⟩ => ⟨v, he, hb, h.read hx, hx.chg⟩
theorem svAnswer (h : SV w wr B V G K S bs g n) (hg : g.ok) (h0 : g.mfn = 0) (pa : Option Addr) (cap : Nat) (l : List UInt8) (hl : l.length = 8) (hb : IsBytes wr B (.slice pa 8 cap) l) (ho : g.opn ≠ 0) :
    Calls Try.prog 46 #[.pointer (some ⟨K, 0, none⟩), .pointer (some ⟨V, 0, none⟩), .slice pa 8 cap] wr fun e w' =>
      e = .returned (.int .i64 0) ∧ SV w w' B V G K S (lay (lay bs (144 + 8 * (g.ld.toNat % 8)) l) 2 (two16 g.laid.ld)) g.laid n ∧ Chg (fun k => k = B ∨ k = K) wr w' := by
  obtain ⟨f, hf⟩ := h.v
  have hw : g.answer (rgM bs) l = (0, rgM (lay (lay bs (144 + 8 * (g.ld.toNat % 8)) l) 2 (two16 g.laid.ld)), g.laid) := by
    unfold Rg.answer
    have h1 := hg.l0
    rw [if_neg (by omega), if_neg ho, h0, show g.rspAt = ((144 + 8 * (g.ld.toNat % 8) : Nat) : Int) by unfold Rg.rspAt; omega, rgM_write (by omega)]
    have h2 := rgM_write (bs := lay bs (144 + 8 * (g.ld.toNat % 8)) l) (o := 2) (l := two16 g.laid.ld) (by rw [two16_len]; omega)
    rw [show ((2 : Nat) : Int) = 2 from rfl] at h2
    simp only [h2]
  have hc := rgAnswer_yes V G B S [] n 0 f K g wr (rgM bs) 0 hf h.m (rgM_ok bs) h.k h.kk hg pa cap l (by rw [hl]; exact hb) hl ho
  rw [hw] at hc
  exact hc.mono fun e w' he => ⟨he.1, h.ans he.2, he.2.chg⟩
end
/-- two bytes that the caller has laid -/
theorem two_lit (W : World) (x : Nat) (hx : x < 65536) : (two16 x) = [UInt8.ofNat (x % 256), UInt8.ofNat (x / 256)] := by
  unfold two16; simp
/-- a row of bytes is bytes apart from the machine -/
theorem row_bytes {w : World} {gq B n c : Nat} {l : List UInt8} (h : Row w gq 5 n (fun k => .int .u8 (l.getD k 0).toNat)) (hl : l.length = n) (hne : gq ≠ B) : IsBytes w B (.slice (some ⟨gq, 0, none⟩) n c) l :=
  .inr ⟨⟨gq, 0, none⟩, c, by rw [hl], hne, fun k x hx => by
    obtain ⟨hk, rfl⟩ := List.getElem?_eq_some_iff.1 hx
    have e : (⟨gq, 0, none⟩ : Addr).add k = ⟨gq, k, none⟩ := by unfold Addr.add; split <;> simp_all
    rw [e, h.cell (by omega)]
    simp [List.getD, List.getElem?_eq_getElem hk]⟩
end Go.Proofs.Ytgnihllnjaagcaa
