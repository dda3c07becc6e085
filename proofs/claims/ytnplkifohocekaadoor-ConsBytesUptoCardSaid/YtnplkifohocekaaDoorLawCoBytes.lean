/-
  ConsBytes: the law's own rows beside a console, a view and a machine.
-/
import Derived.Test.YtnplkifohocekaaDoorCoT
import Derived.Test.YtnplkifohocekaaDoorCoG
import Derived.Test.YtnplkifohocekaaDoorViewD
set_option linter.unusedSimpArgs false
set_option linter.unusedVariables false
namespace Go.Proofs.YtnplkifohocekaaDoor.Co
open Go.RowKit Go.Lib Go.Proofs.YtnplkifohocekaaDoor.Bk
set_option maxHeartbeats 2000000
section
variable {w w' : World} {D : Nat → Prop} {V G B C N : Nat} {S : Nat → Prop} {l : List PokeV} {n T : Nat} {M M' : Mach} {X mfn : Int} {tk pt : Nat} {L : List (List UInt8)} {part : List UInt8} {vL vR : Value}
/-- another row, of the caller's own, is appended to -/
theorem DW.row (h : DW w D V G B C S l n T M X mfn tk pt L part vL vR) {v v' : Value} (hD : ∀ k, v.ownBlock = some k → D k) (hN : ∀ k, v.ownBlock = some k → N ≤ k) (hlo : ∀ k, vfoot V G S k ∨ k = B ∨ k = C → k < N) (hg : w.grownBy w' v.ownBlock)
    (hlt : ∀ k, v'.ownBlock = some k → k < w'.heap.size) (hb : v'.ownBlock = v.ownBlock ∨ v'.ownBlock = some w.heap.size) : DW w' (fun k => D k ∨ v'.ownBlock = some k) V G B C S l n T M X mfn tk pt L part vL vR := by
  have hc : Chg (fun k => v.ownBlock = some k) w w' := Chg.of hg fun j e => .inl e
  have hk := h.kt.chg hc hD
  obtain ⟨f, hv⟩ := h.fw.view
  have key : ∀ k, k < w.heap.size → ¬ D k → ¬ (D k ∨ v'.ownBlock = some k) := fun k hk hn => by
    rintro (e | e)
    · exact hn e
    · rcases hb with e1 | e1
      · exact hn (hD k (e1 ▸ e))
      · rw [e1] at e
        cases e
        omega
  refine ⟨⟨⟨f, hv.chg hc fun k hk e => ?_⟩, (hc.block B h.fw.mach.lt fun e => ?_).trans h.fw.mach, h.fw.ok, hk.con, h.fw.nV, h.fw.nG, h.fw.nB, h.fw.nS⟩, ⟨hk.con, hk.oL, hk.oR, key C h.kt.con.lt h.kt.dC, fun k e => key k (own_lt h.kt.oL k e) (h.kt.dL k e), fun k e => key k (own_lt h.kt.oR k e) (h.kt.dR k e), fun k hk' => hk'.elim (hk.lt k) (hlt k)⟩, fun k hk => .inl (h.dV k hk), .inl h.dB⟩
  · have := hN k e
    have := hlo k (.inl hk)
    omega
  · have := hN B e
    have := hlo B (.inr (.inl rfl))
    omega
end
/-- the law's state -/
structure BL (W0 w : World) (D : Nat → Prop) (V G B C N : Nat) (S : Nat → Prop) (n : Nat) (M : Mach) (P : Nat) (L : List (List UInt8)) (part : List UInt8) (vL vR : Value) (Lw : List (List UInt8)) (pw : List UInt8) (vw vl : Value) : Prop where
  dw : DW w D V G B C S [] n 0 M 0 0 (P % 65536) 0 L part vL vR
  good : Good M
  g : W0.grownBy w none
  nw : N ≤ w.heap.size
  old : ∀ k, k < W0.heap.size → D k
  lo : ∀ k, vfoot V G S k ∨ k = B ∨ k = C → k < N
  hi : ∀ k, vfoot V G S k ∨ k = B ∨ k = C → W0.heap.size ≤ k
  nW : W0.heap.size ≤ N
  ow : w.ownsRow N 9 1 vw Lw.length (strs Lw)
  ol : w.ownsRow N 5 1 vl pw.length (Bk.bcells pw)
  wD : ∀ k, vw.ownBlock = some k → D k
  lD : ∀ k, vl.ownBlock = some k → D k
variable {W0 w w' : World} {D : Nat → Prop} {V G B C N : Nat} {S : Nat → Prop} {n : Nat} {M M' : Mach} {P : Nat} {L Lw : List (List UInt8)} {part pw : List UInt8} {vL vR vw vl : Value}
theorem own_ge {W : World} {base n sz : Nat} {e : TypeId} {v : Value} {xs : List Value} (h : W.ownsRow base e sz v n xs) : ∀ k, v.ownBlock = some k → base ≤ k := fun k e => by
  rcases h.2 with ⟨rfl, _⟩ | ⟨g, cap, cur, rfl, hb, _⟩
  · simp [Value.ownBlock] at e
  · simp only [Value.ownBlock, Option.some.injEq] at e
    subst e
    exact hb
theorem BL.grown (h : BL W0 w D V G B C N S n M P L part vL vR Lw pw vw vl) (hg : w.grownBy w' none) : BL W0 w' D V G B C N S n M P L part vL vR Lw pw vw vl :=
  ⟨h.dw.grown hg, h.good, h.g.trans hg, Nat.le_trans h.nw hg.size, h.old, h.lo, h.hi, h.nW, own_kept h.ow hg (by cases vw.ownBlock <;> simp), own_kept h.ol hg (by cases vl.ownBlock <;> simp), h.wD, h.lD⟩
/-- a byte is appended to the law's line -/
theorem BL.line (h : BL W0 w D V G B C N S n M P L part vL vR Lw pw vw vl) (x : UInt8) (hp : pw.length < 1000) (a : Addr) (c : Nat) (ha : w.cell? a = some (.int .u8 x.toNat)) :
    ∃ v' W2, (∀ ty, (Builtin.append_ #[22, 22] ty #[vl, .slice (some a) 1 c]).run Tryd.prog w = .ok v' W2) ∧ (∃ p c, v' = .slice p (pw.length + 1) c) ∧ BL W0 W2 (fun k => D k ∨ v'.ownBlock = some k) V G B C N S n M P L part vL vR Lw (pw ++ [x]) vw v' := by
  obtain ⟨i0, hi, hz0, hz1, hz2⟩ := info_parts info_u8
  obtain ⟨v', W2, hr, ho, hg, _, hb⟩ := run_append_own_at (P := Tryd.prog) w N 22 22 5 i0 (.int .u8 0) 1 1 Tryd.underlying22 hi hz0 hz1 hz2 rfl (by decide) vl pw.length _ h.ol a 1 c (Bk.bcells [x]) (by rw [Bk.bcells_len]; rfl) (fun j u hj => by
    have hj1 : j < (Bk.bcells [x]).length := (List.getElem?_eq_some_iff.1 hj).1
    rw [Bk.bcells_len] at hj1
    obtain rfl : j = 0 := by simp at hj1; omega
    rw [Bk.bcells_get] at hj
    simp at hj
    subst hj
    rw [show a.add 0 = a by obtain ⟨b, o, s⟩ := a; unfold Addr.add; split <;> simp_all]
    exact ha) (Bk.bcells_one [x]) (by unfold maxLen; omega) (by omega) h.nw
  have hlen : pw.length + 1 = (pw ++ [x]).length := by simp
  rw [← Bk.bcells_app, hlen] at ho
  have hd := h.dw.row (v' := v') h.lD (own_ge h.ol) h.lo hg (own_lt ho) hb
  have hg0 : W0.grownBy W2 none := ⟨hg.os.trans h.g.os, hg.tape.trans h.g.tape, hg.output.trans h.g.output, Nat.le_trans h.g.size hg.size, fun k hk _ => (hg.block k (Nat.lt_of_lt_of_le hk h.g.size) (fun e => by have := own_ge h.ol k e.symm; have := h.nW; omega)).trans (h.g.block k hk (by simp))⟩
  refine ⟨v', W2, fun ty => by rw [← hr]; rfl, ?_, ⟨hd, h.good, hg0, Nat.le_trans h.nw hg.size, fun k hk => .inl (h.old k hk), h.lo, h.hi, h.nW, own_kept h.ow hg (own_two h.ol h.ow (by decide)), ho, fun k e => .inl (h.wD k e), fun k e => .inr e⟩⟩
  obtain ⟨p, c, e⟩ := ownsRow_slice ho
  exact ⟨p, c, by rw [hlen]; exact e⟩
/-- a text is appended to what the law wants -/
theorem BL.want (h : BL W0 w D V G B C N S n M P L part vL vR Lw pw vw vl) (s : ByteArray) (t : List UInt8) (hs : s = ⟨t.toArray⟩) (hp : Lw.length ≤ 1000000000) (a : Addr) (c : Nat) (ha : w.cell? a = some (.string s)) :
    ∃ v' W2, (∀ ty, (Builtin.append_ #[43, 43] ty #[vw, .slice (some a) 1 c]).run Tryd.prog w = .ok v' W2) ∧ (∃ p c, v' = .slice p (Lw.length + 1) c) ∧ BL W0 W2 (fun k => D k ∨ v'.ownBlock = some k) V G B C N S n M P L part vL vR (Lw ++ [t]) pw v' vl := by
  obtain ⟨i0, hi, hz0, hz1, hz2⟩ := info_parts info_str
  have hst : strs [t] = [.string s] := by rw [hs]; unfold strs; rfl
  obtain ⟨v', W2, hr, ho, hg, _, hb⟩ := run_append_own_at (P := Tryd.prog) w N 43 43 9 i0 (.string ⟨#[]⟩) 1 16 Tryd.underlying43 hi hz0 hz1 hz2 rfl (by decide) vw Lw.length _ h.ow a 1 c (strs [t]) (by rw [strs_len]; rfl) (fun j u hj => by
    rw [hst] at hj
    obtain rfl : j = 0 := by
      have := (List.getElem?_eq_some_iff.1 hj).1
      simp at this; omega
    simp at hj
    subst hj
    rw [show a.add 0 = a by obtain ⟨b, o, s⟩ := a; unfold Addr.add; split <;> simp_all]
    exact ha) (strs_one [t]) (by unfold maxLen; omega) (by omega) h.nw
  have hlen : Lw.length + 1 = (Lw ++ [t]).length := by simp
  rw [← strs_app, hlen] at ho
  have hd := h.dw.row (v' := v') h.wD (own_ge h.ow) h.lo hg (own_lt ho) hb
  have hg0 : W0.grownBy W2 none := ⟨hg.os.trans h.g.os, hg.tape.trans h.g.tape, hg.output.trans h.g.output, Nat.le_trans h.g.size hg.size, fun k hk _ => (hg.block k (Nat.lt_of_lt_of_le hk h.g.size) (fun e => by have := own_ge h.ow k e.symm; have := h.nW; omega)).trans (h.g.block k hk (by simp))⟩
  refine ⟨v', W2, fun ty => by rw [← hr]; rfl, ?_, ⟨hd, h.good, hg0, Nat.le_trans h.nw hg.size, fun k hk => .inl (h.old k hk), h.lo, h.hi, h.nW, ho, own_kept h.ol hg (own_two h.ow h.ol (by decide)), fun k e => .inr e, fun k e => .inl (h.lD k e)⟩⟩
  obtain ⟨p, c, e⟩ := ownsRow_slice ho
  exact ⟨p, c, by rw [hlen]; exact e⟩
/-- the law's line is begun anew -/
theorem BL.anew (h : BL W0 w D V G B C N S n M P L part vL vR Lw pw vw vl) : BL W0 w D V G B C N S n M P L part vL vR Lw [] vw (.slice none 0 0) :=
  ⟨h.dw, h.good, h.g, h.nw, h.old, h.lo, h.hi, h.nW, h.ow, ⟨by simp [Bk.bcells_nil], .inl ⟨rfl, rfl⟩⟩, h.wD, fun k e => by simp [Value.ownBlock] at e⟩
/-- the guest writes -/
theorem BL.write (h : BL W0 w D V G B C N S n M P L part vL vR Lw pw vw vl) (off : Nat) (b : List UInt8) (p : Option Addr) (c : Nat) (hoff : off + b.length ≤ 256) (hb : BA w p b) (hf : ∀ a, p = some a → 0 < b.length → a.block ≠ B) :
    Calls Tryd.prog 22 #[.pointer (some ⟨B, 0, none⟩), .int .i64 0, .int .i64 (off : Int), .slice p b.length c] w fun e w' => e = .returned (.int .i64 0) ∧ BL W0 w' D V G B C N S n (M.write 0 off b).2 P L part vL vR Lw pw vw vl := by
  refine (Write_any B 0 off _ b w M 0 h.dw.fw.mach h.dw.fw.ok (by omega) (Co.BA.is hb c hf) (by omega)).mono ?_
  rintro e w' ⟨rfl, hm, hg⟩
  obtain ⟨h1, h2, _⟩ := h.good.write off b hoff
  obtain ⟨x, _⟩ := h.dw.fw.left hm hg (Mach.write_ok h.dw.fw.ok _ _ _)
  have hc : Chg (fun k => k = B) w w' := Chg.of hg fun j e => .inl (by cases e; rfl)
  have hB := h.lo B (.inr (.inl rfl))
  have hB2 := h.hi B (.inr (.inl rfl))
  exact ⟨by rw [h1], ⟨⟨x, h.dw.kt.chg hc fun k e => e ▸ h.dw.dB, h.dw.dV, h.dw.dB⟩, h2, hc.grown h.g fun k e => e ▸ hB2, Nat.le_trans h.nw hc.size, h.old, h.lo, h.hi, h.nW, own_chg h.ow hc fun k e e2 => by have := own_ge h.ow k e; omega, own_chg h.ol hc fun k e e2 => by have := own_ge h.ol k e; omega, h.wD, h.lD⟩⟩
theorem ext_getD {a b : List UInt8} (hl : a.length = b.length) (h : ∀ j, j < a.length → a.getD j 0 = b.getD j 0) : a = b := by
  refine List.ext_getElem hl fun j h1 h2 => ?_
  have := h j h1
  simpa [List.getD, List.getElem?_eq_getElem h1, List.getElem?_eq_getElem h2] using this
/-- the daemon takes what the guest has put -/
theorem BL.drain (h : BL W0 w D V G B C N S n M P L part vL vR Lw pw vw vl) (hn : n ≤ 1000000000) (b : List UInt8) (hb : b.length ≤ 128) (hring : ∀ j, j < b.length → pg M (16 + (P + j) % 128) = b.getD j 0) (hn0 : pg M 0 = UInt8.ofNat ((P + b.length) % 256)) (hn1 : pg M 1 = UInt8.ofNat ((P + b.length) / 256 % 256))
    (hp : part.length < 128) (hL : L.length ≤ 900000000) (hT : Lib.Utf8Tabs 0 1 W0) (h2 : 1 < W0.heap.size) :
    Calls Tryd.prog 23 #[.pointer (some ⟨C, 0, none⟩), .pointer (some ⟨V, 0, none⟩)] w fun e w' => e = .returned (.tuple #[.int .i64 (b.length : Nat), .bool false, .int .i64 0]) ∧
      ∃ n' M' vL' vR', n' ≤ n + 3 ∧ BL W0 w' D V G B C N S n' M' (P + b.length) (takeV (L, part) b).1 (takeV (L, part) b).2 vL' vR' Lw pw vw vl := by
  have hV := h.hi V (.inl (.inl rfl))
  have hG := h.hi G (.inl (.inr (.inl rfl)))
  have hB := h.hi B (.inr (.inl rfl))
  have lV := h.lo V (.inl (.inl rfl))
  have lG := h.lo G (.inl (.inr (.inl rfl)))
  have lB := h.lo B (.inr (.inl rfl))
  refine (cDrain h.dw (fun p hp => by simp at hp) hn (by simp) (by omega) hp hL (tabs_D (S' := fun _ => False) hT (Chg.of0 h.g) id id) (h.old 0 (by omega)) (h.old 1 h2) ⟨by omega, by omega, by omega, by omega, by omega, by omega⟩).mono ?_
  rintro e w' ⟨r, hr, hc, hp'⟩
  have hr2 : M.read 0 0 2 = r := hr
  obtain ⟨w1, w2⟩ := h.good.word 0 (by omega)
  have w1' : (M.read 0 0 2).2 = 0 := w1
  have w2' : wordOf (M.read 0 0 2) = ((pg M 0).toNat : Int) + 256 * ((pg M 1).toNat : Int) := w2
  rw [hr2] at w1' w2'
  rw [hn0, hn1, UInt8.toNat_ofNat', UInt8.toNat_ofNat'] at w2'
  rcases hp' with ⟨h0, _⟩ | ⟨_, ix, hix, rfl, hy⟩
  · exact absurd w1' h0
  · have eix : ix = (P + b.length) % 65536 := by omega
    have elag : lagN (P % 65536) ix = b.length := by unfold lagN; omega
    have ecnt : cntN (P % 65536) ix = b.length := by unfold cntN; rw [elag]; omega
    obtain ⟨vL', vR', hd⟩ := hy
    rw [ecnt] at hd ⊢
    rw [elag]
    obtain ⟨st, hst⟩ : ∃ st, min b.length (128 - P % 65536 % 128) = st := ⟨_, rfl⟩
    rw [hst] at hd
    have e128 : P % 65536 % 128 = P % 128 := by omega
    rw [e128] at hst hd
    obtain ⟨b1, q1, l1, g1⟩ := h.good.read (16 + P % 128) st (by omega)
    obtain ⟨b2, q2, l2, g2⟩ := h.good.read 16 (b.length - st) (by omega)
    have eb : b1 ++ b2 = b := ext_getD (by simp; omega) fun j hj => by
      simp only [List.length_append] at hj
      by_cases hjs : j < st
      · have := g1 j hjs
        rw [List.getD_eq_getElem?_getD, List.getElem?_append_left (by omega), ← List.getD_eq_getElem?_getD, this, ← hring j (by omega)]
        congr 1; omega
      · have := g2 (j - st) (by omega)
        rw [List.getD_eq_getElem?_getD, List.getElem?_append_right (by omega), ← List.getD_eq_getElem?_getD, l1, this, ← hring j (by omega)]
        congr 1; omega
    have etk : (P % 65536 + b.length) % 65536 = (P + b.length) % 65536 := by omega
    rw [etk] at hd
    have k1 : ((M.rews (due [] n)).rews (due [] (n + 1 : Nat))) = M := rfl
    have k2 : (M.rews (due [] (n + 1 + 1 : Nat))) = M := rfl
    rw [k1, k2] at hd
    have q1' : (M.read 0 ((16 + P % 128 : Nat) : Int) (st : Int)).1 = b1 := by rw [q1]
    have q2' : (M.read 0 ((16 : Nat) : Int) ((b.length - st : Nat) : Int)).1 = b2 := by rw [q2]
    rw [q1', show (if st < b.length then M else M) = M from ite_self _, q2'] at hd
    have hd' : ∃ n', n' ≤ n + 3 ∧ DW w' D V G B C S [] n' 0 (M.write 0 ((2 : Nat) : Int) (two ((P + b.length) % 65536))).2 0 0 ((P + b.length) % 65536) 0 (takeV (L, part) b).1 (takeV (L, part) b).2 vL' vR' := by
      by_cases hs : st < b.length
      · rw [if_pos hs, if_pos hs, ← takeV_app, eb] at hd
        exact ⟨_, by omega, hd⟩
      · have hb2 : b2 = [] := List.eq_nil_of_length_eq_zero (by omega)
        rw [if_neg hs, if_neg hs, ← takeV_app, ← hb2, eb] at hd
        exact ⟨_, by omega, hd⟩
    obtain ⟨n', hn', hd'⟩ := hd'
    obtain ⟨_, hgw, _⟩ := h.good.write 2 (two ((P + b.length) % 65536)) (by rw [two_len]; omega)
    refine ⟨by rw [decide_eq_false (by omega)], n', _, vL', vR', hn', ⟨hd', hgw, hc.grown h.g ?_, Nat.le_trans h.nw hc.size, h.old, h.lo, h.hi, h.nW, own_chg h.ow hc ?_, own_chg h.ol hc ?_, h.wD, h.lD⟩⟩
    · rintro k (hk | rfl | rfl | rfl)
      · exact Nat.le_of_not_lt fun hlt => hk (h.old k hlt)
      · exact hV
      · exact hG
      · exact hB
    · intro k e hk
      have := own_ge h.ow k e
      rcases hk with hk | rfl | rfl | rfl
      · exact hk (h.wD k e)
      all_goals omega
    · intro k e hk
      have := own_ge h.ol k e
      rcases hk with hk | rfl | rfl | rfl
      · exact hk (h.lD k e)
      all_goals omega
end Go.Proofs.YtnplkifohocekaaDoor.Co

/-
  ConsBytes: bytes that a guest puts out, some at a time, are the lines' and the rest's, in order; what came in is as it was.
-/
namespace Go.Proofs.YtnplkifohocekaaDoor.lawCoBytes
open Go.RowKit Go.Lib Go.Proofs.YtnplkifohocekaaDoor.Bk Go.Proofs.YtnplkifohocekaaDoor.Co Go.ChangeShapes Go.WideShapes Go.ChangeAt Go.Deep
set_option maxHeartbeats 4000000
theorem beg1 : 1 ≤ (begK 2).n := by rw [begK_n]; decide
/-- how the law begins -/
theorem begins {W0 w1 : World} {B b : Nat} {Lr : Lay} (h : Bg W0 w1 B b (begK 2) Lr 0) : ∀ w2, w2 = w1.alloc (Obj.cells (cnCells 0 true 0 (.slice none 0 0) (.slice none 0 0) 0) 74) →
    ∀ w3 f, VV w3 (w2.heap.size + 1) w2.heap.size B (fun k => w2.heap.size + 2 ≤ k ∧ k < w3.heap.size) [] 0 0 f → w2.grownBy w3 none →
    BL W0 w3 (fun k => k < w3.heap.size ∧ k ≠ w1.heap.size) (w2.heap.size + 1) w2.heap.size B w1.heap.size w3.heap.size (fun k => w2.heap.size + 2 ≤ k ∧ k < w3.heap.size) 0 (begK 2) 0 [] [] (.slice none 0 0) (.slice none 0 0) [] [] (.slice none 0 0) (.slice none 0 0) := by
  rintro w2 rfl w3 f hv hg
  have hz : (w1.alloc (Obj.cells (cnCells 0 true 0 (.slice none 0 0) (.slice none 0 0) 0) 74)).heap.size = w1.heap.size + 1 := by simp
  have hB := h.m.lt
  have hg1 := World.grownBy_alloc w1 (Obj.cells (cnCells 0 true 0 (.slice none 0 0) (.slice none 0 0) 0) 74) none
  have hgs := hg.size
  have hft := fun k (hk : vfoot _ _ _ k) => hv.foot_lt (k := k) hk
  have h1 := h.farB
  have h2 := h.grown.size
  have hcon : Row w3 w1.heap.size 74 6 (cnV 0 0 (.slice none 0 0) (.slice none 0 0) 0) := by
    refine Row.grown ?_ hg (by simp)
    exact ⟨_, (MapKept.heap_alloc w1 _).1, by simp [cnCells], fun k hk => by
      match k, hk with
      | 0, _ => rfl
      | 1, _ => rfl
      | 2, _ => rfl
      | 3, _ => rfl
      | 4, _ => rfl
      | 5, _ => rfl⟩
  have hne : ∀ k, vfoot ((w1.alloc (Obj.cells (cnCells 0 true 0 (.slice none 0 0) (.slice none 0 0) 0) 74)).heap.size + 1) (w1.alloc (Obj.cells (cnCells 0 true 0 (.slice none 0 0) (.slice none 0 0) 0) 74)).heap.size (fun k => (w1.alloc (Obj.cells (cnCells 0 true 0 (.slice none 0 0) (.slice none 0 0) 0) 74)).heap.size + 2 ≤ k ∧ k < w3.heap.size) k → w1.heap.size < k := by
    rintro k (rfl | rfl | ⟨hk, _⟩) <;> omega
  refine ⟨⟨⟨⟨f, hv⟩, (h.m.grown hg1 (by simp)).grown hg (by simp), h.ok, hcon, by omega, by omega, by omega, by omega⟩, ⟨hcon, ⟨by simp [Co.strs, Bk.bcells_nil], .inl ⟨rfl, rfl⟩⟩, ⟨by simp [Co.strs, Bk.bcells_nil], .inl ⟨rfl, rfl⟩⟩, fun hn => hn.2 rfl, fun k e => by simp [Value.ownBlock] at e, fun k e => by simp [Value.ownBlock] at e, fun k hk => hk.1⟩, fun k hk => ⟨hft _ hk, by have := hne k hk; omega⟩, ⟨by omega, by omega⟩⟩, beg_good, (h.grown.trans hg1).trans hg, Nat.le_refl _, fun k hk => ⟨by omega, by omega⟩, ?_, ?_, by omega, ⟨by simp [Co.strs, Bk.bcells_nil], .inl ⟨rfl, rfl⟩⟩, ⟨by simp [Co.strs, Bk.bcells_nil], .inl ⟨rfl, rfl⟩⟩, fun k e => by simp [Value.ownBlock] at e, fun k e => by simp [Value.ownBlock] at e⟩
  · rintro k (hk | rfl | rfl)
    · exact hft _ hk
    · omega
    · omega
  · rintro k (hk | rfl | rfl)
    · have := hne k hk; omega
    · omega
    · omega
theorem ring_put {M : Mach} (h : Co.Good M) {P k z : Nat} {bt : List UInt8} {x : UInt8} (hz : (P + k) % 128 = z) (hk : k < 128) (hx : bt.getD k 0 = x) (hr : ∀ j, j < k → pg M (16 + (P + j) % 128) = bt.getD j 0) :
    ∀ j, j < k + 1 → pg (M.write 0 ((16 + z : Nat) : Int) [x]).2 (16 + (P + j) % 128) = bt.getD j 0 := by
  obtain ⟨_, _, h2⟩ := h.write (16 + z) [x] (by simp; omega)
  intro j hj
  rw [h2]
  simp only [List.length_cons, List.length_nil, Nat.zero_add]
  by_cases hjk : j = k
  · subst hjk
    rw [if_pos (by omega), hz, Nat.sub_self, hx]
    rfl
  · rw [if_neg (by omega)]
    exact hr j (by omega)
theorem num_put {M : Mach} (h : Co.Good M) {P k : Nat} {bt : List UInt8} {x y : UInt8} (hr : ∀ j, j < k → pg M (16 + (P + j) % 128) = bt.getD j 0) :
    (∀ j, j < k → pg (M.write 0 ((0 : Nat) : Int) [x, y]).2 (16 + (P + j) % 128) = bt.getD j 0) ∧ pg (M.write 0 ((0 : Nat) : Int) [x, y]).2 0 = x ∧ pg (M.write 0 ((0 : Nat) : Int) [x, y]).2 1 = y := by
  obtain ⟨_, _, h2⟩ := h.write 0 [x, y] (by simp)
  refine ⟨fun j hj => ?_, ?_, ?_⟩
  · rw [h2, if_neg (by simp; omega)]
    exact hr j hj
  · rw [h2, if_pos (by simp)]
    rfl
  · rw [h2, if_pos (by simp)]
    rfl
set_option maxRecDepth 100000 in
theorem walk (p : Option Addr) (ls : List (List UInt8)) (cap : Nat) (W : World) (hT : Lib.Utf8Tabs 0 1 W) (h2 : 1 < W.heap.size) (hin : PartsIn W p ls) (hl : ls.length ≤ 5000000) :
    Calls Tryd.prog 5 #[.slice p ls.length cap] W fun e w' => e = .returned (.bool true) ∧ Below W.heap.size W w' := by
  have HT := hid hT
  have HI := hid hin
  have HB := hid (cBegin W)
  have hli : (ls.length : Int) ≤ 5000000 := by omega
  clear hT hin
  go_enter Tryd.func5, Tryd.ntmps5
  go_wp2_with (first
    | (go_at_call 12; (with_reducible refine HB.out.mono ?_); rintro e w1 ⟨B, b, Lr, rfl, hbg⟩; have HBG := hid hbg; clear hbg)
    | (go_at_call 13; refine (cNew_yes 0 _ (by decide) (by decide)).mono ?_; rintro e w2 ⟨rfl, hw2⟩; have HW2 := hid hw2; have HV := hid (vNew B none 0 [] w2 (begK 2) (by rw [hw2]; exact HBG.out.m.grown (World.grownBy_alloc w1 _ none) (by simp)) beg1 (by simp) (fun j hj => by simp at hj)); clear hw2)
    | (go_at_call 21; refine HV.out.mono ?_; rintro e w3 ⟨rfl, ⟨f, hvv⟩, hg3⟩; have HL := hid (begins HBG.out w2 HW2.out w3 f hvv hg3); clear hvv hg3)
    | fail)
  clear HV HW2 HBG HB
  generalize w2.heap.size + 1 = V at HL ⊢
  generalize w1.heap.size = C at HL ⊢
  obtain ⟨S, hS⟩ : ∃ S : Nat → Prop, (fun k => w2.heap.size + 2 ≤ k ∧ k < w3.heap.size) = S := ⟨_, rfl⟩
  obtain ⟨D, hD⟩ : ∃ S : Nat → Prop, (fun k => k < w3.heap.size ∧ k ≠ C) = S := ⟨_, rfl⟩
  obtain ⟨N, hN⟩ : ∃ N, w3.heap.size = N := ⟨_, rfl⟩
  rw [hS, hD, hN] at HL
  clear hS hD hN
  generalize w2.heap.size = G at HL
  go_loopw [10, 11, 12, 13] (fun tp tw tl ti wr => ∃ (i n P : Nat) (M : Mach) (D : Nat → Prop) (L : List (List UInt8)) (part : List UInt8) (vL vR : Value), tp = .int .i64 P ∧ ti = .int .i64 i ∧ i ≤ ls.length ∧ P ≤ 128 * i ∧ n ≤ 3 * i ∧ L.length ≤ 128 * i ∧ part.length < 128 ∧ BL W wr D V G B C N S n M P L part vL vR L part tw tl) (fun _ _ _ ti _ => ls.length - (Lib.intOf ti).toNat)
  case atStart => exact ⟨0, 0, 0, begK 2, D, [], [], _, _, rfl, rfl, Nat.zero_le _, Nat.le_refl _, Nat.le_refl _, Nat.le_refl _, by decide, HL.out⟩
  case round =>
    clear HL
    obtain ⟨i, n, P, M, D, L, part, vL, vR, rfl, rfl, hil, hP, hnn, hLL, hpp, hbl0⟩ := hrel
    obtain ⟨pw, cw, hvw⟩ := ownsRow_slice hbl0.ow
    obtain ⟨pl, cl, hvl⟩ := ownsRow_slice hbl0.ol
    subst hvw hvl
    have HBL := hid hbl0
    clear hbl0
    have hPi : (P : Int) ≤ 640000000 := by omega
    by_cases hlt : i < ls.length
    · obtain ⟨pb, off, q, c, rfl, hpb, hc0, hba0, hbc, hqc, hbl, hqa⟩ := HI.out i hlt
      obtain ⟨b0, hb0⟩ : ∃ bt, ls.getD i [] = bt := ⟨_, rfl⟩
      rw [hb0] at hc0 hba0 hbc hbl hqa
      have c0 := HBL.out.g.cell hc0 (by simp)
      obtain ⟨bt, hbt⟩ : ∃ b, b0.take 128 = b := ⟨_, rfl⟩
      obtain ⟨bl, hblen⟩ : ∃ k, bt.length = k := ⟨_, rfl⟩
      have hblm : bl = min b0.length 128 := by rw [← hblen, ← hbt, List.length_take, Nat.min_comm]
      have HBA := hid (show BA W q bt from fun k hk => by
        have hk0 : k < b0.length := by omega
        obtain ⟨b', o', e, hcc⟩ := hba0 k hk0
        refine ⟨b', o', e, ?_⟩
        rw [hcc, ← hbt]
        simp [List.getD, List.getElem?_take, show k < 128 by omega])
      have hbl128 : bl ≤ 128 := by omega
      have hbli : (bl : Int) ≤ 128 := by omega
      have hblc : bl ≤ c := by omega
      have HQA := hid (show ∀ a, q = some a → 0 < bl → a.block < W.heap.size from fun a ha h => hqa a ha (by omega))
      have HLEN := hid hblen
      obtain ⟨n0, hn0⟩ : ∃ n, b0.length = n := ⟨_, rfl⟩
      rw [hn0] at c0 hblm hbc
      have hbci : (n0 : Int) ≤ c := by omega
      have hn0l : (n0 : Int) ≤ 140737488351232 := by omega
      by_cases h128 : n0 ≤ 128
      · have e0 : bl = n0 := by omega
        subst e0
        have eg : ¬ (128 : Int) < bl := by omega
        clear hc0 hba0 hbl hqa hbt hblen hblm hb0 hn0 h128
        go_wp2
        clear c0
        go_loopw [10, 11, 12, 15] (fun tp tw tl tk wr => ∃ (k : Nat) (M1 : Mach) (D1 : Nat → Prop) (Lw : List (List UInt8)) (pq : List UInt8), tp = .int .i64 ((P : Int) + k) ∧ tk = .int .i64 k ∧ k ≤ bl ∧ takeV (L, part) (bt.take k) = (Lw, pq) ∧ BL W wr D1 V G B C N S n M1 P L part vL vR Lw pq tw tl ∧ ∀ j, j < k → pg M1 (16 + (P + j) % 128) = bt.getD j 0) (fun _ _ _ tk _ => bl - (Lib.intOf tk).toNat)
        case atStart => exact ⟨0, M, D, L, part, by simp, rfl, Nat.zero_le _, rfl, HBL.out, fun j hj => by omega⟩
        case round =>
          clear HBL
          obtain ⟨k, M1, D1, Lw, pq, rfl, rfl, hkl, htk, hbl1, hrg⟩ := hrel
          obtain ⟨aw, dw, e1⟩ := ownsRow_slice hbl1.ow
          obtain ⟨al, dl, e2⟩ := ownsRow_slice hbl1.ol
          subst e1 e2
          have HB1 := hid hbl1
          have HRG := hid hrg
          have hpq := takeV_part (bt.take k) (L, part) hpp
          have hLw := takeV_lines (bt.take k) (L, part)
          rw [htk] at hpq hLw
          simp only [List.length_take] at hpq hLw
          have HTK := hid htk
          clear hbl1 hrg htk
          by_cases hk : k < bl
          · obtain ⟨qb, qo, rfl⟩ := HBA.out.ptr (by have := HLEN.out; omega)
            obtain ⟨x, hx⟩ : ∃ x, bt.getD k 0 = x := ⟨_, rfl⟩
            have hcx0 := HBA.out.at (k := k) (by have := HLEN.out; omega)
            rw [hx] at hcx0
            have HX0 := hid hcx0
            have HSN := hid (takeV_snoc (L, part) bt k (by have := HLEN.out; omega))
            rw [HTK.out, hx] at HSN
            obtain ⟨z, hz⟩ : ∃ z, (P + k) % 128 = z := ⟨_, rfl⟩
            have ez : ((P : Int) + k) % 128 = z := by omega
            have hz128 : z < 128 := by omega
            have hzi : (z : Int) ≤ 127 := by omega
            have HRP := hid (ring_put HB1.out.good hz (by omega) hx HRG.out)
            have hs1 : ∀ W, (Instr.slice 22 (.slice (some ⟨qb, qo, none⟩) bl c) (some (.int .i64 (k : Int))) (some (.int .i64 ((k : Int) + 1))) none).run Tryd.prog W = .ok (.slice (some ⟨qb, qo + k, none⟩) 1 (c - k)) W := fun W => by
              have := run_cut W qb qo bl c k (k + 1) (by omega) (by omega) hblc (by omega)
              rw [show k + 1 - k = 1 by omega, show ((k + 1 : Nat) : Int) = (k : Int) + 1 by omega] at this
              exact this
            have HWR := hid (show Calls Tryd.prog 22 #[.pointer (some ⟨B, 0, none⟩), .int .i64 0, .int .i64 (16 + (z : Int)), .slice (some ⟨qb, qo + k, none⟩) 1 (c - k)] wr _ from by
              rw [show 16 + (z : Int) = ((16 + z : Nat) : Int) by omega]
              exact HB1.out.write (16 + z) [x] (some ⟨qb, qo + k, none⟩) (c - k) (by simp; omega) (fun kk hkk => ⟨qb, qo + k, rfl, by
                obtain rfl : kk = 0 := by simp at hkk; omega
                rw [Nat.add_zero]
                exact HB1.out.g.cell HX0.out (by simp)⟩) (fun a ha _ => by
                cases ha
                have h1 := HQA.out _ rfl (by omega)
                have h2 := HB1.out.hi B (.inr (.inl rfl))
                simp only at h1 ⊢
                omega))
            obtain ⟨M2, hM2⟩ : ∃ M2, (M1.write 0 ((16 + z : Nat) : Int) [x]).2 = M2 := ⟨_, rfl⟩
            rw [hM2] at HWR HRP
            have ek : (P : Int) + k + 1 = (P : Int) + (k + 1 : Nat) := by omega
            clear hcx0 hx hz hM2
            obtain ⟨T, hT⟩ : ∃ T : ByteArray, ⟨(showV pq).toArray⟩ = T := ⟨_, rfl⟩
            have HTT := hid hT.symm
            clear hT
            have hki : (k : Int) ≤ 128 := by omega
            have hlwi : (Lw.length : Int) ≤ 2000000000 := by omega
            by_cases hx10 : x = 10
            · have e1 : ((x.toNat : Int) == 10) = true := by rw [hx10]; rfl
              have e1' : ((x.toNat : Int) != 10) = false := by rw [hx10]; rfl
              have HCV := hid (show comeV (Lw, pq) x = (Lw ++ [showV pq], []) by unfold comeV; rw [if_pos hx10])
              clear hx10
              go_wp2_with (first
                | (go_at_call 22; (with_reducible refine HWR.out.mono ?_); rintro e w5 ⟨rfl, h5⟩; have HB5 := hid h5; have x5 : w5.cell? ⟨qb, qo + k, none⟩ = some (.int .u8 x.toNat) := h5.g.cell HX0.out (by simp); have HSH := hid (show Calls Tryd.prog 10 #[.slice al pq.length dl] w5 fun e w' => e = .returned (.string T) ∧ ∃ m, w' = w5.drewN m from by
                    obtain ⟨p', c', e, hb5, hlc5, _⟩ := own_ba h5.ol
                    cases e
                    rw [HTT.out]
                    exact rShow pq al dl w5 (by omega) hlc5 hb5); clear h5)
                | (go_at_call 10; (with_reducible refine HSH.out.mono ?_); rintro e w6 ⟨rfl, m, hw6⟩; have h6 := HB5.out.grown (show w5.grownBy w6 none from hw6 ▸ grownBy_drewN w5 m none); clear hw6; obtain ⟨v3, W3, hr3, ⟨p3, c3, rfl⟩, h3⟩ := (h6.grown (World.grownBy_alloc w6 (Obj.cells #[.string T] 9) none)).want T (showV pq) HTT.out (by omega) ⟨w6.heap.size, 0, none⟩ 1 ((Lib.cell_of_heap (MapKept.heap_alloc w6 (Obj.cells #[.string T] 9)).1 0).trans rfl); have HR3 := hid hr3; have HB6 := hid h3.anew; clear hr3 h3 h6)
                | (at_builtin; (with_reducible refine Lib.wpList_append_run _ rfl _ _ _ _ rfl _ _ rfl rfl _ _ (HR3.out _) ?_))
                | fail)
              exact ⟨⟨k + 1, M2, _, Lw ++ [showV pq], [], by congr 1, by congr 1, by omega, by rw [HSN.out, HCV.out], HB6.out, HRP.out⟩, by simp [Lib.intOf]; omega⟩
            · have hxn : x.toNat ≠ 10 := fun e => hx10 (UInt8.toNat_inj.1 e)
              have e1 : ((x.toNat : Int) == 10) = false := by simp; omega
              have e1' : ((x.toNat : Int) != 10) = true := by simp; omega
              by_cases h128 : pq.length + 1 = 128
              · have e2 : (((pq.length : Int) + 1) == 128) = true := by simp; omega
                have HCV := hid (show comeV (Lw, pq) x = (Lw ++ [showV (pq ++ [x])], []) by unfold comeV; rw [if_neg hx10, if_pos (by simp; omega)])
                obtain ⟨T2, hT2⟩ : ∃ T : ByteArray, ⟨(showV (pq ++ [x])).toArray⟩ = T := ⟨_, rfl⟩
                have HT2 := hid hT2.symm
                clear hx10 hxn hT2 h128
                go_wp2_with (first
                  | (go_at_call 22; (with_reducible refine HWR.out.mono ?_); rintro e w5 ⟨rfl, h5⟩; have x5 : w5.cell? ⟨qb, qo + k, none⟩ = some (.int .u8 x.toNat) := h5.g.cell HX0.out (by simp); obtain ⟨v2, W2, hr2, ⟨p2, c2, rfl⟩, h2b⟩ := (h5.grown (World.grownBy_alloc w5 (Obj.cells #[.int .u8 x.toNat] 5) none)).line x (by omega) ⟨w5.heap.size, 0, none⟩ 1 ((Lib.cell_of_heap (MapKept.heap_alloc w5 (Obj.cells #[.int .u8 x.toNat] 5)).1 0).trans rfl); have HR2 := hid hr2; have HB7 := hid h2b; have x7 : W2.cell? ⟨qb, qo + k, none⟩ = some (.int .u8 x.toNat) := h2b.g.cell HX0.out (by simp); have HSH := hid (show Calls Tryd.prog 10 #[.slice p2 (pq.length + 1) c2] W2 fun e w' => e = .returned (.string T2) ∧ ∃ m, w' = W2.drewN m from by
                      obtain ⟨p', c', e, hb5, hlc5, _⟩ := own_ba h2b.ol
                      have el : (pq ++ [x]).length = pq.length + 1 := by simp
                      rw [el] at e
                      cases e
                      rw [HT2.out, ← el]
                      exact rShow (pq ++ [x]) p2 c2 W2 (by rw [el]; omega) hlc5 hb5); clear h5 hr2 h2b)
                  | (go_at_call 10; (with_reducible refine HSH.out.mono ?_); rintro e w6 ⟨rfl, m, hw6⟩; have h6 := HB7.out.grown (show W2.grownBy w6 none from hw6 ▸ grownBy_drewN W2 m none); clear hw6; obtain ⟨v3, W3, hr3, ⟨p3, c3, rfl⟩, h3⟩ := (h6.grown (World.grownBy_alloc w6 (Obj.cells #[.string T2] 9) none)).want T2 (showV (pq ++ [x])) HT2.out (by omega) ⟨w6.heap.size, 0, none⟩ 1 ((Lib.cell_of_heap (MapKept.heap_alloc w6 (Obj.cells #[.string T2] 9)).1 0).trans rfl); have HR3 := hid hr3; have HB6 := hid h3.anew; clear hr3 h3 h6)
                  | (at_builtin; first
                    | (with_reducible refine Lib.wpList_append_run _ rfl _ _ _ _ rfl _ _ rfl rfl _ _ (HR2.out _) ?_)
                    | (with_reducible refine Lib.wpList_append_run _ rfl _ _ _ _ rfl _ _ rfl rfl _ _ (HR3.out _) ?_)
                    | fail)
                  | fail)
                exact ⟨⟨k + 1, M2, _, Lw ++ [showV (pq ++ [x])], [], by congr 1, by congr 1, by omega, by rw [HSN.out, HCV.out], HB6.out, HRP.out⟩, by simp [Lib.intOf]; omega⟩
              · have e2 : (((pq.length : Int) + 1) == 128) = false := by simp; omega
                have HCV := hid (show comeV (Lw, pq) x = (Lw, pq ++ [x]) by unfold comeV; rw [if_neg hx10, if_neg (by simp; omega)])
                clear hx10 hxn h128
                go_wp2_with (first
                  | (go_at_call 22; (with_reducible refine HWR.out.mono ?_); rintro e w5 ⟨rfl, h5⟩; have x5 : w5.cell? ⟨qb, qo + k, none⟩ = some (.int .u8 x.toNat) := h5.g.cell HX0.out (by simp); obtain ⟨v2, W2, hr2, ⟨p2, c2, rfl⟩, h2b⟩ := (h5.grown (World.grownBy_alloc w5 (Obj.cells #[.int .u8 x.toNat] 5) none)).line x (by omega) ⟨w5.heap.size, 0, none⟩ 1 ((Lib.cell_of_heap (MapKept.heap_alloc w5 (Obj.cells #[.int .u8 x.toNat] 5)).1 0).trans rfl); have HR2 := hid hr2; have HB7 := hid h2b; have x7 : W2.cell? ⟨qb, qo + k, none⟩ = some (.int .u8 x.toNat) := h2b.g.cell HX0.out (by simp); clear h5 hr2 h2b)
                  | (at_builtin; (with_reducible refine Lib.wpList_append_run _ rfl _ _ _ _ rfl _ _ rfl rfl _ _ (HR2.out _) ?_))
                  | fail)
                exact ⟨⟨k + 1, M2, _, Lw, pq ++ [x], by congr 1, by congr 1, by omega, by rw [HSN.out, HCV.out], HB7.out, HRP.out⟩, by simp [Lib.intOf]; omega⟩
          · have ekb : k = bl := by omega
            subst k
            have hbtt : bt.take bl = bt := List.take_of_length_le (by have := HLEN.out; omega)
            have htk := HTK.out
            rw [hbtt] at htk
            have HTB := hid htk
            obtain ⟨q1, hq1⟩ : ∃ q, (P + bl) % 256 = q := ⟨_, rfl⟩
            obtain ⟨q2, hq2⟩ : ∃ q, (P + bl) / 256 % 256 = q := ⟨_, rfl⟩
            have e3 : IntKind.u8.wrap (((P : Int) + bl) % 256) = q1 := by simp [IntKind.wrap_u8]; omega
            have e4 : IntKind.u8.wrap (((P : Int) + bl) / 256 % 256) = q2 := by simp [IntKind.wrap_u8]; omega
            have hq1l : q1 < 256 := by omega
            have hq2l : q2 < 256 := by omega
            obtain ⟨W9, hW9⟩ : ∃ W9, wr.alloc (Obj.cells #[.int .u8 q1, .int .u8 q2] 5) = W9 := ⟨_, rfl⟩
            have HWR := hid (show Calls Tryd.prog 22 #[.pointer (some ⟨B, 0, none⟩), .int .i64 0, .int .i64 0, .slice (some ⟨wr.heap.size, 0, none⟩) 2 2] W9 _ from by
              have hlt := HB1.out.dw.fw.mach.lt
              rw [← hW9]
              exact (HB1.out.grown (World.grownBy_alloc wr (Obj.cells #[.int .u8 q1, .int .u8 q2] 5) none)).write 0 [UInt8.ofNat q1, UInt8.ofNat q2] (some ⟨wr.heap.size, 0, none⟩) 2 (by simp) (fun kk hkk => by
                refine ⟨wr.heap.size, 0, rfl, ?_⟩
                rcases (show kk = 0 ∨ kk = 1 by simp at hkk; omega) with rfl | rfl
                · simp only [Nat.zero_add, List.getD_cons_zero]
                  rw [UInt8.toNat_ofNat', Nat.mod_eq_of_lt hq1l]
                  exact (Lib.cell_of_heap (MapKept.heap_alloc wr (Obj.cells #[.int .u8 q1, .int .u8 q2] 5)).1 0).trans rfl
                · simp only [Nat.zero_add, List.getD_cons_succ, List.getD_cons_zero]
                  rw [UInt8.toNat_ofNat', Nat.mod_eq_of_lt hq2l]
                  exact (Lib.cell_of_heap (MapKept.heap_alloc wr (Obj.cells #[.int .u8 q1, .int .u8 q2] 5)).1 1).trans rfl) (fun a ha _ => by
                cases ha
                simp only
                omega))
            have HNP := hid (num_put (x := UInt8.ofNat q1) (y := UInt8.ofNat q2) HB1.out.good HRG.out)
            obtain ⟨M2, hM2⟩ : ∃ M2, (M1.write 0 ((0 : Nat) : Int) [UInt8.ofNat q1, UInt8.ofNat q2]).2 = M2 := ⟨_, rfl⟩
            rw [hM2] at HWR HNP
            have HQ1 := hid hq1
            have HQ2 := hid hq2
            have hLb : (Lw.length : Int) ≤ 128 * ((i : Int) + 1) := by have := HLEN.out; omega
            have ebb : ((bl : Int) != bl) = false := by simp
            clear hM2 hq1 hq2 htk hbtt hLw
            go_wp2_with (first
              | (go_at_call 22; (with_reducible refine HWR.out.mono ?_); rintro e w5 ⟨rfl, h5⟩; have HDR := hid (h5.drain (by omega) bt (by have := HLEN.out; omega) (fun j hj => HNP.out.1 j (by have := HLEN.out; omega)) (by rw [HNP.out.2.1, HLEN.out, HQ1.out]) (by rw [HNP.out.2.2, HLEN.out, HQ2.out]) hpp (by omega) HT.out h2); rw [HLEN.out, HTB.out] at HDR; clear h5)
              | (go_at_call 23; (with_reducible refine HDR.out.mono ?_); rintro e w6 ⟨rfl, n2, M3, vL2, vR2, hn2, h6⟩; have HB6 := hid h6; clear h6)
              | fail)
            exact ⟨⟨i + 1, n2, P + bl, M3, D1, Lw, pq, vL2, vR2, by congr 1, by congr 1, by omega, by omega, by omega, by omega, hpq, HB6.out⟩, by simp [Lib.intOf]; omega⟩
      · have eg : (128 : Int) < n0 := by omega
        have s0 : ∀ W, (Instr.slice 22 (.slice q n0 c) none (some (.int .i64 128)) none).run Tryd.prog W = .ok (.slice q bl c) W := fun W => by
          have e0 : bl = 128 := by omega
          rw [e0]
          exact cut_to q n0 c 128 (by omega) hqc W
        clear hc0 hba0 hbl hqa hbt hblen hblm hb0 hn0 h128
        go_wp2
        clear eg s0
        clear c0
        go_loopw [10, 11, 12, 15] (fun tp tw tl tk wr => ∃ (k : Nat) (M1 : Mach) (D1 : Nat → Prop) (Lw : List (List UInt8)) (pq : List UInt8), tp = .int .i64 ((P : Int) + k) ∧ tk = .int .i64 k ∧ k ≤ bl ∧ takeV (L, part) (bt.take k) = (Lw, pq) ∧ BL W wr D1 V G B C N S n M1 P L part vL vR Lw pq tw tl ∧ ∀ j, j < k → pg M1 (16 + (P + j) % 128) = bt.getD j 0) (fun _ _ _ tk _ => bl - (Lib.intOf tk).toNat)
        case atStart => exact ⟨0, M, D, L, part, by simp, rfl, Nat.zero_le _, rfl, HBL.out, fun j hj => by omega⟩
        case round =>
          clear HBL
          obtain ⟨k, M1, D1, Lw, pq, rfl, rfl, hkl, htk, hbl1, hrg⟩ := hrel
          obtain ⟨aw, dw, e1⟩ := ownsRow_slice hbl1.ow
          obtain ⟨al, dl, e2⟩ := ownsRow_slice hbl1.ol
          subst e1 e2
          have HB1 := hid hbl1
          have HRG := hid hrg
          have hpq := takeV_part (bt.take k) (L, part) hpp
          have hLw := takeV_lines (bt.take k) (L, part)
          rw [htk] at hpq hLw
          simp only [List.length_take] at hpq hLw
          have HTK := hid htk
          clear hbl1 hrg htk
          by_cases hk : k < bl
          · obtain ⟨qb, qo, rfl⟩ := HBA.out.ptr (by have := HLEN.out; omega)
            obtain ⟨x, hx⟩ : ∃ x, bt.getD k 0 = x := ⟨_, rfl⟩
            have hcx0 := HBA.out.at (k := k) (by have := HLEN.out; omega)
            rw [hx] at hcx0
            have HX0 := hid hcx0
            have HSN := hid (takeV_snoc (L, part) bt k (by have := HLEN.out; omega))
            rw [HTK.out, hx] at HSN
            obtain ⟨z, hz⟩ : ∃ z, (P + k) % 128 = z := ⟨_, rfl⟩
            have ez : ((P : Int) + k) % 128 = z := by omega
            have hz128 : z < 128 := by omega
            have hzi : (z : Int) ≤ 127 := by omega
            have HRP := hid (ring_put HB1.out.good hz (by omega) hx HRG.out)
            have hs1 : ∀ W, (Instr.slice 22 (.slice (some ⟨qb, qo, none⟩) bl c) (some (.int .i64 (k : Int))) (some (.int .i64 ((k : Int) + 1))) none).run Tryd.prog W = .ok (.slice (some ⟨qb, qo + k, none⟩) 1 (c - k)) W := fun W => by
              have := run_cut W qb qo bl c k (k + 1) (by omega) (by omega) hblc (by omega)
              rw [show k + 1 - k = 1 by omega, show ((k + 1 : Nat) : Int) = (k : Int) + 1 by omega] at this
              exact this
            have HWR := hid (show Calls Tryd.prog 22 #[.pointer (some ⟨B, 0, none⟩), .int .i64 0, .int .i64 (16 + (z : Int)), .slice (some ⟨qb, qo + k, none⟩) 1 (c - k)] wr _ from by
              rw [show 16 + (z : Int) = ((16 + z : Nat) : Int) by omega]
              exact HB1.out.write (16 + z) [x] (some ⟨qb, qo + k, none⟩) (c - k) (by simp; omega) (fun kk hkk => ⟨qb, qo + k, rfl, by
                obtain rfl : kk = 0 := by simp at hkk; omega
                rw [Nat.add_zero]
                exact HB1.out.g.cell HX0.out (by simp)⟩) (fun a ha _ => by
                cases ha
                have h1 := HQA.out _ rfl (by omega)
                have h2 := HB1.out.hi B (.inr (.inl rfl))
                simp only at h1 ⊢
                omega))
            obtain ⟨M2, hM2⟩ : ∃ M2, (M1.write 0 ((16 + z : Nat) : Int) [x]).2 = M2 := ⟨_, rfl⟩
            rw [hM2] at HWR HRP
            have ek : (P : Int) + k + 1 = (P : Int) + (k + 1 : Nat) := by omega
            clear hcx0 hx hz hM2
            obtain ⟨T, hT⟩ : ∃ T : ByteArray, ⟨(showV pq).toArray⟩ = T := ⟨_, rfl⟩
            have HTT := hid hT.symm
            clear hT
            have hki : (k : Int) ≤ 128 := by omega
            have hlwi : (Lw.length : Int) ≤ 2000000000 := by omega
            by_cases hx10 : x = 10
            · have e1 : ((x.toNat : Int) == 10) = true := by rw [hx10]; rfl
              have e1' : ((x.toNat : Int) != 10) = false := by rw [hx10]; rfl
              have HCV := hid (show comeV (Lw, pq) x = (Lw ++ [showV pq], []) by unfold comeV; rw [if_pos hx10])
              clear hx10
              go_wp2_with (first
                | (go_at_call 22; (with_reducible refine HWR.out.mono ?_); rintro e w5 ⟨rfl, h5⟩; have HB5 := hid h5; have x5 : w5.cell? ⟨qb, qo + k, none⟩ = some (.int .u8 x.toNat) := h5.g.cell HX0.out (by simp); have HSH := hid (show Calls Tryd.prog 10 #[.slice al pq.length dl] w5 fun e w' => e = .returned (.string T) ∧ ∃ m, w' = w5.drewN m from by
                    obtain ⟨p', c', e, hb5, hlc5, _⟩ := own_ba h5.ol
                    cases e
                    rw [HTT.out]
                    exact rShow pq al dl w5 (by omega) hlc5 hb5); clear h5)
                | (go_at_call 10; (with_reducible refine HSH.out.mono ?_); rintro e w6 ⟨rfl, m, hw6⟩; have h6 := HB5.out.grown (show w5.grownBy w6 none from hw6 ▸ grownBy_drewN w5 m none); clear hw6; obtain ⟨v3, W3, hr3, ⟨p3, c3, rfl⟩, h3⟩ := (h6.grown (World.grownBy_alloc w6 (Obj.cells #[.string T] 9) none)).want T (showV pq) HTT.out (by omega) ⟨w6.heap.size, 0, none⟩ 1 ((Lib.cell_of_heap (MapKept.heap_alloc w6 (Obj.cells #[.string T] 9)).1 0).trans rfl); have HR3 := hid hr3; have HB6 := hid h3.anew; clear hr3 h3 h6)
                | (at_builtin; (with_reducible refine Lib.wpList_append_run _ rfl _ _ _ _ rfl _ _ rfl rfl _ _ (HR3.out _) ?_))
                | fail)
              exact ⟨⟨k + 1, M2, _, Lw ++ [showV pq], [], by congr 1, by congr 1, by omega, by rw [HSN.out, HCV.out], HB6.out, HRP.out⟩, by simp [Lib.intOf]; omega⟩
            · have hxn : x.toNat ≠ 10 := fun e => hx10 (UInt8.toNat_inj.1 e)
              have e1 : ((x.toNat : Int) == 10) = false := by simp; omega
              have e1' : ((x.toNat : Int) != 10) = true := by simp; omega
              by_cases h128 : pq.length + 1 = 128
              · have e2 : (((pq.length : Int) + 1) == 128) = true := by simp; omega
                have HCV := hid (show comeV (Lw, pq) x = (Lw ++ [showV (pq ++ [x])], []) by unfold comeV; rw [if_neg hx10, if_pos (by simp; omega)])
                obtain ⟨T2, hT2⟩ : ∃ T : ByteArray, ⟨(showV (pq ++ [x])).toArray⟩ = T := ⟨_, rfl⟩
                have HT2 := hid hT2.symm
                clear hx10 hxn hT2 h128
                go_wp2_with (first
                  | (go_at_call 22; (with_reducible refine HWR.out.mono ?_); rintro e w5 ⟨rfl, h5⟩; have x5 : w5.cell? ⟨qb, qo + k, none⟩ = some (.int .u8 x.toNat) := h5.g.cell HX0.out (by simp); obtain ⟨v2, W2, hr2, ⟨p2, c2, rfl⟩, h2b⟩ := (h5.grown (World.grownBy_alloc w5 (Obj.cells #[.int .u8 x.toNat] 5) none)).line x (by omega) ⟨w5.heap.size, 0, none⟩ 1 ((Lib.cell_of_heap (MapKept.heap_alloc w5 (Obj.cells #[.int .u8 x.toNat] 5)).1 0).trans rfl); have HR2 := hid hr2; have HB7 := hid h2b; have x7 : W2.cell? ⟨qb, qo + k, none⟩ = some (.int .u8 x.toNat) := h2b.g.cell HX0.out (by simp); have HSH := hid (show Calls Tryd.prog 10 #[.slice p2 (pq.length + 1) c2] W2 fun e w' => e = .returned (.string T2) ∧ ∃ m, w' = W2.drewN m from by
                      obtain ⟨p', c', e, hb5, hlc5, _⟩ := own_ba h2b.ol
                      have el : (pq ++ [x]).length = pq.length + 1 := by simp
                      rw [el] at e
                      cases e
                      rw [HT2.out, ← el]
                      exact rShow (pq ++ [x]) p2 c2 W2 (by rw [el]; omega) hlc5 hb5); clear h5 hr2 h2b)
                  | (go_at_call 10; (with_reducible refine HSH.out.mono ?_); rintro e w6 ⟨rfl, m, hw6⟩; have h6 := HB7.out.grown (show W2.grownBy w6 none from hw6 ▸ grownBy_drewN W2 m none); clear hw6; obtain ⟨v3, W3, hr3, ⟨p3, c3, rfl⟩, h3⟩ := (h6.grown (World.grownBy_alloc w6 (Obj.cells #[.string T2] 9) none)).want T2 (showV (pq ++ [x])) HT2.out (by omega) ⟨w6.heap.size, 0, none⟩ 1 ((Lib.cell_of_heap (MapKept.heap_alloc w6 (Obj.cells #[.string T2] 9)).1 0).trans rfl); have HR3 := hid hr3; have HB6 := hid h3.anew; clear hr3 h3 h6)
                  | (at_builtin; first
                    | (with_reducible refine Lib.wpList_append_run _ rfl _ _ _ _ rfl _ _ rfl rfl _ _ (HR2.out _) ?_)
                    | (with_reducible refine Lib.wpList_append_run _ rfl _ _ _ _ rfl _ _ rfl rfl _ _ (HR3.out _) ?_)
                    | fail)
                  | fail)
                exact ⟨⟨k + 1, M2, _, Lw ++ [showV (pq ++ [x])], [], by congr 1, by congr 1, by omega, by rw [HSN.out, HCV.out], HB6.out, HRP.out⟩, by simp [Lib.intOf]; omega⟩
              · have e2 : (((pq.length : Int) + 1) == 128) = false := by simp; omega
                have HCV := hid (show comeV (Lw, pq) x = (Lw, pq ++ [x]) by unfold comeV; rw [if_neg hx10, if_neg (by simp; omega)])
                clear hx10 hxn h128
                go_wp2_with (first
                  | (go_at_call 22; (with_reducible refine HWR.out.mono ?_); rintro e w5 ⟨rfl, h5⟩; have x5 : w5.cell? ⟨qb, qo + k, none⟩ = some (.int .u8 x.toNat) := h5.g.cell HX0.out (by simp); obtain ⟨v2, W2, hr2, ⟨p2, c2, rfl⟩, h2b⟩ := (h5.grown (World.grownBy_alloc w5 (Obj.cells #[.int .u8 x.toNat] 5) none)).line x (by omega) ⟨w5.heap.size, 0, none⟩ 1 ((Lib.cell_of_heap (MapKept.heap_alloc w5 (Obj.cells #[.int .u8 x.toNat] 5)).1 0).trans rfl); have HR2 := hid hr2; have HB7 := hid h2b; have x7 : W2.cell? ⟨qb, qo + k, none⟩ = some (.int .u8 x.toNat) := h2b.g.cell HX0.out (by simp); clear h5 hr2 h2b)
                  | (at_builtin; (with_reducible refine Lib.wpList_append_run _ rfl _ _ _ _ rfl _ _ rfl rfl _ _ (HR2.out _) ?_))
                  | fail)
                exact ⟨⟨k + 1, M2, _, Lw, pq ++ [x], by congr 1, by congr 1, by omega, by rw [HSN.out, HCV.out], HB7.out, HRP.out⟩, by simp [Lib.intOf]; omega⟩
          · have ekb : k = bl := by omega
            subst k
            have hbtt : bt.take bl = bt := List.take_of_length_le (by have := HLEN.out; omega)
            have htk := HTK.out
            rw [hbtt] at htk
            have HTB := hid htk
            obtain ⟨q1, hq1⟩ : ∃ q, (P + bl) % 256 = q := ⟨_, rfl⟩
            obtain ⟨q2, hq2⟩ : ∃ q, (P + bl) / 256 % 256 = q := ⟨_, rfl⟩
            have e3 : IntKind.u8.wrap (((P : Int) + bl) % 256) = q1 := by simp [IntKind.wrap_u8]; omega
            have e4 : IntKind.u8.wrap (((P : Int) + bl) / 256 % 256) = q2 := by simp [IntKind.wrap_u8]; omega
            have hq1l : q1 < 256 := by omega
            have hq2l : q2 < 256 := by omega
            obtain ⟨W9, hW9⟩ : ∃ W9, wr.alloc (Obj.cells #[.int .u8 q1, .int .u8 q2] 5) = W9 := ⟨_, rfl⟩
            have HWR := hid (show Calls Tryd.prog 22 #[.pointer (some ⟨B, 0, none⟩), .int .i64 0, .int .i64 0, .slice (some ⟨wr.heap.size, 0, none⟩) 2 2] W9 _ from by
              have hlt := HB1.out.dw.fw.mach.lt
              rw [← hW9]
              exact (HB1.out.grown (World.grownBy_alloc wr (Obj.cells #[.int .u8 q1, .int .u8 q2] 5) none)).write 0 [UInt8.ofNat q1, UInt8.ofNat q2] (some ⟨wr.heap.size, 0, none⟩) 2 (by simp) (fun kk hkk => by
                refine ⟨wr.heap.size, 0, rfl, ?_⟩
                rcases (show kk = 0 ∨ kk = 1 by simp at hkk; omega) with rfl | rfl
                · simp only [Nat.zero_add, List.getD_cons_zero]
                  rw [UInt8.toNat_ofNat', Nat.mod_eq_of_lt hq1l]
                  exact (Lib.cell_of_heap (MapKept.heap_alloc wr (Obj.cells #[.int .u8 q1, .int .u8 q2] 5)).1 0).trans rfl
                · simp only [Nat.zero_add, List.getD_cons_succ, List.getD_cons_zero]
                  rw [UInt8.toNat_ofNat', Nat.mod_eq_of_lt hq2l]
                  exact (Lib.cell_of_heap (MapKept.heap_alloc wr (Obj.cells #[.int .u8 q1, .int .u8 q2] 5)).1 1).trans rfl) (fun a ha _ => by
                cases ha
                simp only
                omega))
            have HNP := hid (num_put (x := UInt8.ofNat q1) (y := UInt8.ofNat q2) HB1.out.good HRG.out)
            obtain ⟨M2, hM2⟩ : ∃ M2, (M1.write 0 ((0 : Nat) : Int) [UInt8.ofNat q1, UInt8.ofNat q2]).2 = M2 := ⟨_, rfl⟩
            rw [hM2] at HWR HNP
            have HQ1 := hid hq1
            have HQ2 := hid hq2
            have hLb : (Lw.length : Int) ≤ 128 * ((i : Int) + 1) := by have := HLEN.out; omega
            have ebb : ((bl : Int) != bl) = false := by simp
            clear hM2 hq1 hq2 htk hbtt hLw
            go_wp2_with (first
              | (go_at_call 22; (with_reducible refine HWR.out.mono ?_); rintro e w5 ⟨rfl, h5⟩; have HDR := hid (h5.drain (by omega) bt (by have := HLEN.out; omega) (fun j hj => HNP.out.1 j (by have := HLEN.out; omega)) (by rw [HNP.out.2.1, HLEN.out, HQ1.out]) (by rw [HNP.out.2.2, HLEN.out, HQ2.out]) hpp (by omega) HT.out h2); rw [HLEN.out, HTB.out] at HDR; clear h5)
              | (go_at_call 23; (with_reducible refine HDR.out.mono ?_); rintro e w6 ⟨rfl, n2, M3, vL2, vR2, hn2, h6⟩; have HB6 := hid h6; clear h6)
              | fail)
            exact ⟨⟨i + 1, n2, P + bl, M3, D1, Lw, pq, vL2, vR2, by congr 1, by congr 1, by omega, by omega, by omega, by omega, hpq, HB6.out⟩, by simp [Lib.intOf]; omega⟩
    · obtain rfl : i = ls.length := by omega
      obtain ⟨T, hT⟩ : ∃ T : ByteArray, ⟨(showV part).toArray⟩ = T := ⟨_, rfl⟩
      have HTT := hid hT.symm
      clear hT
      obtain ⟨p', c', e, hsw⟩ := own_sat rfl HBL.out.ow
      cases e
      obtain ⟨p', c', e, hbl5, hlc5, _⟩ := own_ba HBL.out.ol
      cases e
      have HSW := hid hsw
      have HLB := hid hbl5
      have HLC := hid hlc5
      clear hsw hbl5 hlc5
      have HLN := hid (cLines HBL.out.dw.kt (by omega))
      go_wp2_with (first
        | (go_at_call 17; (with_reducible refine HLN.out.mono ?_); rintro e w5 ⟨vo, rfl, ho, hg5⟩; obtain ⟨po, co, rfl, hso⟩ := own_sat rfl ho; have HB5 := hid (HBL.out.grown hg5); have HG5 := hid hg5; have HTX := hid (lTexts w5 po pw co cw L hso (HSW.out.grown hg5) (by omega)); clear ho hg5 hso)
        | (go_at_call 16; (with_reducible refine HTX.out.mono ?_); rintro e w6 ⟨rfl, hg6⟩; have HB6 := hid (HB5.out.grown hg6); have HG6 := hid (HG5.out.trans hg6); have HRS := hid (show Calls Tryd.prog 18 #[.pointer (some ⟨C, 0, none⟩)] w6 fun e w' => e = .returned (.string T) ∧ Below w6.heap.size w6 w' from by
            rw [HTT.out]
            exact cRest HB6.out.dw.kt (by omega) (tabs_D (S' := fun _ => False) HT.out (Chg.of0 HB6.out.g) id id)); clear hg6)
        | (go_at_call 18; (with_reducible refine HRS.out.mono ?_); rintro e w7 ⟨rfl, hb7⟩; have HB7 := hid (HB6.out.grown (grown_below hb7)); have HSH := hid (show Calls Tryd.prog 10 #[.slice pl part.length cl] w7 fun e w' => e = .returned (.string T) ∧ ∃ m, w' = w7.drewN m from by
            rw [HTT.out]
            exact rShow part pl cl w7 (by omega) HLC.out ((HLB.out.grown HG6.out).grown (grown_below hb7))); clear hb7)
        | (go_at_call 10; (with_reducible refine HSH.out.mono ?_); rintro e w8 ⟨rfl, m, hw8⟩; have HB8 := hid (HB7.out.grown (show w7.grownBy w8 none from hw8 ▸ grownBy_drewN w7 m none)); clear hw8; have HAW := hid (lAwake w8 (tabs_D (S' := fun _ => False) HT.out (Chg.of0 HB8.out.g) id id)))
        | (go_at_call 11; (with_reducible refine HAW.out.mono ?_); rintro e w9 ⟨rfl, hb9⟩; have HB9 := hid (HB8.out.grown (grown_below hb9)); clear hb9)
        | fail)
      go_ret
      exact ⟨rfl, below_grown HB9.out.g⟩
theorem main {H : Type} {enc : TypeId × Value → H} (v0 : Value) (W : World) (hT : Lib.Utf8Tabs 0 1 W) (c0 : Flat.Came enc Tryd.prog W 0 (fun _ => true) true 53 v0) (hn : ∀ p n c, v0 = .slice p n c → n ≤ 1048576) :
    Calls Tryd.prog 5 #[v0] W fun e w' => e = .returned (.bool true) ∧ Below W.heap.size W w' := by
  obtain ⟨p, ls, cap, rfl, hin, hl⟩ := came_parts c0
  have h1 := hn _ _ _ rfl
  exact walk p ls cap W hT (World.block_lt_of_cell? W _ (hT.2 0 (by decide)).1) hin (by omega)
theorem own : ownKnob Tryd.prog.godebug = none := by kernel_rfl
theorem laidOut : laidOutB Tryd.prog = true := by kernel_rfl
set_option maxRecDepth 100000 in
theorem contract (H : Type) (enc : TypeId × Value → H) (W : World) (base : Nat) (args : Array Value) (ds gs : List (DataW H)) (before : List MemPlace)
    (hval0 : ∀ (j : Nat) t v, Tryd.f5.params[j]? = some t → args[j]? = some v → Value.okWide Tryd.prog W .any base t v)
    (hW : DataW.Whole enc Tryd.prog Tryd.f5.params.toList Rows.consBytesSpec.vars false W args.toList ds gs before)
    (hk : Rows.uptoSmall H (ds ++ gs) = true)
    (hsz0 : (DataW.weightsEach Tryd.prog (Tryd.f5.params.toList ++ Rows.consBytesSpec.plain.varTypes Tryd.prog) (ds ++ gs)).all (· ≤ reachBytes) = true) (hT : Lib.Utf8Tabs 0 1 W) :
    Calls Tryd.prog 5 args W fun e W' => ∃ v, e = .returned v ∧ Rows.consBytesSpec.post enc Tryd.prog Tryd.f5 false true false false W args v W' := by
  have hsz := hsz0
  clear hsz0
  have hval : ∀ (j : Nat) t v, Tryd.f5.params[j]? = some t → args[j]? = some v → Value.okWide Tryd.prog W .any base t v := hval0
  have hW' := hW
  obtain ⟨p, q, hA0, hV, rfl, hfz, hnd⟩ := hW
  have hA : DataW.TrodAll enc Tryd.prog W 0 (fun _ => true) true Tryd.f5.params.toList args.toList ds p := hA0
  rw [Tryd.params5] at hA hval hsz
  obtain ⟨v0, vs0, d0, ds0, p0, q0, hargs, rfl, rfl, h0, r0⟩ := trodAll_cons hA
  obtain ⟨rfl, rfl, rfl⟩ := trodAll_nil r0
  obtain rfl : args = #[v0] := by cases args; simp_all
  obtain ⟨rfl, rfl⟩ := trodVars_none hV
  obtain ⟨ps0, ln0, cp0, rfl⟩ := okWide_slice Tryd.underlying53 (hval 0 53 v0 rfl rfl)
  have k0 := h0
  have lt0 : ∀ x ∈ p0, x.block < W.heap.size := by obtain ⟨m, hm⟩ := k0; exact DataW.trod_lt m _ _ _ hm
  have c0 : Flat.Came enc Tryd.prog W 0 (fun _ => true) true 53 (.slice ps0 ln0 cp0) := by
    obtain ⟨fuel, hf⟩ := h0
    exact ⟨fuel, _, hf, fun n hn => by
      have := List.all_eq_true.1 hsz n (DataW.weights_mem_each (j := 0) rfl rfl n hn)
      simpa using this⟩
  have n0 : ln0 ≤ 1048576 := small_len Tryd.underlying53 (Nat.le_trans (part_le (by simp)) (of_decide_eq_true hk)) h0
  clear hA0 hval0
  refine (main (.slice ps0 ln0 cp0) W hT c0 (fun _ _ _ e => by cases e; exact n0)).mono fun e W' ⟨he, bel⟩ => ?_
  subst he
  simp only [List.append_nil, List.nil_append] at hW'
  exact ⟨_, rfl, _, _, _, [], _, [], hW', trodAll_mk1 (shut_bool Tryd.underlying4 _), (trodAll_cons_mk (Below.trod laidOut (by kernel_rfl) (of_decide_eq_true (by kernel_rfl)) k0 bel lt0) trodAll_mk0), rfl, bel.frame _, fun h => by cases h⟩
theorem laid_met (os : Os) (args : Array Value) : laidMet Tryd.prog Rows.consBytesUptoRow.laid ((World.laidAll Tryd.prog os Rows.consBytesUptoRow.laid).forCall (fun _ _ => 0) ⟨#[], args, []⟩).memory :=
  laidMet_laidAll _ (by kernel_rfl) (by kernel_rfl)
theorem reads (os : Os) {H : Type} (enc : TypeId × Value → H) : ∃ places, DataW.whole enc Tryd.prog ((World.laidAll Tryd.prog os Rows.consBytesUptoRow.laid).forCall (fun _ _ => 0) ⟨#[], #[.slice none 0 0], []⟩).memory Tryd.f5.params.toList Rows.consBytesSpec.vars false (#[.slice none 0 0] : Array Value).toList 8 = some ([.nil], [], places) :=
  ⟨[], by kernel_rfl⟩
set_option maxRecDepth 100000 in
theorem lifted (os : Os) (started : os.Started) (H : Type) (enc : TypeId × Value → H) (F : Stop.Interp) :
    ReturnsInHanded {} Tryd.checked os 5 .any ((Rows.OpenSpec.upto Rows.consBytesSpec).preRow enc Tryd.prog Tryd.f5 Rows.consBytesUptoRow.domain false Rows.consBytesUptoRow.laid) (((Rows.OpenSpec.upto Rows.consBytesSpec).at F).post enc Tryd.prog Tryd.f5 false true false false) := by
  obtain ⟨places, hx⟩ := reads os enc
  refine returnsInHanded_of_row (C := Tryd.checked) (s := (Rows.OpenSpec.upto Rows.consBytesSpec)) own started (by kernel_rfl) Tryd.func5
    (witness_row_at (enc := enc) (C := Tryd.checked) false (World.laidAll Tryd.prog os Rows.consBytesUptoRow.laid) #[.slice none 0 0] (World.laidAll_os _ _ _) (by kernel_rfl) (by kernel_rfl) (by kernel_rfl)
      (OpenSpec.preRow_of_cond 8 hx (by kernel_rfl) (fun k hk => by cases hk; kernel_rfl) (by kernel_rfl) (laid_met os _))) ?_
  intro W base args ds gs before hval hW _ hcond hsz hL _ _
  exact contract H enc W base args ds gs before hval hW (hcond _ rfl) hsz (tabs_of hL (.head _) (.tail _ (.head _)))
theorem said : Rows.ConsBytesUptoSaid :=
  OpenClaim.holds_of_cond 5 Tryd.f5 rfl rfl rfl rfl rfl rfl rfl ⟨rfl, rfl, rfl, rfl, rfl⟩ rfl rfl rfl rfl rfl (by kernel_rfl) Tryd.func5 (by kernel_rfl)
    (of_decide_eq_true (by kernel_rfl)) (by unfold Func.isWrapper; first | (rw [if_pos (by decide +kernel)]; kernel_rfl) | (rw [if_neg (by decide +kernel)]; exact ⟨rfl, rfl⟩))
    (fun os started H enc _ F => by rw [OpenClaim.pre_eq_preRow]; exact lifted os started H enc F)
theorem plain (f : FuncId) (fn : Func) (hf : Tryd.pinned.checked.prog.funcNamed "tenement/tenementlaw16.ConsBytes" = some f) (hfn : Tryd.pinned.checked.prog.funcs[f]? = some fn) :
    false = Tryd.pinned.checked.prog.looks [] ∧ ∀ (j : Nat) t, fn.params[j]? = some t → Tryd.pinned.checked.prog.wantsStandIn t = false := by
  obtain rfl : f = 5 := Option.some.inj ((show Tryd.prog.funcNamed "tenement/tenementlaw16.ConsBytes" = some 5 by kernel_rfl).symm.trans hf) |>.symm
  obtain rfl : fn = Tryd.f5 := (Option.some.inj (Tryd.func5.symm.trans hfn)).symm
  refine ⟨by kernel_rfl, fun j t ht => ?_⟩
  rw [Tryd.params5] at ht
  have hm : t ∈ [53] := by have := Array.mem_of_getElem? ht; simp at this ⊢; omega
  have hall : ([53].all fun u => !Tryd.prog.wantsStandIn u) = true := by kernel_rfl
  exact (show Tryd.prog.wantsStandIn t = false by simpa using List.all_eq_true.1 hall t hm)
theorem card : Rows.ConsBytesUptoCardSaid :=
  Claim7.holds_tied_plain_at .later [] _ _ _ _ said (fun _ h => by cases h) (by kernel_rfl) (fun _ h => by cases h) consBytesUpto_row_tie rfl ⟨rfl, rfl⟩ (by kernel_rfl) rfl plain (by kernel_rfl)
#print axioms card
end Go.Proofs.YtnplkifohocekaaDoor.lawCoBytes
