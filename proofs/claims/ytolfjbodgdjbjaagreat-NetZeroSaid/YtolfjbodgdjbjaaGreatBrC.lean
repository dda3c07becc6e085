/-
  Package bridge: slices.Delete at queues, drop, done, direct of a port.
-/
import Derived.Test.YtolfjbodgdjbjaaGreatBrB
import Derived.Deep.RegionLaw
import Derived.Deep.AppendLies
set_option linter.unusedSimpArgs false
set_option linter.unusedVariables false
namespace Go.Proofs.YtolfjbodgdjbjaaGreat.Br
open Go.RowKit Gen Bk
set_option maxHeartbeats 1000000

/-- an append by its equation, at a step of a region that draws its order -/
theorem step_append_run {P : Program} {ops : Array Oper} {o : Oper} {a : Act} {w : World} {K : Act → World → Prop} {Q : Exit → Act → World → Prop} {E : Prop} (hgd : o.guard = none) (s x : Operand) (t tn : TypeId)
    (ho : o.op = .call { callee := .builtin .append, args := #[s, x], argTypes := #[t, tn] }) (vs vx : Value) (hs : a.eval s = vs) (hx : a.eval x = vx)
    (v' : Value) (w' : World) (hr : (Builtin.append_ #[t, tn] o.type #[vs, vx]).run P w = .ok v' w') (h : K (a.put o.dst v') w') :
    if Region.wanted o (yielded ops a.tmps) = true then Oper.wp P o a w K Q else E := by
  have hw : Region.wanted o (yielded ops a.tmps) = true := by simp [Region.wanted, hgd]
  rw [if_pos hw]
  exact Lib.wp_append_run w s x t tn ho vs vx hs hx v' w' hr h
section
variable {C : Nat → Prop} {lab lab' : Nat → Nat} {w w' : World} {b g m : Nat} {lq : Nat → Lq} {S : Sw} {k : Nat} {s : Sd}
theorem Frs.one : ∀ {xs : List Value} {q : List (List UInt8)}, Frs lab w xs q → ∀ v ∈ xs, v.oneCell' = true
  | [], [], _, v, hv => by cases hv
  | x :: xs, _ :: q, h, v, hv => by
    obtain ⟨⟨p, c, rfl, _⟩, h2⟩ := h
    rcases List.mem_cons.1 hv with rfl | hv
    · rfl
    · exact Frs.one h2 v hv
  | [], _ :: _, h, _, _ => absurd h (by simp [Frs])
  | _ :: _, [], h, _, _ => absurd h (by simp [Frs])
theorem zero_sl (w : World) : (zeroValue 59).run Tryz.prog w = .ok (.slice none 0 0) w := by rw [Tryz.zeroValue59]
theorem und_sl : Tryz.prog.underlying 59 ≠ none := by rw [Tryz.underlying59]; simp
set_option maxRecDepth 100000 in
theorem bDelete {L : Nat} {p : Option Addr} {c : Nat} {x : Value} {xs : List Value} (h : QSl lab w L p c (x :: xs)) (h1 : ∀ v ∈ xs, v.oneCell' = true) (hsm : xs.length ≤ 100) :
    Calls Tryz.prog 91 #[.slice p (xs.length + 1) c, .int .i64 0, .int .i64 1] w fun e w' => e = .returned (.slice p xs.length c) ∧ QSl lab w' L p c xs ∧ St (fun l => l = L) lab w lab w' := by
  obtain ⟨i0, hi, hz0, hz1, hz2⟩ := info_parts info_sl
  obtain ⟨kk, o, p', rfl, e1, e2, e3, e4, e5, e6, hq, hg, hl⟩ := (h.grown (grownBy_drew w none)).del h1 145 59 i0 (.slice none 0 0) Tryz.underlying145 hi hz1 zero_sl rfl rfl und_sl
  have HQ := hid hq
  have HG := hid (grown_any (grownBy_drew w none) (some kk) |>.trans hg)
  have HL := hid hl
  obtain ⟨W2, hW2⟩ : ∃ W, (w.drew.setCells kk o xs).setCells kk (o + xs.length) [.slice none 0 0] = W := ⟨_, rfl⟩
  rw [hW2] at HQ HG e6
  obtain ⟨W1, hW1⟩ : ∃ W, w.drew.setCells kk o xs = W := ⟨_, rfl⟩
  rw [hW1] at e4 e6
  clear h h1 hq hg hl hW1 hW2 hz0 hz1 hz2 hi
  obtain ⟨n, hn⟩ : ∃ n, xs.length = n := ⟨_, rfl⟩
  rw [hn] at e1 e2 e3 e4 e5 e6 hsm ⊢
  simp only [Int.natCast_add, Int.cast_ofNat_Int] at e1 e5
  have hn0 : (0 : Int) ≤ n := by omega
  have E4 := hid e4
  clear e4
  go_enter Tryz.func91, Tryz.ntmps91
  go_wp2
  go_region_law (refine step_append_run (by rfl) (.tmp 22) (.tmp 25) 145 145 (by rfl) (.slice (some ⟨kk, o, none⟩) 0 c) (.slice p' n (c - 1)) (by simp [Act.eval, Act.put]) (by simp [Act.eval, Act.put]) (.slice (some ⟨kk, o, none⟩) n c) W1 (E4.out _) ?_)
  go_wp2
  go_ret
  exact ⟨rfl, HQ.out, St.one HG.out HL.out⟩
/-- drop -/
theorem bdrop_no (h : PS lab w b g m lq (S.set k s)) (hk : k < S.n) (hq : s.q = []) : Calls Tryz.prog 83 #[.pointer (some ⟨g, k * 13 + 3, none⟩)] w fun e w' => e = .returned (.bool false) ∧ w = w' := by
  have c3 := h.at_q hk
  rw [hq] at c3
  simp only [List.length_nil] at c3
  clear h hq
  go_enter Tryz.func83, Tryz.ntmps83
  go_wp2
  go_ret
  exact ⟨rfl, rfl⟩
theorem bdrop_yes (h : PS lab w b g m lq (S.set k s)) (hn : S.n ≤ 8) (hk : k < S.n) {f : List UInt8} {fs : List (List UInt8)} (hq : s.q = f :: fs) (h4 : s.q.length ≤ 4) :
    Calls Tryz.prog 83 #[.pointer (some ⟨g, k * 13 + 3, none⟩)] w fun e w' => e = .returned (.bool true) ∧ Aft lab w b g m (S.set k { s with q := fs }) w' := by
  have c3 := h.at_q hk
  obtain ⟨xs, hx, hf⟩ := h.qat hk
  rw [hq] at hf c3 h4
  simp only [List.length_cons] at c3 h4
  cases xs with
  | nil => exact absurd hf (by simp [Frs])
  | cons x xs =>
    have hlen := hf.2.len
    have HD := hid (bDelete hx hf.2.one (by omega))
    rw [hlen] at HD
    have HP := hid (fun (lab1 : Nat → Nat) (w1 : World) (hq1 : QSl lab1 w1 (16 + k) (lq k).p (lq k).c xs) (st : St (fun l => l = 16 + k) lab w lab1 w1) => h.setq hn hk st (L := lq k) hq1 (hf.2.st st (by omega)) (v := .slice (lq k).p fs.length (lq k).c) rfl)
    have h0 : (((fs.length + 1 : Nat) : Int) == 0) = false := by simp; omega
    have h1 : (0 : Int) ≤ fs.length := by omega
    clear h hx hf hq
    go_enter Tryz.func83, Tryz.ntmps83
    go_wp2_with (go_at_call 91; refine HD.out.mono ?_; rintro e w1 ⟨rfl, hq1, st1⟩; obtain ⟨R, S2, c4, fz⟩ := HP.out _ _ hq1 st1; have HR := hid R; have HS := hid S2; clear hq1 st1 R S2)
    go_ret
    exact ⟨rfl, _, _, HR.out, HS.out⟩
/-- done -/
theorem bdone (h : PS lab w b g m lq (S.set k s)) (hn : S.n ≤ 8) (hk : k < S.n) (h4 : s.q.length ≤ 4) (h1 : s.del ≤ 2305843009213693952) (h2 : s.noBuf ≤ 2305843009213693952) (d : Bool) :
    Calls Tryz.prog 72 #[.pointer (some ⟨g, k * 13, none⟩), .bool d] w fun e w' => e = .returned (.int .i64 (s.doneE : Nat)) ∧ Aft lab w b g m (S.set k (s.doneS d)) w' := by
  unfold Sd.doneE Sd.doneS
  by_cases hq : s.q = []
  · rw [if_pos hq, if_pos hq]
    have HD := hid (bdrop_no h hk hq)
    have HA := hid h.aft
    clear h
    go_enter Tryz.func72, Tryz.ntmps72
    go_wp2_with (go_at_call 83; refine HD.out.mono ?_; rintro e w1 ⟨rfl, rfl⟩)
    go_ret
    exact ⟨rfl, HA.out⟩
  · rw [if_neg hq, if_neg hq]
    obtain ⟨f, fs, hq⟩ : ∃ f fs, s.q = f :: fs := by cases e : s.q with | nil => exact absurd e hq | cons f fs => exact ⟨f, fs, rfl⟩
    have HD := hid (bdrop_yes h hn hk hq h4)
    clear h
    unfold Sd.doneB
    rw [hq]
    simp only [List.tail_cons]
    cases d with
    | true =>
      simp only [if_true]
      go_enter Tryz.func72, Tryz.ntmps72
      go_wp2_with (go_at_call 83; refine HD.out.mono ?_; rintro e w1 ⟨rfl, lab1, lq1, p1, st1⟩; have P1 := hid p1; have S1 := hid st1; have c9 := p1.at_del hk; have fz := p1.fz (k * 13 + 9); clear p1 st1; simp only at c9)
      go_ret
      obtain ⟨q, gg⟩ := P1.out.set_del hn hk (s.del + 1) (y := (s.del : Int) + 1) (by omega)
      exact ⟨rfl, _, _, q, S1.out.tr (P1.out.stg gg)⟩
    | false =>
      simp only [Bool.false_eq_true, if_false]
      go_enter Tryz.func72, Tryz.ntmps72
      go_wp2_with (go_at_call 83; refine HD.out.mono ?_; rintro e w1 ⟨rfl, lab1, lq1, p1, st1⟩; have P1 := hid p1; have S1 := hid st1; have c9 := p1.at_noBuf hk; have fz := p1.fz (k * 13 + 11); clear p1 st1; simp only at c9)
      go_ret
      obtain ⟨q, gg⟩ := P1.out.set_noBuf hn hk (s.noBuf + 1) (y := (s.noBuf : Int) + 1) (by omega)
      exact ⟨rfl, _, _, q, S1.out.tr (P1.out.stg gg)⟩
/-- direct of a port -/
theorem bdirect1 (h : PS lab w b g m lq (S.set k s)) (hn : S.n ≤ 8) (hk : k < S.n) (fp : Option Addr) (f : List UInt8) (fc : Nat) (hb : BU lab w fp f) (h1 : s.dir ≤ 2305843009213693952) (h2 : s.full ≤ 2305843009213693952) :
    Calls Tryz.prog 82 #[.pointer (some ⟨g, k * 13, none⟩), .slice fp f.length fc] w fun e w' => e = .returned (.tuple #[]) ∧ Aft lab w b g m (S.set k (s.dirF f)) w' := by
  obtain ⟨q1, g1⟩ := h.set_dir hn hk (s.dir + 1) (y := (s.dir : Int) + 1) (by omega)
  have c4 := h.at_dir hk
  have fz := h.fz (k * 13 + 8)
  obtain ⟨W1, hW1⟩ : ∃ W, w.setCell ⟨g, k * 13 + 8, none⟩ (.int .i64 ((s.dir : Int) + 1)) = W := ⟨_, rfl⟩
  rw [hW1] at q1 g1
  have st1 := h.stg g1
  have hb1 := hb.st st1 (by unfold CP; omega)
  have ST := hid st1
  unfold Sd.dirF
  by_cases hq : s.q.length < 4
  · rw [if_pos hq]
    have HP := hid (bput_yes q1 hn hk fp f fc hb1 hq)
    clear h q1 g1 st1 hb hb1
    go_enter Tryz.func82, Tryz.ntmps82
    go_wp2_with (go_at_call 90; refine HP.out.mono ?_; rintro e w1 ⟨rfl, ha⟩; have HA := hid ha; clear ha)
    go_end0
    exact ⟨rfl, Aft.first ST.out HA.out⟩
  · rw [if_neg hq]
    have HP := hid (bput_no q1 hk (.slice fp f.length fc) hq)
    have c12 := q1.at_full hk
    have fz12 := q1.fz (k * 13 + 12)
    simp only at c12
    have Q1 := hid q1
    clear h q1 g1 st1 hb hb1
    go_enter Tryz.func82, Tryz.ntmps82
    go_wp2_with (go_at_call 90; refine HP.out.mono ?_; rintro e w1 ⟨rfl, rfl⟩)
    go_end0
    obtain ⟨q, gg⟩ := Q1.out.set_full hn hk (s.full + 1) (y := (s.full : Int) + 1) (by omega)
    exact ⟨rfl, _, _, q, ST.out.tr (Q1.out.stg gg)⟩
end
end Go.Proofs.YtolfjbodgdjbjaaGreat.Br
