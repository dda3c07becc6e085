/-
  Package tenementlaw03: play, at every call.
-/
import Derived.Test.YtpickaoeaidihaaPplay
namespace Go.Proofs.Ytpickaoeaidihaa
open Go.RowKit Gen
set_option maxHeartbeats 400000

theorem pbox3 (w : World) (v0 v1 v2 : Value) : ∃ W, w.alloc (.cells #[v0, v1, v2] 31) = W ∧ w.grownBy W none ∧ W.heap.size = w.heap.size + 1 ∧ Row W w.heap.size 31 3 (fun k => [v0, v1, v2].getD k undef) :=
  ⟨_, rfl, World.grownBy_alloc w _ none, by simp, Row.new w _ _ _ _ (by simp) fun k hk => by match k, hk with | 0, _ => rfl | 1, _ => rfl | 2, _ => rfl⟩
/-- what a call of play leaves -/
def PPlayed (b f p c : Nat) (L : RL) (M : Mp) (T : Nat) (w w' : World) : Prop := ∃ M', PPair w' b f p c L M' T ∧ M'.ok ∧ M'.n = M.n ∧ Chg (both b f p c L) w w'
theorem pplayed {w W w1 w2 : World} {b f p c : Nat} {L : RL} {M M' : Mp} {T : Nat} (hg : w.grownBy W none) (h : PPair W b f p c L M T) (h1 : PLeft b f p W M' (T + 1) w1) (h2 : RMap w2 c L M') (c2 : Chg (rfoot c L) w1 w2) (hok : M'.ok) (hn : M'.n = M.n) : PPlayed b f p c L M (T + 1) w w2 :=
  ⟨M', ⟨h1.map.chg c2 h.sep, h2, h.sep⟩, hok, hn, ((Chg.of0 hg).trans (h1.chg.mono (S' := both b f p c L) fun k hk => .inl hk) fun k hk => .inl hk).trans (c2.mono (S' := both b f p c L) fun k hk => .inr hk) fun k hk => .inl hk⟩
theorem PPair.r1 {W w1 : World} {b f p c : Nat} {L : RL} {M M' : Mp} {T : Nat} (h : PPair W b f p c L M T) (h1 : PLeft b f p W M' (T + 1) w1) : RMap w1 c L M := h.r.chg h1.chg fun k hk hk' => h.sep k hk' hk
theorem setE_n (M : Mp) (g m : Int) : (M.setE g m).1.n = M.n := by unfold Mp.setE; (repeat' split) <;> rfl
theorem clearE_n (M : Mp) (g : Int) : (M.clearE g).1.n = M.n := by
  rcases M.getE_cases g with ⟨m, _, _, _, e⟩ | ⟨_, _, _, e⟩ | ⟨_, _, e⟩ <;> rw [e] <;> rfl

set_option maxRecDepth 100000 in
theorem pplay_any (x a d : Int) (hx : I64 x) (ha : I64 a) (hd : I64 d) (b f p c : Nat) (L : RL) (M : Mp) (T : Nat) (hT : T < maxLen) (w : World) (h : PPair w b f p c L M T) (hok : M.ok) :
    Calls Try.prog 12 #[.pointer (some ⟨b, 0, none⟩), .pointer (some ⟨c, 0, none⟩), .agg #[.int .i64 x, .int .i64 a, .int .i64 d]] w fun e w' => e = .returned (.bool true) ∧ PPlayed b f p c L M (T + 1) w w' := by
  obtain ⟨W, hW, hg, hs, hrow⟩ := pbox3 w (.int .i64 x) (.int .i64 a) (.int .i64 d)
  have HP := hid (h.grown hg)
  have HG := hid hg
  have HOk := hid hok
  have HT := hid hT
  have HA := hid ha
  have HDi := hid hd
  have hne : ¬ both b f p c L w.heap.size := fun h' => Nat.lt_irrefl _ (h.lt h')
  have hn1 := hid (fun h' => hne (.inl h') : ¬ pfoot b f p w.heap.size)
  have hn2 := hid (fun h' => hne (.inr h') : ¬ rfoot c L w.heap.size)
  have c0 : W.cell? ⟨w.heap.size, 0, none⟩ = some (.int .i64 x) := hrow.cell (k := 0) (by omega)
  have c1 : W.cell? ⟨w.heap.size, 1, none⟩ = some (.int .i64 a) := hrow.cell (k := 1) (by omega)
  have c2 : W.cell? ⟨w.heap.size, 2, none⟩ = some (.int .i64 d) := hrow.cell (k := 2) (by omega)
  clear h hg hok hT ha hd hne hrow
  by_cases h0 : x = 0
  · subst h0
    have hb : ((M.setE a d).2 == (M.setE a d).2) = true := by simp
    go_enter Try.func12, Try.ntmps12
    go_wp2_with (first
      | (go_at_call 15; refine (pSet_yes b f p M T a d HA.out HDi.out HT.out _ HP.out.m).mono ?_; rintro e w1 ⟨rfl, hl⟩; have k1 := hl.chg.cell c1 hn1.out; have k2 := hl.chg.cell c2 hn1.out; have HL := hid hl; clear hl)
      | (go_at_call 24; refine (rSet c L M a d _ (HP.out.r1 HL.out) HOk.out).mono ?_; rintro e w2 ⟨rfl, hr, hc⟩; have HF := hid (pplayed HG.out HP.out HL.out hr hc (Mp.setE_ok HOk.out a d) (setE_n M a d)); clear hr hc))
    go_ret
    exact ⟨by simp, HF.out⟩
  · have h0b : (x == 0) = false := by simp [h0]
    clear h0
    by_cases h1 : x = 1
    · subst h1
      have hb : ((M.clearE a).2.1 == (M.clearE a).2.1) = true := by simp
      have hb2 : ((M.clearE a).2.2 == (M.clearE a).2.2) = true := by simp
      go_enter Try.func12, Try.ntmps12
      go_wp2_with (first
        | (go_at_call 11; refine (pClear_yes b f p M T a HA.out _ HP.out.m HOk.out).mono ?_; rintro e w1 ⟨rfl, hl⟩; have k1 := hl.chg.cell c1 hn1.out; have HL := hid (PLeft.mk (hl.map.mono (Nat.le_succ T)) hl.chg); clear hl)
        | (go_at_call 25; refine (rClear c L M a _ (HP.out.r1 HL.out) HOk.out).mono ?_; rintro e w2 ⟨rfl, hr, hc⟩; have HF := hid (pplayed HG.out HP.out HL.out hr hc (Mp.clearE_ok HOk.out a) (clearE_n M a)); clear hr hc))
      go_ret
      exact ⟨by simp, HF.out⟩
    · have h1b : (x == 1) = false := by simp [h1]
      clear h1
      have HF := hid (show PPlayed b f p c L M (T + 1) w W from ⟨M, HP.out.mono (by omega), HOk.out, rfl, Chg.of0 HG.out⟩)
      by_cases h2 : x = 2
      · subst h2
        have hb : ((M.getE a).1 == (M.getE a).1) = true := by simp
        have hb2 : ((M.getE a).2 == (M.getE a).2) = true := by simp
        go_enter Try.func12, Try.ntmps12
        go_wp2_with (first
          | (go_at_call 17; refine (pGet_yes b f p M T a HA.out _ HP.out.m).mono ?_; rintro e w1 ⟨rfl, rfl⟩)
          | (go_at_call 26; refine (rGet c L M a _ HP.out.r HOk.out).mono ?_; rintro e w2 ⟨rfl, rfl⟩))
        go_ret
        exact ⟨by simp, HF.out⟩
      · have h2b : (x == 2) = false := by simp [h2]
        clear h2
        have hb : ((M.findE a).1 == (M.findE a).1) = true := by simp
        have hb2 : ((M.findE a).2 == (M.findE a).2) = true := by simp
        go_enter Try.func12, Try.ntmps12
        go_wp2_with (first
          | (go_at_call 18; refine (pFind_yes b f p M T a HA.out _ HP.out.m).mono ?_; rintro e w1 ⟨rfl, rfl⟩)
          | (go_at_call 27; refine (rFind c L M a _ HP.out.r HOk.out).mono ?_; rintro e w2 ⟨rfl, rfl⟩))
        go_ret
        exact ⟨by simp, HF.out⟩
end Go.Proofs.Ytpickaoeaidihaa
