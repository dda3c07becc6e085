/-
  Package grant: Push at an end that a grant names; Pull and Push of numbers below 0.
-/
import Derived.Test.YtkdoaidcmmehoaaJ2
import Derived.Deep.RegionHeld3
import Derived.Deep.Cut
import Derived.Test.YtkdoaidcmmehoaaJ5L
import Derived.Test.YtkdoaidcmmehoaaJ5
set_option linter.unusedSimpArgs false
set_option linter.unusedVariables false
namespace Go.Proofs.Ytkdoaidcmmehoaa
open Go.RowKit KM
set_option maxHeartbeats 1000000
set_option maxRecDepth 100000

section
variable {w : World} {X B G : Nat} {pm : Nat → Nat × Nat × Nat} {np : Nat} {s : Gs} {T : Nat} {V Gv : Nat} {S : Nat → Prop} {l : List PokeV} {n : Nat}
theorem gFind_arg (h : GW w X B G pm np s T V Gv S l n) (c : Int) (gr : Bool) (d r p off k : Int) (hb : gdom c = false ∨ k < 0 ∨ off < 0) :
    Calls Try.prog 124 #[.pointer (some ⟨X, 0, none⟩), .pointer (some ⟨V, 0, none⟩), .int .i64 c, .agg #[.bool gr, .int .i64 d, .int .i64 r, .int .i64 p, .int .i64 off], .int .i64 k] w fun e w' => e = .returned (.tuple #[.nilIface, .int .i64 1]) ∧ w.grownBy w' none := by
  obtain ⟨W1, hW1⟩ : ∃ W, w.alloc (.cells #[.bool gr, .int .i64 d, .int .i64 r, .int .i64 p, .int .i64 off] 104) = W := ⟨_, rfl⟩
  have hg1 : w.grownBy W1 none := hW1 ▸ World.grownBy_alloc _ _ none
  have q4 : W1.cell? ⟨w.heap.size, 4, none⟩ = some (.int .i64 off) := by rw [← hW1]; simp [go_sem]
  have c0 := (h.grown hg1).c0
  obtain ⟨f, hv⟩ := (h.grown hg1).v
  have HV := hid (gIsView_yes V Gv B S l n l.length f W1 hv)
  have HG1 := hid hg1
  have HD := hid (gIsDom c W1)
  clear h hg1 hv
  rcases hb with hd | hb
  · rw [hd] at HD
    go_enter Try.func124, Try.ntmps124
    go_wp2_with (first
      | (go_at_call 111; (with_reducible refine (gMade_yes X B _ c0).mono ?_); rintro e w' ⟨rfl, rfl⟩)
      | (go_at_call 112; (with_reducible refine HV.out.mono ?_); rintro e w' ⟨rfl, rfl⟩)
      | (go_at_call 113; (with_reducible refine HD.out.mono ?_); rintro e w' ⟨rfl, rfl⟩))
    go_ret2
    exact ⟨rfl, HG1.out⟩
  cases hd : gdom c with
  | false =>
    rw [hd] at HD
    clear hb
    go_enter Try.func124, Try.ntmps124
    go_wp2_with (first
      | (go_at_call 111; (with_reducible refine (gMade_yes X B _ c0).mono ?_); rintro e w' ⟨rfl, rfl⟩)
      | (go_at_call 112; (with_reducible refine HV.out.mono ?_); rintro e w' ⟨rfl, rfl⟩)
      | (go_at_call 113; (with_reducible refine HD.out.mono ?_); rintro e w' ⟨rfl, rfl⟩))
    go_ret2
    exact ⟨rfl, HG1.out⟩
  | true =>
    rw [hd] at HD
    by_cases hk : k < 0
    · clear hb
      go_enter Try.func124, Try.ntmps124
      go_wp2_with (first
        | (go_at_call 111; (with_reducible refine (gMade_yes X B _ c0).mono ?_); rintro e w' ⟨rfl, rfl⟩)
        | (go_at_call 112; (with_reducible refine HV.out.mono ?_); rintro e w' ⟨rfl, rfl⟩)
        | (go_at_call 113; (with_reducible refine HD.out.mono ?_); rintro e w' ⟨rfl, rfl⟩))
      go_ret2
      exact ⟨rfl, HG1.out⟩
    · have ho : off < 0 := by omega
      have hk0 : 0 ≤ k := by omega
      clear hb hk
      go_enter Try.func124, Try.ntmps124
      go_wp2_with (first
        | (go_at_call 111; (with_reducible refine (gMade_yes X B _ c0).mono ?_); rintro e w' ⟨rfl, rfl⟩)
        | (go_at_call 112; (with_reducible refine HV.out.mono ?_); rintro e w' ⟨rfl, rfl⟩)
        | (go_at_call 113; (with_reducible refine HD.out.mono ?_); rintro e w' ⟨rfl, rfl⟩))
      go_ret2
      exact ⟨rfl, HG1.out⟩
theorem gPull_arg (h : GW w X B G pm np s T V Gv S l n) (c : Int) (gr : Bool) (d r p off k : Int) (hb : gdom c = false ∨ k < 0 ∨ off < 0) :
    Calls Try.prog 58 #[.pointer (some ⟨X, 0, none⟩), .pointer (some ⟨V, 0, none⟩), .int .i64 c, .agg #[.bool gr, .int .i64 d, .int .i64 r, .int .i64 p, .int .i64 off], .int .i64 k] w fun e w' => e = .returned (.tuple #[.slice none 0 0, .int .i64 1]) ∧ w.grownBy w' none := by
  have hg1 := World.grownBy_alloc w (.cells #[.bool gr, .int .i64 d, .int .i64 r, .int .i64 p, .int .i64 off] 104) none
  have HF := hid (gFind_arg (h.grown hg1) c gr d r p off k hb)
  have HG1 := hid hg1
  clear h hg1 hb
  go_enter Try.func58, Try.ntmps58
  go_wp2_with (go_at_call 124; (with_reducible refine HF.out.mono ?_); rintro e w2 ⟨rfl, g2⟩; have G2 := hid g2; clear g2)
  go_ret2
  exact ⟨rfl, HG1.out.trans G2.out⟩
theorem gPush_arg (h : GW w X B G pm np s T V Gv S l n) (c : Int) (gr : Bool) (d r p off : Int) (pa : Option Addr) (k cap : Nat) (hb : gdom c = false ∨ off < 0) :
    Calls Try.prog 60 #[.pointer (some ⟨X, 0, none⟩), .pointer (some ⟨V, 0, none⟩), .int .i64 c, .agg #[.bool gr, .int .i64 d, .int .i64 r, .int .i64 p, .int .i64 off], .slice pa k cap] w fun e w' => e = .returned (.int .i64 1) ∧ w.grownBy w' none := by
  have hg1 := World.grownBy_alloc w (.cells #[.bool gr, .int .i64 d, .int .i64 r, .int .i64 p, .int .i64 off] 104) none
  have HF := hid (gFind_arg (h.grown hg1) c gr d r p off k (by rcases hb with hb | hb; exact .inl hb; exact .inr (.inr hb)))
  have HG1 := hid hg1
  clear h hg1 hb
  go_enter Try.func60, Try.ntmps60
  go_wp2_with (go_at_call 124; (with_reducible refine HF.out.mono ?_); rintro e w2 ⟨rfl, g2⟩; have G2 := hid g2; clear g2)
  go_ret
  exact ⟨rfl, HG1.out.trans G2.out⟩
end
end Go.Proofs.Ytkdoaidcmmehoaa

/-
  Package grant: Push at an end that a grant names.
-/
set_option linter.unusedSimpArgs false
set_option linter.unusedVariables false
namespace Go.Proofs.Ytkdoaidcmmehoaa
open Go.RowKit KM
set_option maxHeartbeats 8000000
set_option maxRecDepth 100000

theorem as_grant (v : Value) (W : World) : (Instr.typeAssert (.iface 215 v) 209 215 true).run Try.prog W = .ok (.tuple #[v, .bool true]) W := by kernel_rfl
section
variable {w : World} {X B G : Nat} {pm : Nat → Nat × Nat × Nat} {np : Nat} {s : Gs} {T : Nat} {V Gv : Nat} {S : Nat → Prop} {l : List PokeV} {n : Nat}
theorem gPushG_no (h : GW w X B G pm np s T V Gv S l n) {K : Int} (hok : s.M.ok K) (hl : ∀ p ∈ l, p.fits) (hll : l.length ≤ 64) (hn : (n : Int) < 9223372036854775807) (c : Int) (hc : gdom c = true) (d r : Nat) (hd : d < 8) (hr : r < 32) (t : Int) (i : Nat) (hm : s.g.mem d = some (t, i)) (ht0 : 0 ≤ t) (ht1 : t < s.M.n) (hi : i < np) (p off : Int) (ho : 0 ≤ off) (pa : Option Addr) (k cap : Nat) (hR : (s.due l n).endG ((s.due l n).entB d r) c d = none) :
    Calls Try.prog 60 #[.pointer (some ⟨X, 0, none⟩), .pointer (some ⟨V, 0, none⟩), .int .i64 c, .agg #[.bool true, .int .i64 d, .int .i64 r, .int .i64 p, .int .i64 off], .slice pa k cap] w fun e w' => e = .returned (.int .i64 60) ∧ GR w X B G pm np (s.due l n) T V Gv S l (n + 1) w' := by
  have hg1 := World.grownBy_alloc w (.cells #[.bool true, .int .i64 d, .int .i64 r, .int .i64 p, .int .i64 off] 104) none
  have HF := hid (gFindG (h.grown hg1) hok hl hll hn c hc d r hd hr t i hm ht0 ht1 hi p off k ho (by omega) none hR)
  simp only [endRet] at HF
  have H0 := hid h
  have HG1 := hid hg1
  clear h hok hl hll hn hm ht0 ht1 hg1 hc hR hd hr hi
  go_enter Try.func60, Try.ntmps60
  go_wp2_with (go_at_call 124; (with_reducible refine HF.out.mono ?_); rintro e w2 ⟨rfl, h2⟩; have H2 := hid h2; clear h2)
  go_ret
  exact ⟨rfl, GR.first H0.out HG1.out H2.out⟩
theorem end8 {w W : World} {m gk : Int} {ro sub : Bool} {dm gp gf gl : Int} (hg : (w.alloc (.cells #[.int .i64 m, .int .i64 gk, .bool ro, .bool sub, .int .i64 dm, .int .i64 gp, .int .i64 gf, .int .i64 gl] 215)).grownBy W none) : W.cell? ⟨w.heap.size, 2, none⟩ = some (.bool ro) :=
  hg.cell (by simp [go_sem]) (by simp)
theorem part3 {w W : World} {m gf gl : Int} (hg : (w.alloc (.cells #[.int .i64 m, .int .i64 gf, .int .i64 gl] 204)).grownBy W none) : W.cell? ⟨w.heap.size, 0, none⟩ = some (.int .i64 m) ∧ W.cell? ⟨w.heap.size, 1, none⟩ = some (.int .i64 gf) ∧ W.cell? ⟨w.heap.size, 2, none⟩ = some (.int .i64 gl) :=
  ⟨hg.cell (by simp [go_sem]) (by simp), hg.cell (by simp [go_sem]) (by simp), hg.cell (by simp [go_sem]) (by simp)⟩
theorem frRow0 (w : World) : Row (w.alloc (.cells #[.int .i64 0, .int .i64 0, .int .i64 0, .int .i64 0] 108)) w.heap.size 108 4 (fun _ => .int .i64 0) :=
  Gen.Row.new w _ 108 4 _ (by simp) fun k hk => by match k, hk with | 0, _ => rfl | 1, _ => rfl | 2, _ => rfl | 3, _ => rfl
/-- what Push answers behind its read -/
def Gs.pushE (s1 : Gs) (m : Int) (g : GV) (off : Int) (b : List UInt8) : Int × Gs :=
  if g.ro = true then (62, s1) else
  if g.len - off < b.length then (63, s1) else
  if (s1.M.fr m.toNat).ty = 2 ∨ (s1.M.fr m.toNat).ty = 3 then (13, s1) else
  ((s1.M.write m (g.off + off) b).1, s1.setM (s1.M.write m (g.off + off) b).2)
theorem gPushG_yes (h : GW w X B G pm np s T V Gv S l n) {K : Int} (hok : s.M.ok K) (hl : ∀ p ∈ l, p.fits) (hll : l.length ≤ 64) (hn : (n : Int) < 9223372036854775807) (c : Int) (hc : gdom c = true) (d r : Nat) (hd : d < 8) (hr : r < 32) (t : Int) (i : Nat) (hm : s.g.mem d = some (t, i)) (ht0 : 0 ≤ t) (ht1 : t < s.M.n) (hi : i < np) (p off : Int) (ho : 0 ≤ off) (ho2 : off ≤ 9223372036854775807) (pa : Option Addr) (cap : Nat) (b : List UInt8) (hbl : b.length ≤ 9223372036854775807) (hb : ∀ w', Chg (avfoot X B G pm np V Gv) w w' → IsBytes w' B (.slice pa b.length cap) b) (m : Int) (g : GV) (hR : (s.due l n).endG ((s.due l n).entB d r) c d = some (m, g)) :
    Calls Try.prog 60 #[.pointer (some ⟨X, 0, none⟩), .pointer (some ⟨V, 0, none⟩), .int .i64 c, .agg #[.bool true, .int .i64 d, .int .i64 r, .int .i64 p, .int .i64 off], .slice pa b.length cap] w fun e w' => e = .returned (.int .i64 ((s.due l n).pushE m g off b).1) ∧ GR w X B G pm np ((s.due l n).pushE m g off b).2 T V Gv S l (n + 1) w' := by
  obtain ⟨W1, hW1⟩ : ∃ W, w.alloc (.cells #[.bool true, .int .i64 d, .int .i64 r, .int .i64 p, .int .i64 off] 104) = W := ⟨_, rfl⟩
  have hg1 : w.grownBy W1 none := hW1 ▸ World.grownBy_alloc _ _ none
  have q0 : W1.cell? ⟨w.heap.size, 0, none⟩ = some (.bool true) := by rw [← hW1]; simp [go_sem]
  have q1 : W1.cell? ⟨w.heap.size, 1, none⟩ = some (.int .i64 d) := by rw [← hW1]; simp [go_sem]
  have q2 : W1.cell? ⟨w.heap.size, 2, none⟩ = some (.int .i64 r) := by rw [← hW1]; simp [go_sem]
  have q3 : W1.cell? ⟨w.heap.size, 3, none⟩ = some (.int .i64 p) := by rw [← hW1]; simp [go_sem]
  have q4 : W1.cell? ⟨w.heap.size, 4, none⟩ = some (.int .i64 off) := by rw [← hW1]; simp [go_sem]
  obtain ⟨-, hmi, e0, e1, e2⟩ := Gs.endG_ok hR
  obtain ⟨gk, ro, sub, dm, gp, gf, gl⟩ := g
  simp only at e0 e1 e2
  have HF := hid (gFindG (h.grown hg1) hok hl hll hn c hc d r hd hr t i hm ht0 ht1 hi p off b.length ho (by omega) _ hR)
  simp only [endRet] at HF
  have HWi := hid (fun w' => gWithin m gf gl off b.length w' e0 (by omega) (by omega) (by omega) ho2)
  have hok' : (s.due l n).M.ok K := Mach.rews_ok _ hok
  have H0 := hid h
  have HG1 := hid hg1
  have HQ := hid q4
  have has := as_grant
  unfold Gs.pushE
  simp only
  cases ro with
  | true =>
    rw [if_pos rfl]
    clear h hok hok' hl hll hn hm ht0 ht1 hg1 hc hR hd hr hi e0 e1 e2 hb hbl
    go_enter Try.func60, Try.ntmps60
    go_wp2_with (go_at_call 124; (with_reducible refine HF.out.mono ?_); rintro e w2 ⟨rfl, h2⟩; have H2 := hid h2; clear h2)
    go_ret
    exact ⟨rfl, GR.first H0.out HG1.out (H2.out.grown (World.grownBy_alloc w2 _ none))⟩
  | false =>
    rw [if_neg (by simp)]
    by_cases hx : gl - off < b.length
    · rw [if_pos hx]
      rw [EndV.at_no (.inr (.inr hx))] at HWi
      clear h hok hok' hl hll hn hm ht0 ht1 hg1 hc hR hd hr hi e0 e1 e2 hx hb hbl
      go_enter Try.func60, Try.ntmps60
      go_wp2_with (first
        | (go_at_call 124; (with_reducible refine HF.out.mono ?_); rintro e w2 ⟨rfl, h2⟩; have H2 := hid h2; have Z2 := hid (GR.fresh H0.out h2 (Nat.le_refl _) HQ.out); clear h2)
        | (go_at_call 165; (with_reducible refine (gPartG _ _ _ _ _ _ _ _ _).mono ?_); rintro e w3 ⟨rfl, g3⟩; have g3' := (World.grownBy_alloc w2 (.cells #[.int .i64 m, .int .i64 gk, .bool false, .bool sub, .int .i64 dm, .int .i64 gp, .int .i64 gf, .int .i64 gl] 215) none).trans g3; have H3 := hid (H2.out.grown g3'); have z3 := fun ob => (World.grownBy_alloc w3 ob none).cell (g3'.cell Z2.out (by simp)) (by simp); clear g3 g3')
        | (go_at_call 122; (with_reducible refine (HWi.out _).mono ?_); rintro e w4 ⟨rfl, g4⟩; have H4 := hid ((H3.out.grown (World.grownBy_alloc w3 _ none)).grown g4); clear g4))
      go_ret
      exact ⟨rfl, GR.first H0.out HG1.out H4.out⟩
    · rw [if_neg hx]
      rw [EndV.at_yes ho (by omega) (by omega)] at HWi
      obtain ⟨hm0, hm1⟩ := Mach.is_iff.1 hmi
      obtain ⟨mk, rfl⟩ : ∃ mk : Nat, m = mk := ⟨m.toNat, by omega⟩
      rw [Int.toNat_natCast]
      have HFr := hid (fun w2 (hp : PM w2 B (s.due l n).M) => Frame_yes B mk w2 (s.due l n).M K hp hok' hm1)
      simp only [Fr.head] at HFr
      obtain ⟨R, hRw⟩ : ∃ R, (s.due l n).M.write mk (gf + off) b = R := ⟨_, rfl⟩
      have HW := hid (fun w2 (hch : Chg (avfoot X B G pm np V Gv) w w2) (hp : PM w2 B (s.due l n).M) => Write_any B mk (gf + off) (.slice pa b.length cap) b w2 (s.due l n).M K hp hok' (by omega) (hb w2 hch) hbl)
      rw [hRw] at HW ⊢
      generalize ((s.due l n).M.fr mk).owner = f0 at *
      generalize ((s.due l n).M.fr mk).ty = f1 at *
      generalize ((s.due l n).M.fr mk).cnt = f2 at *
      generalize ((s.due l n).M.fr mk).tot = f3 at *
      obtain ⟨P, hP⟩ : ∃ P : Int × Gs, (if f1 = 2 ∨ f1 = 3 then ((13 : Int), s.due l n) else (R.1, (s.due l n).setM R.2)) = P := ⟨_, rfl⟩
      rw [hP]
      have HP := hid hP
      have HW1 := hid (h.grown hg1)
      clear h hok hok' hl hll hn hm ht0 ht1 hg1 hc hR hd hr hi e0 e1 e2 hx hb hbl hm0 hm1 hmi hRw hP
      go_enter Try.func60, Try.ntmps60
      go_wp2_with (first
        | (go_at_call 124; (with_reducible refine HF.out.mono ?_); rintro e w2 ⟨rfl, h2⟩; have H2 := hid h2; have Z2 := hid (GR.fresh H0.out h2 (Nat.le_refl _) HQ.out); clear h2)
        | (go_at_call 165; (with_reducible refine (gPartG _ _ _ _ _ _ _ _ _).mono ?_); rintro e w3 ⟨rfl, g3⟩; have g3' := (World.grownBy_alloc w2 (.cells #[.int .i64 mk, .int .i64 gk, .bool false, .bool sub, .int .i64 dm, .int .i64 gp, .int .i64 gf, .int .i64 gl] 215) none).trans g3; have H3 := hid (H2.out.grown (g3'.trans (World.grownBy_alloc w3 (.cells #[.int .i64 mk, .int .i64 gf, .int .i64 gl] 204) none))); have z3 := fun ob => (World.grownBy_alloc w3 ob none).cell (g3'.cell Z2.out (by simp)) (by simp); obtain ⟨W3, hW3⟩ : ∃ W, w3.alloc (.cells #[.int .i64 mk, .int .i64 gf, .int .i64 gl] 204) = W := ⟨_, rfl⟩; have p3 := part3 (w := w3) (W := W3) (m := mk) (gf := gf) (gl := gl) (by rw [hW3]; exact World.grownBy.refl _ _); obtain ⟨p30, p31, p32⟩ := p3; have z3' : W3.cell? ⟨w.heap.size, 4, none⟩ = some (.int .i64 off) := hW3 ▸ z3 _; have P30 := hid p30; rw [hW3] at H3; have HB3 := hid (show B ≠ w3.heap.size from fun e => by have h1 := H2.out.a.a.m.lt; have h2 := g3'.size; omega); clear g3 g3' z3)
        | (go_at_call 122; (with_reducible refine (HWi.out _).mono ?_); rintro e w4 ⟨rfl, g4⟩; have H4 := hid (H3.out.grown g4); have P4 := hid (g4.cell P30.out (by simp)); clear g4 p30 p31 p32 z3'))
      have c0 : w4.drew.cell? ⟨X, 0, none⟩ = some (.pointer (some ⟨B, 0, none⟩)) := H4.out.a.a.c0
      have p0 : w4.drew.cell? ⟨w3.heap.size, 0, none⟩ = some (.int .i64 mk) := P4.out
      clear hW3
      obtain ⟨WA, hWA⟩ : ∃ W, w4.alloc (.cells #[.int .i64 0, .int .i64 0, .int .i64 0, .int .i64 0] 108) = W := ⟨_, rfl⟩
      have gA : w4.grownBy WA none := hWA ▸ World.grownBy_alloc _ _ none
      have HRA := hid (hWA ▸ frRow0 w4 : Row WA w4.heap.size 108 4 (fun _ => .int .i64 0))
      have HA4 := hid (H4.out.grown gA)
      have a0 : WA.drew.cell? ⟨X, 0, none⟩ = some (.pointer (some ⟨B, 0, none⟩)) := HA4.out.a.a.c0
      have a1 : WA.drew.cell? ⟨w3.heap.size, 0, none⟩ = some (.int .i64 mk) := gA.cell P4.out (by simp)
      have neX : w4.heap.size ≠ X := World.new_ne w4 ⟨X, 0, none⟩ c0
      have neP : w4.heap.size ≠ w3.heap.size := World.new_ne w4 ⟨w3.heap.size, 0, none⟩ p0
      have HS4 := hid H4.out.c.size
      clear gA
      go_region_held3 (fun w' => w'.cell? ⟨X, 0, none⟩ = some (.pointer (some ⟨B, 0, none⟩)) ∧ w'.cell? ⟨w3.heap.size, 0, none⟩ = some (.int .i64 mk)) (first | exact ⟨by assumption, by assumption⟩ | go_keep)
        (first
          | (go_at_call 54; (with_reducible refine (HFr.out WA.drew HA4.out.a.a.m.drew).mono ?_); rintro e w5 ⟨rfl, g5⟩; have g5' := (grownBy_drew WA none).trans g5; have H5 := hid (HA4.out.grown g5'); have HRr := hid (Row.grown HRA.out g5' (by simp)); have k0 := H5.out.a.a.c0; have k1 := g5.cell a1 (by simp); have y0 := HRr.out.cell (k := 0) (by omega); have y1 := HRr.out.cell (k := 1) (by omega); have y2 := HRr.out.cell (k := 2) (by omega); have y3 := HRr.out.cell (k := 3) (by omega); have r0 := HRr.out.frozen 0; have r1 := HRr.out.frozen 1; have r2 := HRr.out.frozen 2; have r3 := HRr.out.frozen 3; have gch := (((grownBy_setCell w5 w4.heap.size 0 none (.int .i64 f0)).trans (grownBy_setCell _ w4.heap.size 1 none (.int .i64 f1))).trans (grownBy_setCell _ w4.heap.size 2 none (.int .i64 f2))).trans (grownBy_setCell _ w4.heap.size 3 none (.int .i64 f3)); have kc0 := gch.cell k0 (fun e => neX (Option.some.inj e).symm); have kc1 := gch.cell k1 (fun e => neP (Option.some.inj e).symm); have HCh := hid gch; have HK1 := hid kc1; clear gch g5 g5')
          | (go_at_call 54; (with_reducible refine (HFr.out w4.drew H4.out.a.a.m.drew).mono ?_); rintro e w5 ⟨rfl, g5⟩; have H5 := hid (H4.out.grown ((grownBy_drew w4 none).trans g5)); have k0 := H5.out.a.a.c0; have k1 := g5.cell p0 (by simp); have ne5 : w5.heap.size ≠ X := World.new_ne w5 ⟨X, 0, none⟩ k0; have ne6 : w5.heap.size ≠ w3.heap.size := World.new_ne w5 ⟨w3.heap.size, 0, none⟩ k1; have vz0 := (World.grownBy_alloc w5 (.cells #[.int .i64 0, .int .i64 0, .int .i64 0, .int .i64 0] 108) none).cell k0 (by simp); have vz1 := (World.grownBy_alloc w5 (.cells #[.int .i64 0, .int .i64 0, .int .i64 0, .int .i64 0] 108) none).cell k1 (by simp); have vf0 := (World.grownBy_alloc w5 (.cells #[.int .i64 f0, .int .i64 f1, .int .i64 f2, .int .i64 f3] 108) none).cell k0 (by simp); have vf1 := (World.grownBy_alloc w5 (.cells #[.int .i64 f0, .int .i64 f1, .int .i64 f2, .int .i64 f3] 108) none).cell k1 (by simp); have HK1 := hid vf1; clear g5))
      · obtain ⟨W6, hW6⟩ : ∃ W, w5.alloc (.cells #[.int .i64 f0, .int .i64 f1, .int .i64 f2, .int .i64 f3] 108) = W := ⟨_, rfl⟩
        have y6 : W6.cell? ⟨w5.heap.size, 1, none⟩ = some (.int .i64 f1) := by rw [← hW6]; simp [go_sem]
        have H6 := hid (H5.out.grown (hW6 ▸ World.grownBy_alloc _ _ none : w5.grownBy W6 none))
        have HK6 := hid (hW6 ▸ HK1.out : W6.cell? ⟨w3.heap.size, 0, none⟩ = some (.int .i64 mk))
        rw [hW6]
        clear hW6 vz0 vz1 vf0 vf1 ne5 ne6 k0 k1 c0 p0 a0 a1 neX neP hWA
        have hsp : f1 = 2 ∨ f1 = 3 ∨ (f1 ≠ 2 ∧ f1 ≠ 3) := by omega
        rcases hsp with h2 | h3 | ⟨n2, n3⟩
        · obtain rfl : P = ((13 : Int), s.due l n) := by rw [← HP.out, if_pos (.inl h2)]
          subst h2
          go_wp2
          go_ret
          exact ⟨rfl, GR.first H0.out HG1.out H6.out⟩
        · obtain rfl : P = ((13 : Int), s.due l n) := by rw [← HP.out, if_pos (.inr h3)]
          subst h3
          go_wp2
          go_ret
          exact ⟨rfl, GR.first H0.out HG1.out H6.out⟩
        · obtain rfl : P = (R.1, (s.due l n).setM R.2) := by rw [← HP.out, if_neg (fun h => h.elim n2 n3)]
          have b2 : (f1 == 2) = false := by simpa using n2
          have b3 : (f1 == 3) = false := by simpa using n3
          go_upto_region 14 with fail
          have c6 : W6.drew.cell? ⟨X, 0, none⟩ = some (.pointer (some ⟨B, 0, none⟩)) := H6.out.a.a.c0
          have p6 : W6.drew.cell? ⟨w3.heap.size, 0, none⟩ = some (.int .i64 mk) := HK6.out
          clear y6
          go_region_held3 (fun w' => w'.cell? ⟨X, 0, none⟩ = some (.pointer (some ⟨B, 0, none⟩)) ∧ w'.cell? ⟨w3.heap.size, 0, none⟩ = some (.int .i64 mk)) (first | exact ⟨by assumption, by assumption⟩ | go_keep)
            (first
              | (go_at_call 18; (with_reducible refine (HW.out _ (GR.first H0.out HG1.out (H6.out.grown (grownBy_drew W6 none))).c H6.out.a.a.m.drew).mono ?_); rintro e w7 ⟨rfl, h7, g7⟩; have H7 := hid ((H6.out.grown (grownBy_drew W6 none)).mach h7 g7); have k0 := H7.out.a.a.c0; have k1 := g7.cell p6 (fun e => HB3.out (Option.some.inj e).symm); clear h7 g7))
          go_wp2
          go_ret
          exact ⟨rfl, GR.first H0.out HG1.out H7.out⟩
      · obtain ⟨W6, hW6⟩ : ∃ W, (((w5.setCell ⟨w4.heap.size, 0, none⟩ (.int .i64 f0)).setCell ⟨w4.heap.size, 1, none⟩ (.int .i64 f1)).setCell ⟨w4.heap.size, 2, none⟩ (.int .i64 f2)).setCell ⟨w4.heap.size, 3, none⟩ (.int .i64 f3) = W := ⟨_, rfl⟩
        have hr1 : Row (w5.setCell ⟨w4.heap.size, 0, none⟩ (.int .i64 f0)) w4.heap.size 108 4 (fun k => if k = 0 then .int .i64 f0 else .int .i64 0) := HRr.out.set rfl fun j hj hne => by simp [hne]
        have hr2 : Row ((w5.setCell ⟨w4.heap.size, 0, none⟩ (.int .i64 f0)).setCell ⟨w4.heap.size, 1, none⟩ (.int .i64 f1)) w4.heap.size 108 4 (fun k => if k = 1 then .int .i64 f1 else if k = 0 then .int .i64 f0 else .int .i64 0) := hr1.set rfl fun j hj hne => by simp [hne]
        have hr3 : Row (((w5.setCell ⟨w4.heap.size, 0, none⟩ (.int .i64 f0)).setCell ⟨w4.heap.size, 1, none⟩ (.int .i64 f1)).setCell ⟨w4.heap.size, 2, none⟩ (.int .i64 f2)) w4.heap.size 108 4 (fun k => if k = 2 then .int .i64 f2 else if k = 1 then .int .i64 f1 else if k = 0 then .int .i64 f0 else .int .i64 0) := hr2.set rfl fun j hj hne => by simp [hne]
        have hr4 : Row W6 w4.heap.size 108 4 (fun k => if k = 3 then .int .i64 f3 else if k = 2 then .int .i64 f2 else if k = 1 then .int .i64 f1 else if k = 0 then .int .i64 f0 else .int .i64 0) := hW6 ▸ hr3.set rfl fun j hj hne => by simp [hne]
        have y6 : W6.cell? ⟨w4.heap.size, 1, none⟩ = some (.int .i64 f1) := hr4.cell (k := 1) (by omega)
        have H6 := hid (GR.own HW1.out H5.out HS4.out (hW6 ▸ HCh.out : w5.grownBy W6 (some w4.heap.size)))
        have HK6 := hid (hW6 ▸ HK1.out : W6.cell? ⟨w3.heap.size, 0, none⟩ = some (.int .i64 mk))
        rw [hW6]
        clear hW6 hr1 hr2 hr3 hr4 k0 k1 y0 y1 y2 y3 r0 r1 r2 r3 kc0 kc1 c0 p0 a0 a1 neX neP hWA
        have hsp : f1 = 2 ∨ f1 = 3 ∨ (f1 ≠ 2 ∧ f1 ≠ 3) := by omega
        rcases hsp with h2 | h3 | ⟨n2, n3⟩
        · obtain rfl : P = ((13 : Int), s.due l n) := by rw [← HP.out, if_pos (.inl h2)]
          subst h2
          go_wp2
          go_ret
          exact ⟨rfl, GR.first H0.out HG1.out H6.out⟩
        · obtain rfl : P = ((13 : Int), s.due l n) := by rw [← HP.out, if_pos (.inr h3)]
          subst h3
          go_wp2
          go_ret
          exact ⟨rfl, GR.first H0.out HG1.out H6.out⟩
        · obtain rfl : P = (R.1, (s.due l n).setM R.2) := by rw [← HP.out, if_neg (fun h => h.elim n2 n3)]
          have b2 : (f1 == 2) = false := by simpa using n2
          have b3 : (f1 == 3) = false := by simpa using n3
          go_upto_region 14 with fail
          have c6 : W6.drew.cell? ⟨X, 0, none⟩ = some (.pointer (some ⟨B, 0, none⟩)) := H6.out.a.a.c0
          have p6 : W6.drew.cell? ⟨w3.heap.size, 0, none⟩ = some (.int .i64 mk) := HK6.out
          clear y6
          go_region_held3 (fun w' => w'.cell? ⟨X, 0, none⟩ = some (.pointer (some ⟨B, 0, none⟩)) ∧ w'.cell? ⟨w3.heap.size, 0, none⟩ = some (.int .i64 mk)) (first | exact ⟨by assumption, by assumption⟩ | go_keep)
            (first
              | (go_at_call 18; (with_reducible refine (HW.out _ (GR.first H0.out HG1.out (H6.out.grown (grownBy_drew W6 none))).c H6.out.a.a.m.drew).mono ?_); rintro e w7 ⟨rfl, h7, g7⟩; have H7 := hid ((H6.out.grown (grownBy_drew W6 none)).mach h7 g7); have k0 := H7.out.a.a.c0; have k1 := g7.cell p6 (fun e => HB3.out (Option.some.inj e).symm); clear h7 g7))
          go_wp2
          go_ret
          exact ⟨rfl, GR.first H0.out HG1.out H7.out⟩
end
end Go.Proofs.Ytkdoaidcmmehoaa

/-
  GrantRange on plain data. No walk here.
-/
set_option linter.unusedSimpArgs false
set_option linter.unusedVariables false
namespace Go.Proofs.Ytkdoaidcmmehoaa
open Go.RowKit KM
set_option maxRecDepth 100000

def gRng (o z : Nat) : GV := ⟨1, false, true, 2, 3, o, (1 : Int) + z⟩
theorem gRng_pack {o z : Nat} (h : o + z < 256) : packV (gRng o z) = true := by
  unfold packV wV pgV gRng
  simp only [Bool.and_eq_true, decide_eq_true_eq]
  refine ⟨by omega, by omega, ⟨by omega, by omega⟩, ⟨by omega, by omega⟩, ?_⟩
  first | (refine ⟨by omega, by omega, by omega⟩) | omega
theorem gRng_nopack {o z : Nat} (h : 256 ≤ o + z) : packV (gRng o z) = false := by
  cases hp : packV (gRng o z) with
  | false => rfl
  | true =>
    exfalso
    unfold packV wV pgV gRng at hp
    simp only [Bool.and_eq_true, decide_eq_true_eq] at hp
    omega
structure RS (s : Gs) (o z : Nat) : Prop where
  ok : s.M.ok 3
  n : s.M.n = 13
  o7 : (s.M.fr 7).owner = 1
  y7 : (s.M.fr 7).ty = 0
  en : (s.M.fr 4).part 0 8 = pkL (gRng o z)
  mem : s.g.mem 1 = some (4, 1)
  p : (s.P 1).getE 3 = (7, 0)
theorem RS.start {o z : Nat} : RS ((bst 3).setM ((bst 3).M.write 4 0 (pkL (gRng o z))).2) o z where
  ok := Mach.write_ok (bst_ok 3) _ _ _
  n := (Mach.vwrite_n _ _ _ _).trans (by kernel_rfl)
  o7 := (fr_write_keeps _ _ _ _ _).1.trans (by kernel_rfl)
  y7 := (fr_write_keeps _ _ _ _ _).2.trans (by kernel_rfl)
  en := by
    show ((((bst 3).M.write 4 0 (pkL (gRng o z))).2).fr 4).part 0 8 = pkL (gRng o z)
    rw [show (((bst 3).M.write 4 0 (pkL (gRng o z))).2).fr 4 = _ from fr_write_same _ 4 0 _ (by rw [show (bst 3).M.n = 13 by kernel_rfl]; omega) (by rw [show ((bst 3).M.fr 4).owner = 1 by kernel_rfl]; omega) (by rw [pkL_len]; omega)]
    exact part_laid _ _
  mem := by kernel_rfl
  p := by kernel_rfl
section
variable {s : Gs} {o z : Nat}
theorem RS.write7 (h : RS s o z) (off : Int) (l : List UInt8) : RS (s.setM (s.M.write 7 off l).2) o z :=
  ⟨Mach.write_ok h.ok _ _ _, (Mach.vwrite_n _ _ _ _).trans h.n, (fr_write_keeps _ _ _ _ _).1.trans h.o7, (fr_write_keeps _ _ _ _ _).2.trans h.y7, by
    show ((s.M.write 7 off l).2.fr 4).part 0 8 = _
    rw [fr_write_other _ _ _ _ _ (by decide)]; exact h.en, h.mem, h.p⟩
theorem RS.entB (h : RS s o z) : s.entB ((1 : Nat) : Int) ((0 : Nat) : Int) = pkL (gRng o z) := by
  have ht : s.table ((1 : Nat) : Int) = 4 := by unfold Gs.table; rw [Int.toNat_natCast, h.mem]
  unfold Gs.entB
  rw [ht, read_good (by rw [Mach.is_iff, h.n]; omega) (inP_yes (by omega) (by omega) (by omega))]
  exact h.en
theorem RS.endG (h : RS s o z) (hz : o + z < 256) : s.endG (s.entB ((1 : Nat) : Int) ((0 : Nat) : Int)) 2 ((1 : Nat) : Int) = some (7, gRng o z) := by
  rw [h.entB]
  have hw : wantG (gRng o z) = gRng o z := by unfold wantG; exact if_pos rfl
  have hE : entV (pkL (gRng o z)) 1 2 = some (gRng o z) := by
    unfold entV
    rw [unp_pk _ (gRng_pack hz), hw, if_pos ⟨rfl, rfl, rfl⟩]
  have ho : s.owns ((1 : Nat) : Int) 7 = true := by
    unfold Gs.owns
    rw [Mach.is_yes (by omega) (by rw [h.n]; omega), show (7 : Int).toNat = 7 from rfl, h.o7]; rfl
  have hgr : s.granted ((1 : Nat) : Int) 3 = some 7 := by
    unfold Gs.granted
    rw [Int.toNat_natCast, h.mem]
    simp only [h.p, ho, and_true, if_true]
  unfold Gs.endG
  rw [hE]
  simp only
  rw [show (gRng o z).gpfn = 3 from rfl, hgr]
/-- the page as it stands -/
def pg7 (s : Gs) : List UInt8 := (s.M.fr 7).part 0 256
theorem RS.pull (h : RS s o z) (hz : o + z < 256) (n : Nat) (at' k : Int) (h0 : 0 ≤ at') (hk : 0 ≤ k) :
    s.pullG [] n 1 0 2 at' k = if (1 : Int) + z - at' < k then ([], 63, s, n + 1) else ((s.M.fr 7).part (o + at'.toNat) k.toNat, 0, s, n + 1 + 1) := by
  unfold Gs.pullG
  rw [s.due_nil rfl, h.endG hz]
  simp only
  show (if (1 : Int) + z - at' < k then _ else _) = _
  by_cases hx : (1 : Int) + z - at' < k
  · rw [if_pos hx, if_pos hx]
  · rw [if_neg hx, if_neg hx, s.due_nil rfl]
    show ((s.M.read 7 ((o : Int) + at') k).1, _, _, _) = _
    rw [read_good (by rw [Mach.is_iff, h.n]; omega) (inP_yes (by omega) (by omega) (by omega)), show (7 : Int).toNat = 7 from rfl, show ((o : Int) + at').toNat = o + at'.toNat by omega]
theorem RS.pushN (h : RS s o z) (at' : Int) (b : List UInt8) (hx : (1 : Int) + z - at' < b.length) : s.pushE 7 (gRng o z) at' b = (63, s) := by
  have e1 : ¬ (gRng o z).ro = true := by show ¬ (false = true); simp
  have e2 : (gRng o z).len - at' < b.length := hx
  unfold Gs.pushE
  rw [if_neg e1, if_pos e2]
theorem RS.pushY (h : RS s o z) (hz : o + z < 256) (at' : Int) (b : List UInt8) (h0 : 0 ≤ at') (hx : ¬ (1 : Int) + z - at' < b.length) : s.pushE 7 (gRng o z) at' b = (0, s.setM (s.M.write 7 ((o : Int) + at') b).2) := by
  have e1 : ¬ (gRng o z).ro = true := by show ¬ (false = true); simp
  have e2 : ¬ (gRng o z).len - at' < b.length := hx
  unfold Gs.pushE
  rw [if_neg e1, if_neg e2, show (7 : Int).toNat = 7 from rfl, if_neg (by rw [h.y7]; decide)]
  show ((s.M.write 7 ((o : Int) + at') b).1, _) = _
  have e : (s.M.write 7 ((o : Int) + at') b).1 = 0 := by
    unfold Mach.write
    rw [if_neg (by rw [Mach.is_yes (by omega) (by rw [h.n]; omega)]; simp), if_neg (by rw [inP_yes (by omega) (by omega) (by omega)]; simp), show (7 : Int).toNat = 7 from rfl, if_neg (by rw [h.o7]; omega)]
  rw [e]
  rfl
/-- what stands in the page behind a push -/
theorem RS.laid (h : RS s o z) (at' : Nat) (b : List UInt8) (hx : o + at' + b.length ≤ 256) (i : Nat) (hi : i < 256) :
    (pg7 (s.setM (s.M.write 7 ((o : Int) + at') b).2)).getD i 0 = if o + at' ≤ i ∧ i < o + at' + b.length then b.getD (i - (o + at')) 0 else (pg7 s).getD i 0 := by
  unfold pg7
  rw [part_get _ _ _ _ hi, part_get _ _ _ _ hi]
  show ((s.M.write 7 ((o : Int) + at') b).2.fr 7).bs (0 + i) = _
  have e : (s.M.write 7 ((o : Int) + at') b).2.fr 7 = (s.M.fr 7).laid (o + at') b := by
    have := fr_write_same s.M 7 (o + at') b (by rw [h.n]; omega) (by rw [h.o7]; omega) hx
    rw [← this, Int.natCast_add]
    rfl
  rw [e]
  simp only [Fr.laid, Nat.zero_add]
theorem pg7_part (at' k : Nat) (h : at' + k ≤ 256) : (s.M.fr 7).part at' k = ((pg7 s).drop at').take k := by
  unfold pg7 Fr.part
  apply List.ext_getElem
  · simp; omega
  · intro i h1 h2
    simp
end
end Go.Proofs.Ytkdoaidcmmehoaa

/-
  GrantRange: each call of the law as a contract on both the memory and the plain state. No walk here.
-/
set_option linter.unusedSimpArgs false
set_option linter.unusedVariables false
namespace Go.Proofs.Ytkdoaidcmmehoaa
open Go.RowKit KM
set_option maxHeartbeats 1000000
set_option maxRecDepth 100000

section
variable {w0 w w' : World} {t X B G : Nat} {pm : Nat → Nat × Nat × Nat} {s s' : Gs} {T T' : Nat} {V Gv : Nat} {S : Nat → Prop} {n n' : Nat} {o z : Nat}
/-- a write of bytes that lie apart from the machine -/
theorem WT.writeB (h : WT w0 w t X B G pm s T) {K : Int} (hok : s.M.ok K) (i off : Int) (ho : off ≤ 9223372036854775807) {v : Value} {l : List UInt8} (hl : l.length ≤ 9223372036854775807) (hb : IsBytes w B v l) :
    Calls Try.prog 18 #[.pointer (some ⟨B, 0, none⟩), .int .i64 i, .int .i64 off, v] w fun e w' => e = .returned (.int .i64 (s.M.write i off l).1) ∧ WT w0 w' t X B G pm (s.setM (s.M.write i off l).2) T ∧ w.grownBy w' (some B) :=
  (Write_any B i off _ l w s.M K h.a.m hok ho hb hl).mono fun e w' ⟨he, hm, hg⟩ => ⟨he, h.mach hm hg, hg⟩
theorem WT.newViewAt (h : WT w0 w t X B G pm s T) (hn : 1 ≤ s.M.n) :
    Calls Try.prog 23 #[.pointer (some ⟨B, 0, none⟩), .slice none 0 0] w fun e w' => ∃ V Gv S, e = .returned (.tuple #[.pointer (some ⟨V, 0, none⟩), .int .i64 0]) ∧ WV w0 w' t X B G pm s T V Gv S 0 ∧ w.heap.size ≤ V ∧ w.heap.size ≤ Gv ∧ w.grownBy w' none :=
  (vNew B none 0 [] w s.M h.a.m hn (by simp) (fun j hj => by simp at hj)).mono fun e w' ⟨he, ⟨_, hv⟩, hg⟩ => ⟨_, _, _, he, h.view hv hg, by omega, by omega, hg⟩
theorem pg7_len (s : Gs) : (pg7 s).length = 256 := part_len _ _ _
theorem WT.readPg (h : WT w0 w t X B G pm s T) (hs : RS s o z) :
    Calls Try.prog 53 #[.pointer (some ⟨B, 0, none⟩), .int .i64 7, .int .i64 0, .int .i64 256] w fun e w' => ∃ b, e = .returned (.tuple #[.slice (some ⟨b, 0, none⟩) 256 256, .int .i64 0]) ∧ w.heap.size ≤ b ∧ (∀ k, k < 256 → w'.cell? ⟨b, k, none⟩ = some (.int .u8 ((pg7 s).getD k 0).toNat)) ∧ WT w0 w' t X B G pm s T ∧ w.grownBy w' none := by
  have h1 := Read_yes B 7 0 256 w s.M 3 h.a.m hs.ok (by rw [hs.n]; omega) (by omega)
  refine h1.mono fun e w' ⟨v, he, hn⟩ => ?_
  obtain ⟨b, rfl, hb, hc, hg⟩ := newBytes_pos hn (by rw [part_len]; omega)
  rw [part_len] at he hc
  exact ⟨b, he, hb, hc, h.grown hg, hg⟩
theorem WV.readPg (h : WV w0 w t X B G pm s T V Gv S n) (hs : RS s o z) :
    Calls Try.prog 53 #[.pointer (some ⟨B, 0, none⟩), .int .i64 7, .int .i64 0, .int .i64 256] w fun e w' => ∃ b, e = .returned (.tuple #[.slice (some ⟨b, 0, none⟩) 256 256, .int .i64 0]) ∧ w.heap.size ≤ b ∧ (∀ k, k < 256 → w'.cell? ⟨b, k, none⟩ = some (.int .u8 ((pg7 s).getD k 0).toNat)) ∧ WV w0 w' t X B G pm s T V Gv S n ∧ w.grownBy w' none := by
  have h1 := Read_yes B 7 0 256 w s.M 3 h.wt.a.m hs.ok (by rw [hs.n]; omega) (by omega)
  refine h1.mono fun e w' ⟨v, he, hn⟩ => ?_
  obtain ⟨b, rfl, hb, hc, hg⟩ := newBytes_pos hn (by rw [part_len]; omega)
  rw [part_len] at he hc
  exact ⟨b, he, hb, hc, h.grown hg, hg⟩
theorem WV.pullArg (h : WV w0 w t X B G pm s T V Gv S n) (a k : Int) (hb : k < 0 ∨ a < 0) :
    Calls Try.prog 58 #[.pointer (some ⟨X, 0, none⟩), .pointer (some ⟨V, 0, none⟩), .int .i64 2, .agg #[.bool true, .int .i64 1, .int .i64 0, .int .i64 0, .int .i64 a], .int .i64 k] w fun e w' => ∃ q cp, e = .returned (.tuple #[.slice q 0 cp, .int .i64 1]) ∧ (∃ m, WV w0 w' t X B G pm s T V Gv S (n + m) ∧ m ≤ 2) ∧ Chg (avfoot X B G pm 3 V Gv) w w' :=
  (gPull_arg h.a 2 true 1 0 0 a k (.inr hb)).mono fun e w' ⟨he, hg⟩ => ⟨none, 0, he, ⟨0, h.grown hg, by omega⟩, Chg.of0 hg⟩
theorem WV.pullR (h : WV w0 w t X B G pm s T V Gv S n) (hs : RS s o z) (hz : o + z < 256) (hn : (n : Int) + 1 < 9223372036854775807) (a k : Int) (ha : 0 ≤ a) (ha2 : a ≤ 9223372036854775807) (hk : 0 ≤ k) (hx : (1 : Int) + z - a < k) :
    Calls Try.prog 58 #[.pointer (some ⟨X, 0, none⟩), .pointer (some ⟨V, 0, none⟩), .int .i64 2, .agg #[.bool true, .int .i64 1, .int .i64 0, .int .i64 0, .int .i64 a], .int .i64 k] w fun e w' => ∃ q cp, e = .returned (.tuple #[.slice q 0 cp, .int .i64 63]) ∧ (∃ m, WV w0 w' t X B G pm s T V Gv S (n + m) ∧ m ≤ 2) ∧ Chg (avfoot X B G pm 3 V Gv) w w' := by
  have h1 := gPullG h.a hs.ok (fun p hp => by cases hp) (by simp) hn 2 (by decide) 1 0 (by omega) (by omega) 4 1 hs.mem (by omega) (by rw [hs.n]; omega) (by omega) 0 a k ha ha2 hk ([], 63, s, n + 1) (by rw [hs.pull hz n a k ha hk, if_pos hx])
  exact h1.mono fun e w' ⟨q, cp, he, _, hr⟩ => ⟨q, cp, he, ⟨1, h.gr hr, by omega⟩, hr.c⟩
theorem WV.pullY (h : WV w0 w t X B G pm s T V Gv S n) (hs : RS s o z) (hz : o + z < 256) (hn : (n : Int) + 1 < 9223372036854775807) (a k : Nat) (hx : ¬ (1 : Int) + z - a < k) :
    Calls Try.prog 58 #[.pointer (some ⟨X, 0, none⟩), .pointer (some ⟨V, 0, none⟩), .int .i64 2, .agg #[.bool true, .int .i64 1, .int .i64 0, .int .i64 0, .int .i64 a], .int .i64 k] w fun e w' => ∃ q cp, e = .returned (.tuple #[.slice q k cp, .int .i64 0]) ∧ (KeptBytes w' (fun k => w.heap.size ≤ k) q (((pg7 s).drop (o + a)).take k)) ∧ (∃ m, WV w0 w' t X B G pm s T V Gv S (n + m) ∧ m ≤ 2) ∧ Chg (avfoot X B G pm 3 V Gv) w w' := by
  have h1 := gPullG h.a hs.ok (fun p hp => by cases hp) (by simp) hn 2 (by decide) 1 0 (by omega) (by omega) 4 1 hs.mem (by omega) (by rw [hs.n]; omega) (by omega) 0 a k (by omega) (by omega) (by omega) (((pg7 s).drop (o + a)).take k, 0, s, n + 1 + 1) (by rw [hs.pull hz n a k (by omega) (by omega), if_neg hx, Int.toNat_natCast, Int.toNat_natCast, pg7_part _ _ (by omega)])
  refine h1.mono fun e w' ⟨q, cp, he, hk, hr⟩ => ⟨q, cp, ?_, hk, ⟨2, h.gr hr, by omega⟩, hr.c⟩
  rw [he]
  have hl : (((pg7 s).drop (o + a)).take k).length = k := by rw [List.length_take, List.length_drop, pg7_len]; omega
  simp only [hl]
theorem WV.pushArg (h : WV w0 w t X B G pm s T V Gv S n) (a : Int) (hb : a < 0) (pa : Option Addr) (k cap : Nat) :
    Calls Try.prog 60 #[.pointer (some ⟨X, 0, none⟩), .pointer (some ⟨V, 0, none⟩), .int .i64 2, .agg #[.bool true, .int .i64 1, .int .i64 0, .int .i64 0, .int .i64 a], .slice pa k cap] w fun e w' => e = .returned (.int .i64 1) ∧ (∃ m, WV w0 w' t X B G pm s T V Gv S (n + m) ∧ m ≤ 1) ∧ Chg (avfoot X B G pm 3 V Gv) w w' :=
  (gPush_arg h.a 2 true 1 0 0 a pa k cap (.inr hb)).mono fun e w' ⟨he, hg⟩ => ⟨he, ⟨0, h.grown hg, by omega⟩, Chg.of0 hg⟩
theorem WV.pushN (h : WV w0 w t X B G pm s T V Gv S n) (hs : RS s o z) (hz : o + z < 256) (hn : (n : Int) < 9223372036854775807) (a : Int) (ha : 0 ≤ a) (ha2 : a ≤ 9223372036854775807) {pa : Option Addr} {b : List UInt8} (cap : Nat) (hbl : b.length ≤ 9223372036854775807) (hb : InBytes w0 pa b) (hx : (1 : Int) + z - a < b.length) :
    Calls Try.prog 60 #[.pointer (some ⟨X, 0, none⟩), .pointer (some ⟨V, 0, none⟩), .int .i64 2, .agg #[.bool true, .int .i64 1, .int .i64 0, .int .i64 0, .int .i64 a], .slice pa b.length cap] w fun e w' => e = .returned (.int .i64 63) ∧ (∃ m, WV w0 w' t X B G pm s T V Gv S (n + m) ∧ m ≤ 1) ∧ Chg (avfoot X B G pm 3 V Gv) w w' := by
  have h1 := gPushG_yes h.a hs.ok (fun p hp => by cases hp) (by simp) hn 2 (by decide) 1 0 (by omega) (by omega) 4 1 hs.mem (by omega) (by rw [hs.n]; omega) (by omega) 0 a ha ha2 pa cap b hbl (fun w' hc => hb.isB cap h.wt.fB (hc.grownR h.wt.g h.far)) 7 (gRng o z) (by rw [due_none]; exact hs.endG hz)
  rw [due_none, hs.pushN a b hx] at h1
  exact h1.mono fun e w' ⟨he, hr⟩ => ⟨he, ⟨1, h.gr hr, by omega⟩, hr.c⟩
theorem WV.pushY (h : WV w0 w t X B G pm s T V Gv S n) (hs : RS s o z) (hz : o + z < 256) (hn : (n : Int) < 9223372036854775807) (a : Nat) {pa : Option Addr} {b : List UInt8} (cap : Nat) (hbl : b.length ≤ 9223372036854775807) (hb : InBytes w0 pa b) (hx : ¬ (1 : Int) + z - a < b.length) :
    Calls Try.prog 60 #[.pointer (some ⟨X, 0, none⟩), .pointer (some ⟨V, 0, none⟩), .int .i64 2, .agg #[.bool true, .int .i64 1, .int .i64 0, .int .i64 0, .int .i64 a], .slice pa b.length cap] w fun e w' => e = .returned (.int .i64 0) ∧ (∃ m, WV w0 w' t X B G pm (s.setM (s.M.write 7 ((o : Int) + a) b).2) T V Gv S (n + m) ∧ m ≤ 1) ∧ Chg (avfoot X B G pm 3 V Gv) w w' := by
  have h1 := gPushG_yes h.a hs.ok (fun p hp => by cases hp) (by simp) hn 2 (by decide) 1 0 (by omega) (by omega) 4 1 hs.mem (by omega) (by rw [hs.n]; omega) (by omega) 0 a (by omega) (by omega) pa cap b hbl (fun w' hc => hb.isB cap h.wt.fB (hc.grownR h.wt.g h.far)) 7 (gRng o z) (by rw [due_none]; exact hs.endG hz)
  rw [due_none, hs.pushY hz a b (by omega) hx] at h1
  exact h1.mono fun e w' ⟨he, hr⟩ => ⟨he, ⟨1, h.gr hr, by omega⟩, hr.c⟩
end
end Go.Proofs.Ytkdoaidcmmehoaa
