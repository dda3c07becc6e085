/-
  Package grant: Push at an end that a grant names; Pull and Push of numbers below 0.
-/
import Derived.Test.YtibiianmpajabaaJ2
import Derived.Deep.RegionHeld3
import Derived.Deep.Cut
set_option linter.unusedSimpArgs false
set_option linter.unusedVariables false
namespace Go.Proofs.Ytibiianmpajabaa
open Go.RowKit KM
set_option maxHeartbeats 1000000
set_option maxRecDepth 100000

section
variable {w : World} {X B G : Nat} {pm : Nat → Nat × Nat × Nat} {np : Nat} {s : Gs} {T : Nat} {V Gv : Nat} {S : Nat → Prop} {l : List PokeV} {n : Nat}
theorem gFind_arg (h : GW w X B G pm np s T V Gv S l n) (c : Int) (gr : Bool) (d r p off k : Int) (hb : gdom c = false ∨ k < 0 ∨ off < 0) :
    Calls Try.prog 117 #[.pointer (some ⟨X, 0, none⟩), .pointer (some ⟨V, 0, none⟩), .int .i64 c, .agg #[.bool gr, .int .i64 d, .int .i64 r, .int .i64 p, .int .i64 off], .int .i64 k] w fun e w' => e = .returned (.tuple #[.nilIface, .int .i64 1]) ∧ w.grownBy w' none := by
  obtain ⟨W1, hW1⟩ : ∃ W, w.alloc (.cells #[.bool gr, .int .i64 d, .int .i64 r, .int .i64 p, .int .i64 off] 96) = W := ⟨_, rfl⟩
  have hg1 : w.grownBy W1 none := hW1 ▸ World.grownBy_alloc _ _ none
  have q4 : W1.cell? ⟨w.heap.size, 4, none⟩ = some (.int .i64 off) := by rw [← hW1]; simp [go_sem]
  have c0 := (h.grown hg1).c0
  obtain ⟨f, hv⟩ := (h.grown hg1).v
  have HV := hid (gIsView_yes V Gv B S l n l.length f W1 hv)
  have HG1 := hid hg1
  have HD := hid (gIsDom c W1)
  clear h hg1 hv
  rcases hb with hd | hb
  · rw [hd] at HD
    go_enter Try.func117, Try.ntmps117
    go_wp2_with (first
      | (go_at_call 103; (with_reducible refine (gMade_yes X B _ c0).mono ?_); rintro e w' ⟨rfl, rfl⟩)
      | (go_at_call 104; (with_reducible refine HV.out.mono ?_); rintro e w' ⟨rfl, rfl⟩)
      | (go_at_call 105; (with_reducible refine HD.out.mono ?_); rintro e w' ⟨rfl, rfl⟩))
    go_ret2
    exact ⟨rfl, HG1.out⟩
  cases hd : gdom c with
  | false =>
    rw [hd] at HD
    clear hb
    go_enter Try.func117, Try.ntmps117
    go_wp2_with (first
      | (go_at_call 103; (with_reducible refine (gMade_yes X B _ c0).mono ?_); rintro e w' ⟨rfl, rfl⟩)
      | (go_at_call 104; (with_reducible refine HV.out.mono ?_); rintro e w' ⟨rfl, rfl⟩)
      | (go_at_call 105; (with_reducible refine HD.out.mono ?_); rintro e w' ⟨rfl, rfl⟩))
    go_ret2
    exact ⟨rfl, HG1.out⟩
  | true =>
    rw [hd] at HD
    by_cases hk : k < 0
    · clear hb
      go_enter Try.func117, Try.ntmps117
      go_wp2_with (first
        | (go_at_call 103; (with_reducible refine (gMade_yes X B _ c0).mono ?_); rintro e w' ⟨rfl, rfl⟩)
        | (go_at_call 104; (with_reducible refine HV.out.mono ?_); rintro e w' ⟨rfl, rfl⟩)
        | (go_at_call 105; (with_reducible refine HD.out.mono ?_); rintro e w' ⟨rfl, rfl⟩))
      go_ret2
      exact ⟨rfl, HG1.out⟩
    · have ho : off < 0 := by omega
      have hk0 : 0 ≤ k := by omega
      clear hb hk
      go_enter Try.func117, Try.ntmps117
      go_wp2_with (first
        | (go_at_call 103; (with_reducible refine (gMade_yes X B _ c0).mono ?_); rintro e w' ⟨rfl, rfl⟩)
        | (go_at_call 104; (with_reducible refine HV.out.mono ?_); rintro e w' ⟨rfl, rfl⟩)
        | (go_at_call 105; (with_reducible refine HD.out.mono ?_); rintro e w' ⟨rfl, rfl⟩))
      go_ret2
      exact ⟨rfl, HG1.out⟩
theorem gPull_arg (h : GW w X B G pm np s T V Gv S l n) (c : Int) (gr : Bool) (d r p off k : Int) (hb : gdom c = false ∨ k < 0 ∨ off < 0) :
    Calls Try.prog 51 #[.pointer (some ⟨X, 0, none⟩), .pointer (some ⟨V, 0, none⟩), .int .i64 c, .agg #[.bool gr, .int .i64 d, .int .i64 r, .int .i64 p, .int .i64 off], .int .i64 k] w fun e w' => e = .returned (.tuple #[.slice none 0 0, .int .i64 1]) ∧ w.grownBy w' none := by
  have hg1 := World.grownBy_alloc w (.cells #[.bool gr, .int .i64 d, .int .i64 r, .int .i64 p, .int .i64 off] 96) none
  have HF := hid (gFind_arg (h.grown hg1) c gr d r p off k hb)
  have HG1 := hid hg1
  clear h hg1 hb
  go_enter Try.func51, Try.ntmps51
  go_wp2_with (go_at_call 117; (with_reducible refine HF.out.mono ?_); rintro e w2 ⟨rfl, g2⟩; have G2 := hid g2; clear g2)
  go_ret2
  exact ⟨rfl, HG1.out.trans G2.out⟩
theorem gPush_arg (h : GW w X B G pm np s T V Gv S l n) (c : Int) (gr : Bool) (d r p off : Int) (pa : Option Addr) (k cap : Nat) (hb : gdom c = false ∨ off < 0) :
    Calls Try.prog 53 #[.pointer (some ⟨X, 0, none⟩), .pointer (some ⟨V, 0, none⟩), .int .i64 c, .agg #[.bool gr, .int .i64 d, .int .i64 r, .int .i64 p, .int .i64 off], .slice pa k cap] w fun e w' => e = .returned (.int .i64 1) ∧ w.grownBy w' none := by
  have hg1 := World.grownBy_alloc w (.cells #[.bool gr, .int .i64 d, .int .i64 r, .int .i64 p, .int .i64 off] 96) none
  have HF := hid (gFind_arg (h.grown hg1) c gr d r p off k (by rcases hb with hb | hb; exact .inl hb; exact .inr (.inr hb)))
  have HG1 := hid hg1
  clear h hg1 hb
  go_enter Try.func53, Try.ntmps53
  go_wp2_with (go_at_call 117; (with_reducible refine HF.out.mono ?_); rintro e w2 ⟨rfl, g2⟩; have G2 := hid g2; clear g2)
  go_ret
  exact ⟨rfl, HG1.out.trans G2.out⟩
end
end Go.Proofs.Ytibiianmpajabaa

/-
  Package grant: find of a place of the caller's own; ends that are refused.
-/
set_option linter.unusedSimpArgs false
set_option linter.unusedVariables false
namespace Go.Proofs.Ytibiianmpajabaa
open Go.RowKit KM
set_option maxHeartbeats 2000000
set_option maxRecDepth 100000

/-- the frame at a place of a caller -/
def Gs.placeE (s : Gs) (c p : Int) : Int × Int := if s.g.joined c = false then (0, 1) else match s.g.mem c.toNat with | some (_, i) => (s.P i).getE p | none => (0, 1)
def placeRet (m e : Int) : Value := if e = 0 then .tuple #[.iface 231 (.agg #[.int .i64 m]), .int .i64 0] else .tuple #[.nilIface, .int .i64 e]
theorem placeRet_no {m e : Int} (h : e ≠ 0) : placeRet m e = .tuple #[.nilIface, .int .i64 e] := by unfold placeRet; rw [if_neg h]
theorem placeRet_yes (m : Int) : placeRet m 0 = .tuple #[.iface 231 (.agg #[.int .i64 m]), .int .i64 0] := by unfold placeRet; rw [if_pos rfl]
theorem partRow0 (w : World) : Row (w.alloc (.cells #[.int .i64 0, .int .i64 0, .int .i64 0] 196)) w.heap.size 196 3 (fun _ => .int .i64 0) :=
  Gen.Row.new w _ 196 3 _ (by simp) fun k hk => by match k, hk with | 0, _ => rfl | 1, _ => rfl | 2, _ => rfl
theorem gPartPl (m : Int) (w : World) : Calls Try.prog 163 #[.agg #[.int .i64 m]] w fun e w' =>
    e = .returned (.agg #[.int .i64 m, .int .i64 0, .int .i64 256]) ∧ w.grownBy w' none := by
  obtain ⟨Wb, hWb⟩ : ∃ W, w.alloc (.cells #[.int .i64 m] 231) = W := ⟨_, rfl⟩
  obtain ⟨Wc, hWc⟩ : ∃ W, Wb.alloc (.cells #[.int .i64 0, .int .i64 0, .int .i64 0] 196) = W := ⟨_, rfl⟩
  have gb : w.grownBy Wb none := hWb ▸ World.grownBy_alloc _ _ none
  have gc : Wb.grownBy Wc none := hWc ▸ World.grownBy_alloc _ _ none
  have q0 : Wc.cell? ⟨w.heap.size, 0, none⟩ = some (.int .i64 m) := gc.cell (by rw [← hWb]; simp [go_sem]) (by simp)
  have HR := hid (hWc ▸ partRow0 Wb : Row Wc Wb.heap.size 196 3 (fun _ => .int .i64 0))
  have HG1 := hid (gb.trans gc)
  have HS := hid gb.size
  have HP := hid (fun w' => gPageP m w')
  clear gb gc
  go_enter Try.func163, Try.ntmps163
  go_wp2_with (go_at_call 113; (with_reducible refine (HP.out _).mono ?_); rintro e w2 ⟨rfl, g2⟩; have HG2 := hid (HG1.out.trans g2); have HR2 := hid (Row.grown HR.out g2 (by simp)); have y0 := HR2.out.cell (k := 0) (by omega); have y1 := HR2.out.cell (k := 1) (by omega); have y2 := HR2.out.cell (k := 2) (by omega); have r0 := HR2.out.frozen 0; have r1 := HR2.out.frozen 1; have r2 := HR2.out.frozen 2; clear g2)
  obtain ⟨W6, hW6⟩ : ∃ W, ((w2.setCell ⟨Wb.heap.size, 0, none⟩ (.int .i64 m)).setCell ⟨Wb.heap.size, 1, none⟩ (.int .i64 0)).setCell ⟨Wb.heap.size, 2, none⟩ (.int .i64 256) = W := ⟨_, rfl⟩
  have gch := ((grownBy_setCell w2 Wb.heap.size 0 none (.int .i64 m)).trans (grownBy_setCell _ Wb.heap.size 1 none (.int .i64 0))).trans (grownBy_setCell _ Wb.heap.size 2 none (.int .i64 256))
  rw [hW6] at gch
  have hr1 : Row (w2.setCell ⟨Wb.heap.size, 0, none⟩ (.int .i64 m)) Wb.heap.size 196 3 (fun k => if k = 0 then .int .i64 m else .int .i64 0) := HR2.out.set rfl fun j hj hne => by simp [hne]
  have hr2 : Row ((w2.setCell ⟨Wb.heap.size, 0, none⟩ (.int .i64 m)).setCell ⟨Wb.heap.size, 1, none⟩ (.int .i64 0)) Wb.heap.size 196 3 (fun k => if k = 1 then .int .i64 0 else if k = 0 then .int .i64 m else .int .i64 0) := hr1.set rfl fun j hj hne => by simp [hne]
  have hr3 : Row W6 Wb.heap.size 196 3 (fun k => if k = 2 then .int .i64 256 else if k = 1 then .int .i64 0 else if k = 0 then .int .i64 m else .int .i64 0) := hW6 ▸ hr2.set rfl fun j hj hne => by simp [hne]
  have x0 : W6.cell? ⟨Wb.heap.size, 0, none⟩ = some (.int .i64 m) := hr3.cell (k := 0) (by omega)
  have x1 : W6.cell? ⟨Wb.heap.size, 1, none⟩ = some (.int .i64 0) := hr3.cell (k := 1) (by omega)
  have x2 : W6.cell? ⟨Wb.heap.size, 2, none⟩ = some (.int .i64 256) := hr3.cell (k := 2) (by omega)
  have HG6 := hid (HG2.out.andThen gch (fun j hj => by cases hj; exact .inl HS.out))
  rw [hW6]
  clear hr1 hr2 hr3 y0 y1 y2 r0 r1 r2 gch hW6
  exact bodyPost_ret (v := .agg #[.int .i64 m, .int .i64 0, .int .i64 256]) (by simp [results, Try.results163, go_sem, x0, x1, x2]) rfl ⟨rfl, HG6.out⟩
section
variable {w : World} {X B G : Nat} {pm : Nat → Nat × Nat × Nat} {np : Nat} {s : Gs} {T : Nat}
theorem gFindPlace (h : GA w X B G pm np s T) (hmem : ∀ d t i, s.g.mem d = some (t, i) → i < np) (c p : Int) (hc : gdom c = true) (hp : I64 p) (m e : Int) (hE : s.placeE c p = (m, e)) :
    Calls Try.prog 139 #[.pointer (some ⟨X, 0, none⟩), .int .i64 c, .int .i64 p] w fun ex w' => ex = .returned (placeRet m e) ∧ w.grownBy w' none := by
  obtain ⟨hc0, hc1⟩ := gdom_yes.1 hc
  obtain ⟨o, rfl⟩ := Int.eq_ofNat_of_zero_le hc0
  have HJ := hid (gJoined h o)
  unfold Gs.placeE at hE
  cases hj : s.g.joined o with
  | false =>
    rw [hj] at HJ hE
    rw [if_pos rfl] at hE
    cases hE
    rw [placeRet_no (by decide)]
    clear h hmem hc hc0 hc1 hj hp
    go_enter Try.func139, Try.ntmps139
    go_wp2_with (go_at_call 111; (with_reducible refine HJ.out.mono ?_); rintro e w' ⟨rfl, rfl⟩)
    go_ret2
    exact ⟨rfl, World.grownBy.refl _ _⟩
  | true =>
    rw [hj] at HJ hE
    rw [if_neg (by simp)] at hE
    obtain ⟨-, ⟨t, i⟩, hm⟩ := Gst.joined_yes.1 hj
    rw [Int.toNat_natCast] at hm hE
    rw [hm] at hE
    have hi := hmem _ _ _ hm
    have c1 : w.cell? ⟨X, 1 + o * 2 + 1, none⟩ = some (.pointer (some ⟨(pm i).1, 0, none⟩)) := by
      have h1 := h.plc (show o < 8 by omega)
      rw [hm] at h1
      exact h1
    have HP := hid (fun w' (hg' : w.grownBy w' none) => pGet_yes (pm i).1 (pm i).2.1 (pm i).2.2 (s.P i) T p hp w' ((h.grown hg').p i hi))
    simp only at hE
    rw [hE] at HP
    simp only at HP
    have ho0 : (0 : Int) ≤ o := by omega
    have ho8 : (o : Int) < 8 := by omega
    by_cases he0 : e = 0
    · subst he0
      rw [placeRet_yes]
      clear h hmem hc hc0 hc1 hj hp hm hE hi
      go_enter Try.func139, Try.ntmps139
      go_wp2_with (first
        | (go_at_call 111; (with_reducible refine HJ.out.mono ?_); rintro e w' ⟨rfl, rfl⟩)
        | (go_at_call 88; (with_reducible refine (HP.out _ (World.grownBy.refl _ _)).mono ?_); rintro e w' ⟨rfl, rfl⟩))
      go_ret2
      exact ⟨rfl, World.grownBy.refl _ _⟩
    · rw [placeRet_no he0]
      have hb : (e != 0) = true := by simpa using he0
      clear h hmem hc hc0 hc1 hj hp hm hE hi he0
      go_enter Try.func139, Try.ntmps139
      go_wp2_with (first
        | (go_at_call 111; (with_reducible refine HJ.out.mono ?_); rintro e w' ⟨rfl, rfl⟩)
        | (go_at_call 88; (with_reducible refine (HP.out _ (World.grownBy.refl _ _)).mono ?_); rintro e w' ⟨rfl, rfl⟩))
      go_ret2
      exact ⟨rfl, World.grownBy.refl _ _⟩
end
section
variable {w : World} {X B G : Nat} {pm : Nat → Nat × Nat × Nat} {np : Nat} {s : Gs} {T : Nat} {V Gv : Nat} {S : Nat → Prop} {l : List PokeV} {n : Nat}
theorem gFindP (h : GW w X B G pm np s T V Gv S l n) (hmem : ∀ d t i, s.g.mem d = some (t, i) → i < np) (c : Int) (hc : gdom c = true) (d r p off k : Int) (hp : I64 p) (ho : 0 ≤ off) (hk : 0 ≤ k) (m e : Int) (hE : s.placeE c p = (m, e)) :
    Calls Try.prog 117 #[.pointer (some ⟨X, 0, none⟩), .pointer (some ⟨V, 0, none⟩), .int .i64 c, .agg #[.bool false, .int .i64 d, .int .i64 r, .int .i64 p, .int .i64 off], .int .i64 k] w fun ex w' => ex = .returned (placeRet m e) ∧ w.grownBy w' none := by
  obtain ⟨W1, hW1⟩ : ∃ W, w.alloc (.cells #[.bool false, .int .i64 d, .int .i64 r, .int .i64 p, .int .i64 off] 96) = W := ⟨_, rfl⟩
  have hg1 : w.grownBy W1 none := hW1 ▸ World.grownBy_alloc _ _ none
  have q0 : W1.cell? ⟨w.heap.size, 0, none⟩ = some (.bool false) := by rw [← hW1]; simp [go_sem]
  have q3 : W1.cell? ⟨w.heap.size, 3, none⟩ = some (.int .i64 p) := by rw [← hW1]; simp [go_sem]
  have q4 : W1.cell? ⟨w.heap.size, 4, none⟩ = some (.int .i64 off) := by rw [← hW1]; simp [go_sem]
  have c0 := (h.grown hg1).c0
  obtain ⟨f, hv⟩ := (h.grown hg1).v
  have HV := hid (gIsView_yes V Gv B S l n l.length f W1 hv)
  have HD := hid (gIsDom_yes c W1 hc)
  have HF := hid (gFindPlace (h.grown hg1).a hmem c p hc hp m e hE)
  have HG1 := hid hg1
  by_cases he0 : e = 0
  · subst he0
    rw [placeRet_yes] at HF ⊢
    clear h hmem hp hg1 hv hc hE
    go_enter Try.func117, Try.ntmps117
    go_wp2_with (first
      | (go_at_call 103; (with_reducible refine (gMade_yes X B _ c0).mono ?_); rintro e w' ⟨rfl, rfl⟩)
      | (go_at_call 104; (with_reducible refine HV.out.mono ?_); rintro e w' ⟨rfl, rfl⟩)
      | (go_at_call 105; (with_reducible refine HD.out.mono ?_); rintro e w' ⟨rfl, rfl⟩)
      | (go_at_call 139; (with_reducible refine HF.out.mono ?_); rintro e w2 ⟨rfl, g2⟩; have G2 := hid g2; clear g2))
    go_ret2
    exact ⟨rfl, HG1.out.trans G2.out⟩
  · rw [placeRet_no he0] at HF ⊢
    clear h hmem hp hg1 hv hc hE
    go_enter Try.func117, Try.ntmps117
    go_wp2_with (first
      | (go_at_call 103; (with_reducible refine (gMade_yes X B _ c0).mono ?_); rintro e w' ⟨rfl, rfl⟩)
      | (go_at_call 104; (with_reducible refine HV.out.mono ?_); rintro e w' ⟨rfl, rfl⟩)
      | (go_at_call 105; (with_reducible refine HD.out.mono ?_); rintro e w' ⟨rfl, rfl⟩)
      | (go_at_call 139; (with_reducible refine HF.out.mono ?_); rintro e w2 ⟨rfl, g2⟩; have G2 := hid g2; clear g2))
    go_ret2
    exact ⟨rfl, HG1.out.trans G2.out⟩
/-- an entry that is none: refused ahead of the read -/
theorem gFind_ns (h : GW w X B G pm np s T V Gv S l n) (c : Int) (hc : gdom c = true) (d r p off k : Int) (ho : 0 ≤ off) (hk : 0 ≤ k) (hs : s.g.slot d r = false) :
    Calls Try.prog 117 #[.pointer (some ⟨X, 0, none⟩), .pointer (some ⟨V, 0, none⟩), .int .i64 c, .agg #[.bool true, .int .i64 d, .int .i64 r, .int .i64 p, .int .i64 off], .int .i64 k] w fun ex w' => ex = .returned (.tuple #[.nilIface, .int .i64 1]) ∧ w.grownBy w' none := by
  have HFG : Hid (∀ w0 : World, w.grownBy w0 none → Calls Try.prog 138 #[.pointer (some ⟨X, 0, none⟩), .pointer (some ⟨V, 0, none⟩), .int .i64 c, .agg #[.int .i64 d, .int .i64 r]] w0 fun ex w' => ex = .returned (.tuple #[.nilIface, .int .i64 1]) ∧ w0.grownBy w' none) := hid (fun w0 hg0 => by
    obtain ⟨W1, hW1⟩ : ∃ W, w0.alloc (.cells #[.int .i64 d, .int .i64 r] 186) = W := ⟨_, rfl⟩
    have hg1 : w0.grownBy W1 none := hW1 ▸ World.grownBy_alloc _ _ none
    have q0 : W1.cell? ⟨w0.heap.size, 0, none⟩ = some (.int .i64 d) := by rw [← hW1]; simp [go_sem]
    have q1 : W1.cell? ⟨w0.heap.size, 1, none⟩ = some (.int .i64 r) := by rw [← hW1]; simp [go_sem]
    have HS := hid (gSlot ((h.grown hg0).grown hg1).a d r)
    rw [hs] at HS
    have HG1 := hid hg1
    clear h hs hc hg1 hg0
    go_enter Try.func138, Try.ntmps138
    go_wp2_with (go_at_call 106; (with_reducible refine HS.out.mono ?_); rintro e w' ⟨rfl, rfl⟩)
    go_ret2
    exact ⟨rfl, HG1.out⟩)
  obtain ⟨W1, hW1⟩ : ∃ W, w.alloc (.cells #[.bool true, .int .i64 d, .int .i64 r, .int .i64 p, .int .i64 off] 96) = W := ⟨_, rfl⟩
  have hg1 : w.grownBy W1 none := hW1 ▸ World.grownBy_alloc _ _ none
  have q0 : W1.cell? ⟨w.heap.size, 0, none⟩ = some (.bool true) := by rw [← hW1]; simp [go_sem]
  have q1 : W1.cell? ⟨w.heap.size, 1, none⟩ = some (.int .i64 d) := by rw [← hW1]; simp [go_sem]
  have q2 : W1.cell? ⟨w.heap.size, 2, none⟩ = some (.int .i64 r) := by rw [← hW1]; simp [go_sem]
  have q4 : W1.cell? ⟨w.heap.size, 4, none⟩ = some (.int .i64 off) := by rw [← hW1]; simp [go_sem]
  have c0 := (h.grown hg1).c0
  obtain ⟨f, hv⟩ := (h.grown hg1).v
  have HV := hid (gIsView_yes V Gv B S l n l.length f W1 hv)
  have HD := hid (gIsDom_yes c W1 hc)
  have HG1 := hid hg1
  have HF := hid (HFG.out W1 hg1)
  clear h hg1 hv hc hs HFG
  go_enter Try.func117, Try.ntmps117
  go_wp2_with (first
    | (go_at_call 103; (with_reducible refine (gMade_yes X B _ c0).mono ?_); rintro e w' ⟨rfl, rfl⟩)
    | (go_at_call 104; (with_reducible refine HV.out.mono ?_); rintro e w' ⟨rfl, rfl⟩)
    | (go_at_call 105; (with_reducible refine HD.out.mono ?_); rintro e w' ⟨rfl, rfl⟩)
    | (go_at_call 138; (with_reducible refine HF.out.mono ?_); rintro e w2 ⟨rfl, g2⟩; have G2 := hid g2; clear g2))
  go_ret2
  exact ⟨rfl, HG1.out.trans G2.out⟩
end
/-- what find refuses, Pull and Push refuse -/
def FindNo (w : World) (X V : Nat) (c : Int) (gr : Bool) (d r p off k er : Int) : Prop := ∀ w1, w.grownBy w1 none → Calls Try.prog 117 #[.pointer (some ⟨X, 0, none⟩), .pointer (some ⟨V, 0, none⟩), .int .i64 c, .agg #[.bool gr, .int .i64 d, .int .i64 r, .int .i64 p, .int .i64 off], .int .i64 k] w1 fun ex w' => ex = .returned (.tuple #[.nilIface, .int .i64 er]) ∧ w1.grownBy w' none
section
variable {w : World} {X V : Nat} {c : Int} {gr : Bool} {d r p off er : Int}
theorem gPull_er {k : Int} (h : FindNo w X V c gr d r p off k er) (he : er ≠ 0) :
    Calls Try.prog 51 #[.pointer (some ⟨X, 0, none⟩), .pointer (some ⟨V, 0, none⟩), .int .i64 c, .agg #[.bool gr, .int .i64 d, .int .i64 r, .int .i64 p, .int .i64 off], .int .i64 k] w fun ex w' => ex = .returned (.tuple #[.slice none 0 0, .int .i64 er]) ∧ w.grownBy w' none := by
  have hg1 := World.grownBy_alloc w (.cells #[.bool gr, .int .i64 d, .int .i64 r, .int .i64 p, .int .i64 off] 96) none
  have HF := hid (h _ hg1)
  have HG1 := hid hg1
  have hb : (er != 0) = true := by simpa using he
  clear h hg1 he
  go_enter Try.func51, Try.ntmps51
  go_wp2_with (go_at_call 117; (with_reducible refine HF.out.mono ?_); rintro e w2 ⟨rfl, g2⟩; have G2 := hid g2; clear g2)
  go_ret2
  exact ⟨rfl, HG1.out.trans G2.out⟩
theorem gPush_er {k : Nat} (h : FindNo w X V c gr d r p off (k : Int) er) (he : er ≠ 0) (pa : Option Addr) (cap : Nat) :
    Calls Try.prog 53 #[.pointer (some ⟨X, 0, none⟩), .pointer (some ⟨V, 0, none⟩), .int .i64 c, .agg #[.bool gr, .int .i64 d, .int .i64 r, .int .i64 p, .int .i64 off], .slice pa k cap] w fun ex w' => ex = .returned (.int .i64 er) ∧ w.grownBy w' none := by
  have hg1 := World.grownBy_alloc w (.cells #[.bool gr, .int .i64 d, .int .i64 r, .int .i64 p, .int .i64 off] 96) none
  have HF := hid (h _ hg1)
  have HG1 := hid hg1
  have hb : (er != 0) = true := by simpa using he
  clear h hg1 he
  go_enter Try.func53, Try.ntmps53
  go_wp2_with (go_at_call 117; (with_reducible refine HF.out.mono ?_); rintro e w2 ⟨rfl, g2⟩; have G2 := hid g2; clear g2)
  go_ret
  exact ⟨rfl, HG1.out.trans G2.out⟩
end
end Go.Proofs.Ytibiianmpajabaa

/-
  Package grant: Push at an end that a grant names.
-/
set_option linter.unusedSimpArgs false
set_option linter.unusedVariables false
namespace Go.Proofs.Ytibiianmpajabaa
open Go.RowKit KM
set_option maxHeartbeats 8000000
set_option maxRecDepth 100000

theorem as_grant (v : Value) (W : World) : (Instr.typeAssert (.iface 209 v) 203 209 true).run Try.prog W = .ok (.tuple #[v, .bool true]) W := by kernel_rfl
section
variable {w : World} {X B G : Nat} {pm : Nat → Nat × Nat × Nat} {np : Nat} {s : Gs} {T : Nat} {V Gv : Nat} {S : Nat → Prop} {l : List PokeV} {n : Nat}
theorem gPushG_no (h : GW w X B G pm np s T V Gv S l n) {K : Int} (hok : s.M.ok K) (hl : ∀ p ∈ l, p.fits) (hll : l.length ≤ 64) (hn : (n : Int) < 9223372036854775807) (c : Int) (hc : gdom c = true) (d r : Nat) (hd : d < 8) (hr : r < 32) (t : Int) (i : Nat) (hm : s.g.mem d = some (t, i)) (ht0 : 0 ≤ t) (ht1 : t < s.M.n) (hi : i < np) (p off : Int) (ho : 0 ≤ off) (pa : Option Addr) (k cap : Nat) (hR : (s.due l n).endG ((s.due l n).entB d r) c d = none) :
    Calls Try.prog 53 #[.pointer (some ⟨X, 0, none⟩), .pointer (some ⟨V, 0, none⟩), .int .i64 c, .agg #[.bool true, .int .i64 d, .int .i64 r, .int .i64 p, .int .i64 off], .slice pa k cap] w fun e w' => e = .returned (.int .i64 60) ∧ GR w X B G pm np (s.due l n) T V Gv S l (n + 1) w' := by
  have hg1 := World.grownBy_alloc w (.cells #[.bool true, .int .i64 d, .int .i64 r, .int .i64 p, .int .i64 off] 96) none
  have HF := hid (gFindG (h.grown hg1) hok hl hll hn c hc d r hd hr t i hm ht0 ht1 hi p off k ho (by omega) none hR)
  simp only [endRet] at HF
  have H0 := hid h
  have HG1 := hid hg1
  clear h hok hl hll hn hm ht0 ht1 hg1 hc hR hd hr hi
  go_enter Try.func53, Try.ntmps53
  go_wp2_with (go_at_call 117; (with_reducible refine HF.out.mono ?_); rintro e w2 ⟨rfl, h2⟩; have H2 := hid h2; clear h2)
  go_ret
  exact ⟨rfl, GR.first H0.out HG1.out H2.out⟩
theorem end8 {w W : World} {m gk : Int} {ro sub : Bool} {dm gp gf gl : Int} (hg : (w.alloc (.cells #[.int .i64 m, .int .i64 gk, .bool ro, .bool sub, .int .i64 dm, .int .i64 gp, .int .i64 gf, .int .i64 gl] 209)).grownBy W none) : W.cell? ⟨w.heap.size, 2, none⟩ = some (.bool ro) :=
  hg.cell (by simp [go_sem]) (by simp)
theorem part3 {w W : World} {m gf gl : Int} (hg : (w.alloc (.cells #[.int .i64 m, .int .i64 gf, .int .i64 gl] 196)).grownBy W none) : W.cell? ⟨w.heap.size, 0, none⟩ = some (.int .i64 m) ∧ W.cell? ⟨w.heap.size, 1, none⟩ = some (.int .i64 gf) ∧ W.cell? ⟨w.heap.size, 2, none⟩ = some (.int .i64 gl) :=
  ⟨hg.cell (by simp [go_sem]) (by simp), hg.cell (by simp [go_sem]) (by simp), hg.cell (by simp [go_sem]) (by simp)⟩
theorem frRow0 (w : World) : Row (w.alloc (.cells #[.int .i64 0, .int .i64 0, .int .i64 0, .int .i64 0] 100)) w.heap.size 100 4 (fun _ => .int .i64 0) :=
  Gen.Row.new w _ 100 4 _ (by simp) fun k hk => by match k, hk with | 0, _ => rfl | 1, _ => rfl | 2, _ => rfl | 3, _ => rfl
/-- what Push answers behind its read -/
def Gs.pushE (s1 : Gs) (m : Int) (g : GV) (off : Int) (b : List UInt8) : Int × Gs :=
  if g.ro = true then (62, s1) else
  if g.len - off < b.length then (63, s1) else
  if (s1.M.fr m.toNat).ty = 2 ∨ (s1.M.fr m.toNat).ty = 3 then (13, s1) else
  ((s1.M.write m (g.off + off) b).1, s1.setM (s1.M.write m (g.off + off) b).2)
theorem gPushG_yes (h : GW w X B G pm np s T V Gv S l n) {K : Int} (hok : s.M.ok K) (hl : ∀ p ∈ l, p.fits) (hll : l.length ≤ 64) (hn : (n : Int) < 9223372036854775807) (c : Int) (hc : gdom c = true) (d r : Nat) (hd : d < 8) (hr : r < 32) (t : Int) (i : Nat) (hm : s.g.mem d = some (t, i)) (ht0 : 0 ≤ t) (ht1 : t < s.M.n) (hi : i < np) (p off : Int) (ho : 0 ≤ off) (ho2 : off ≤ 9223372036854775807) (pa : Option Addr) (cap : Nat) (b : List UInt8) (hbl : b.length ≤ 9223372036854775807) (hb : ∀ w', Chg (avfoot X B G pm np V Gv) w w' → IsBytes w' B (.slice pa b.length cap) b) (m : Int) (g : GV) (hR : (s.due l n).endG ((s.due l n).entB d r) c d = some (m, g)) :
    Calls Try.prog 53 #[.pointer (some ⟨X, 0, none⟩), .pointer (some ⟨V, 0, none⟩), .int .i64 c, .agg #[.bool true, .int .i64 d, .int .i64 r, .int .i64 p, .int .i64 off], .slice pa b.length cap] w fun e w' => e = .returned (.int .i64 ((s.due l n).pushE m g off b).1) ∧ GR w X B G pm np ((s.due l n).pushE m g off b).2 T V Gv S l (n + 1) w' := by
  obtain ⟨W1, hW1⟩ : ∃ W, w.alloc (.cells #[.bool true, .int .i64 d, .int .i64 r, .int .i64 p, .int .i64 off] 96) = W := ⟨_, rfl⟩
  have hg1 : w.grownBy W1 none := hW1 ▸ World.grownBy_alloc _ _ none
  have q0 : W1.cell? ⟨w.heap.size, 0, none⟩ = some (.bool true) := by rw [← hW1]; simp [go_sem]
  have q1 : W1.cell? ⟨w.heap.size, 1, none⟩ = some (.int .i64 d) := by rw [← hW1]; simp [go_sem]
  have q2 : W1.cell? ⟨w.heap.size, 2, none⟩ = some (.int .i64 r) := by rw [← hW1]; simp [go_sem]
  have q3 : W1.cell? ⟨w.heap.size, 3, none⟩ = some (.int .i64 p) := by rw [← hW1]; simp [go_sem]
  have q4 : W1.cell? ⟨w.heap.size, 4, none⟩ = some (.int .i64 off) := by rw [← hW1]; simp [go_sem]
  obtain ⟨-, hmi, e0, e1, e2⟩ := Gs.endG_ok hR
  obtain ⟨gk, ro, sub, dm, gp, gf, gl⟩ := g
  simp only at e0 e1 e2
  have HF := hid (gFindG (h.grown hg1) hok hl hll hn c hc d r hd hr t i hm ht0 ht1 hi p off b.length ho (by omega) _ hR)
  simp only [endRet] at HF
  have HWi := hid (fun w' => gWithin m gf gl off b.length w' e0 (by omega) (by omega) (by omega) ho2)
  have hok' : (s.due l n).M.ok K := Mach.rews_ok _ hok
  have H0 := hid h
  have HG1 := hid hg1
  have HQ := hid q4
  have has := as_grant
  unfold Gs.pushE
  simp only
  cases ro with
  | true =>
    rw [if_pos rfl]
    clear h hok hok' hl hll hn hm ht0 ht1 hg1 hc hR hd hr hi e0 e1 e2 hb hbl
    go_enter Try.func53, Try.ntmps53
    go_wp2_with (go_at_call 117; (with_reducible refine HF.out.mono ?_); rintro e w2 ⟨rfl, h2⟩; have H2 := hid h2; clear h2)
    go_ret
    exact ⟨rfl, GR.first H0.out HG1.out (H2.out.grown (World.grownBy_alloc w2 _ none))⟩
  | false =>
    rw [if_neg (by simp)]
    by_cases hx : gl - off < b.length
    · rw [if_pos hx]
      rw [EndV.at_no (.inr (.inr hx))] at HWi
      clear h hok hok' hl hll hn hm ht0 ht1 hg1 hc hR hd hr hi e0 e1 e2 hx hb hbl
      go_enter Try.func53, Try.ntmps53
      go_wp2_with (first
        | (go_at_call 117; (with_reducible refine HF.out.mono ?_); rintro e w2 ⟨rfl, h2⟩; have H2 := hid h2; have Z2 := hid (GR.fresh H0.out h2 (Nat.le_refl _) HQ.out); clear h2)
        | (go_at_call 162; (with_reducible refine (gPartG _ _ _ _ _ _ _ _ _).mono ?_); rintro e w3 ⟨rfl, g3⟩; have g3' := (World.grownBy_alloc w2 (.cells #[.int .i64 m, .int .i64 gk, .bool false, .bool sub, .int .i64 dm, .int .i64 gp, .int .i64 gf, .int .i64 gl] 209) none).trans g3; have H3 := hid (H2.out.grown g3'); have z3 := fun ob => (World.grownBy_alloc w3 ob none).cell (g3'.cell Z2.out (by simp)) (by simp); clear g3 g3')
        | (go_at_call 114; (with_reducible refine (HWi.out _).mono ?_); rintro e w4 ⟨rfl, g4⟩; have H4 := hid ((H3.out.grown (World.grownBy_alloc w3 _ none)).grown g4); clear g4))
      go_ret
      exact ⟨rfl, GR.first H0.out HG1.out H4.out⟩
    · rw [if_neg hx]
      rw [EndV.at_yes ho (by omega) (by omega)] at HWi
      obtain ⟨hm0, hm1⟩ := Mach.is_iff.1 hmi
      obtain ⟨mk, rfl⟩ : ∃ mk : Nat, m = mk := ⟨m.toNat, by omega⟩
      rw [Int.toNat_natCast]
      have HFr := hid (fun w2 (hp : PM w2 B (s.due l n).M) => Frame_yes B mk w2 (s.due l n).M K hp hok' hm1)
      simp only [Fr.head] at HFr
      obtain ⟨R, hRw⟩ : ∃ R, (s.due l n).M.write mk (gf + off) b = R := ⟨_, rfl⟩
      have HW := hid (fun w2 (hch : Chg (avfoot X B G pm np V Gv) w w2) (hp : PM w2 B (s.due l n).M) => Write_any B mk (gf + off) (.slice pa b.length cap) b w2 (s.due l n).M K hp hok' (by omega) (hb w2 hch) hbl)
      rw [hRw] at HW ⊢
      generalize ((s.due l n).M.fr mk).owner = f0 at *
      generalize ((s.due l n).M.fr mk).ty = f1 at *
      generalize ((s.due l n).M.fr mk).cnt = f2 at *
      generalize ((s.due l n).M.fr mk).tot = f3 at *
      obtain ⟨P, hP⟩ : ∃ P : Int × Gs, (if f1 = 2 ∨ f1 = 3 then ((13 : Int), s.due l n) else (R.1, (s.due l n).setM R.2)) = P := ⟨_, rfl⟩
      rw [hP]
      have HP := hid hP
      have HW1 := hid (h.grown hg1)
      clear h hok hok' hl hll hn hm ht0 ht1 hg1 hc hR hd hr hi e0 e1 e2 hx hb hbl hm0 hm1 hmi hRw hP
      go_enter Try.func53, Try.ntmps53
      go_wp2_with (first
        | (go_at_call 117; (with_reducible refine HF.out.mono ?_); rintro e w2 ⟨rfl, h2⟩; have H2 := hid h2; have Z2 := hid (GR.fresh H0.out h2 (Nat.le_refl _) HQ.out); clear h2)
        | (go_at_call 162; (with_reducible refine (gPartG _ _ _ _ _ _ _ _ _).mono ?_); rintro e w3 ⟨rfl, g3⟩; have g3' := (World.grownBy_alloc w2 (.cells #[.int .i64 mk, .int .i64 gk, .bool false, .bool sub, .int .i64 dm, .int .i64 gp, .int .i64 gf, .int .i64 gl] 209) none).trans g3; have H3 := hid (H2.out.grown (g3'.trans (World.grownBy_alloc w3 (.cells #[.int .i64 mk, .int .i64 gf, .int .i64 gl] 196) none))); have z3 := fun ob => (World.grownBy_alloc w3 ob none).cell (g3'.cell Z2.out (by simp)) (by simp); obtain ⟨W3, hW3⟩ : ∃ W, w3.alloc (.cells #[.int .i64 mk, .int .i64 gf, .int .i64 gl] 196) = W := ⟨_, rfl⟩; have p3 := part3 (w := w3) (W := W3) (m := mk) (gf := gf) (gl := gl) (by rw [hW3]; exact World.grownBy.refl _ _); obtain ⟨p30, p31, p32⟩ := p3; have z3' : W3.cell? ⟨w.heap.size, 4, none⟩ = some (.int .i64 off) := hW3 ▸ z3 _; have P30 := hid p30; rw [hW3] at H3; have HB3 := hid (show B ≠ w3.heap.size from fun e => by have h1 := H2.out.a.a.m.lt; have h2 := g3'.size; omega); clear g3 g3' z3)
        | (go_at_call 114; (with_reducible refine (HWi.out _).mono ?_); rintro e w4 ⟨rfl, g4⟩; have H4 := hid (H3.out.grown g4); have P4 := hid (g4.cell P30.out (by simp)); clear g4 p30 p31 p32 z3'))
      have c0 : w4.drew.cell? ⟨X, 0, none⟩ = some (.pointer (some ⟨B, 0, none⟩)) := H4.out.a.a.c0
      have p0 : w4.drew.cell? ⟨w3.heap.size, 0, none⟩ = some (.int .i64 mk) := P4.out
      clear hW3
      obtain ⟨WA, hWA⟩ : ∃ W, w4.alloc (.cells #[.int .i64 0, .int .i64 0, .int .i64 0, .int .i64 0] 100) = W := ⟨_, rfl⟩
      have gA : w4.grownBy WA none := hWA ▸ World.grownBy_alloc _ _ none
      have HRA := hid (hWA ▸ frRow0 w4 : Row WA w4.heap.size 100 4 (fun _ => .int .i64 0))
      have HA4 := hid (H4.out.grown gA)
      have a0 : WA.drew.cell? ⟨X, 0, none⟩ = some (.pointer (some ⟨B, 0, none⟩)) := HA4.out.a.a.c0
      have a1 : WA.drew.cell? ⟨w3.heap.size, 0, none⟩ = some (.int .i64 mk) := gA.cell P4.out (by simp)
      have neX : w4.heap.size ≠ X := World.new_ne w4 ⟨X, 0, none⟩ c0
      have neP : w4.heap.size ≠ w3.heap.size := World.new_ne w4 ⟨w3.heap.size, 0, none⟩ p0
      have HS4 := hid H4.out.c.size
      clear gA
      go_region_held3 (fun w' => w'.cell? ⟨X, 0, none⟩ = some (.pointer (some ⟨B, 0, none⟩)) ∧ w'.cell? ⟨w3.heap.size, 0, none⟩ = some (.int .i64 mk)) (first | exact ⟨by assumption, by assumption⟩ | go_keep)
        (first
          | (go_at_call 47; (with_reducible refine (HFr.out WA.drew HA4.out.a.a.m.drew).mono ?_); rintro e w5 ⟨rfl, g5⟩; have g5' := (grownBy_drew WA none).trans g5; have H5 := hid (HA4.out.grown g5'); have HRr := hid (Row.grown HRA.out g5' (by simp)); have k0 := H5.out.a.a.c0; have k1 := g5.cell a1 (by simp); have y0 := HRr.out.cell (k := 0) (by omega); have y1 := HRr.out.cell (k := 1) (by omega); have y2 := HRr.out.cell (k := 2) (by omega); have y3 := HRr.out.cell (k := 3) (by omega); have r0 := HRr.out.frozen 0; have r1 := HRr.out.frozen 1; have r2 := HRr.out.frozen 2; have r3 := HRr.out.frozen 3; have gch := (((grownBy_setCell w5 w4.heap.size 0 none (.int .i64 f0)).trans (grownBy_setCell _ w4.heap.size 1 none (.int .i64 f1))).trans (grownBy_setCell _ w4.heap.size 2 none (.int .i64 f2))).trans (grownBy_setCell _ w4.heap.size 3 none (.int .i64 f3)); have kc0 := gch.cell k0 (fun e => neX (Option.some.inj e).symm); have kc1 := gch.cell k1 (fun e => neP (Option.some.inj e).symm); have HCh := hid gch; have HK1 := hid kc1; clear gch g5 g5')
          | (go_at_call 47; (with_reducible refine (HFr.out w4.drew H4.out.a.a.m.drew).mono ?_); rintro e w5 ⟨rfl, g5⟩; have H5 := hid (H4.out.grown ((grownBy_drew w4 none).trans g5)); have k0 := H5.out.a.a.c0; have k1 := g5.cell p0 (by simp); have ne5 : w5.heap.size ≠ X := World.new_ne w5 ⟨X, 0, none⟩ k0; have ne6 : w5.heap.size ≠ w3.heap.size := World.new_ne w5 ⟨w3.heap.size, 0, none⟩ k1; have vz0 := (World.grownBy_alloc w5 (.cells #[.int .i64 0, .int .i64 0, .int .i64 0, .int .i64 0] 100) none).cell k0 (by simp); have vz1 := (World.grownBy_alloc w5 (.cells #[.int .i64 0, .int .i64 0, .int .i64 0, .int .i64 0] 100) none).cell k1 (by simp); have vf0 := (World.grownBy_alloc w5 (.cells #[.int .i64 f0, .int .i64 f1, .int .i64 f2, .int .i64 f3] 100) none).cell k0 (by simp); have vf1 := (World.grownBy_alloc w5 (.cells #[.int .i64 f0, .int .i64 f1, .int .i64 f2, .int .i64 f3] 100) none).cell k1 (by simp); have HK1 := hid vf1; clear g5))
      · obtain ⟨W6, hW6⟩ : ∃ W, w5.alloc (.cells #[.int .i64 f0, .int .i64 f1, .int .i64 f2, .int .i64 f3] 100) = W := ⟨_, rfl⟩
        have y6 : W6.cell? ⟨w5.heap.size, 1, none⟩ = some (.int .i64 f1) := by rw [← hW6]; simp [go_sem]
        have H6 := hid (H5.out.grown (hW6 ▸ World.grownBy_alloc _ _ none : w5.grownBy W6 none))
        have HK6 := hid (hW6 ▸ HK1.out : W6.cell? ⟨w3.heap.size, 0, none⟩ = some (.int .i64 mk))
        rw [hW6]
        clear hW6 vz0 vz1 vf0 vf1 ne5 ne6 k0 k1 c0 p0 a0 a1 neX neP hWA
        have hsp : f1 = 2 ∨ f1 = 3 ∨ (f1 ≠ 2 ∧ f1 ≠ 3) := by omega
        rcases hsp with h2 | h3 | ⟨n2, n3⟩
        · obtain rfl : P = ((13 : Int), s.due l n) := by rw [← HP.out, if_pos (.inl h2)]
          subst h2
          go_wp2
          go_ret
          exact ⟨rfl, GR.first H0.out HG1.out H6.out⟩
        · obtain rfl : P = ((13 : Int), s.due l n) := by rw [← HP.out, if_pos (.inr h3)]
          subst h3
          go_wp2
          go_ret
          exact ⟨rfl, GR.first H0.out HG1.out H6.out⟩
        · obtain rfl : P = (R.1, (s.due l n).setM R.2) := by rw [← HP.out, if_neg (fun h => h.elim n2 n3)]
          have b2 : (f1 == 2) = false := by simpa using n2
          have b3 : (f1 == 3) = false := by simpa using n3
          go_upto_region 14 with fail
          have c6 : W6.drew.cell? ⟨X, 0, none⟩ = some (.pointer (some ⟨B, 0, none⟩)) := H6.out.a.a.c0
          have p6 : W6.drew.cell? ⟨w3.heap.size, 0, none⟩ = some (.int .i64 mk) := HK6.out
          clear y6
          go_region_held3 (fun w' => w'.cell? ⟨X, 0, none⟩ = some (.pointer (some ⟨B, 0, none⟩)) ∧ w'.cell? ⟨w3.heap.size, 0, none⟩ = some (.int .i64 mk)) (first | exact ⟨by assumption, by assumption⟩ | go_keep)
            (first
              | (go_at_call 15; (with_reducible refine (HW.out _ (GR.first H0.out HG1.out (H6.out.grown (grownBy_drew W6 none))).c H6.out.a.a.m.drew).mono ?_); rintro e w7 ⟨rfl, h7, g7⟩; have H7 := hid ((H6.out.grown (grownBy_drew W6 none)).mach h7 g7); have k0 := H7.out.a.a.c0; have k1 := g7.cell p6 (fun e => HB3.out (Option.some.inj e).symm); clear h7 g7))
          go_wp2
          go_ret
          exact ⟨rfl, GR.first H0.out HG1.out H7.out⟩
      · obtain ⟨W6, hW6⟩ : ∃ W, (((w5.setCell ⟨w4.heap.size, 0, none⟩ (.int .i64 f0)).setCell ⟨w4.heap.size, 1, none⟩ (.int .i64 f1)).setCell ⟨w4.heap.size, 2, none⟩ (.int .i64 f2)).setCell ⟨w4.heap.size, 3, none⟩ (.int .i64 f3) = W := ⟨_, rfl⟩
        have hr1 : Row (w5.setCell ⟨w4.heap.size, 0, none⟩ (.int .i64 f0)) w4.heap.size 100 4 (fun k => if k = 0 then .int .i64 f0 else .int .i64 0) := HRr.out.set rfl fun j hj hne => by simp [hne]
        have hr2 : Row ((w5.setCell ⟨w4.heap.size, 0, none⟩ (.int .i64 f0)).setCell ⟨w4.heap.size, 1, none⟩ (.int .i64 f1)) w4.heap.size 100 4 (fun k => if k = 1 then .int .i64 f1 else if k = 0 then .int .i64 f0 else .int .i64 0) := hr1.set rfl fun j hj hne => by simp [hne]
        have hr3 : Row (((w5.setCell ⟨w4.heap.size, 0, none⟩ (.int .i64 f0)).setCell ⟨w4.heap.size, 1, none⟩ (.int .i64 f1)).setCell ⟨w4.heap.size, 2, none⟩ (.int .i64 f2)) w4.heap.size 100 4 (fun k => if k = 2 then .int .i64 f2 else if k = 1 then .int .i64 f1 else if k = 0 then .int .i64 f0 else .int .i64 0) := hr2.set rfl fun j hj hne => by simp [hne]
        have hr4 : Row W6 w4.heap.size 100 4 (fun k => if k = 3 then .int .i64 f3 else if k = 2 then .int .i64 f2 else if k = 1 then .int .i64 f1 else if k = 0 then .int .i64 f0 else .int .i64 0) := hW6 ▸ hr3.set rfl fun j hj hne => by simp [hne]
        have y6 : W6.cell? ⟨w4.heap.size, 1, none⟩ = some (.int .i64 f1) := hr4.cell (k := 1) (by omega)
        have H6 := hid (GR.own HW1.out H5.out HS4.out (hW6 ▸ HCh.out : w5.grownBy W6 (some w4.heap.size)))
        have HK6 := hid (hW6 ▸ HK1.out : W6.cell? ⟨w3.heap.size, 0, none⟩ = some (.int .i64 mk))
        rw [hW6]
        clear hW6 hr1 hr2 hr3 hr4 k0 k1 y0 y1 y2 y3 r0 r1 r2 r3 kc0 kc1 c0 p0 a0 a1 neX neP hWA
        have hsp : f1 = 2 ∨ f1 = 3 ∨ (f1 ≠ 2 ∧ f1 ≠ 3) := by omega
        rcases hsp with h2 | h3 | ⟨n2, n3⟩
        · obtain rfl : P = ((13 : Int), s.due l n) := by rw [← HP.out, if_pos (.inl h2)]
          subst h2
          go_wp2
          go_ret
          exact ⟨rfl, GR.first H0.out HG1.out H6.out⟩
        · obtain rfl : P = ((13 : Int), s.due l n) := by rw [← HP.out, if_pos (.inr h3)]
          subst h3
          go_wp2
          go_ret
          exact ⟨rfl, GR.first H0.out HG1.out H6.out⟩
        · obtain rfl : P = (R.1, (s.due l n).setM R.2) := by rw [← HP.out, if_neg (fun h => h.elim n2 n3)]
          have b2 : (f1 == 2) = false := by simpa using n2
          have b3 : (f1 == 3) = false := by simpa using n3
          go_upto_region 14 with fail
          have c6 : W6.drew.cell? ⟨X, 0, none⟩ = some (.pointer (some ⟨B, 0, none⟩)) := H6.out.a.a.c0
          have p6 : W6.drew.cell? ⟨w3.heap.size, 0, none⟩ = some (.int .i64 mk) := HK6.out
          clear y6
          go_region_held3 (fun w' => w'.cell? ⟨X, 0, none⟩ = some (.pointer (some ⟨B, 0, none⟩)) ∧ w'.cell? ⟨w3.heap.size, 0, none⟩ = some (.int .i64 mk)) (first | exact ⟨by assumption, by assumption⟩ | go_keep)
            (first
              | (go_at_call 15; (with_reducible refine (HW.out _ (GR.first H0.out HG1.out (H6.out.grown (grownBy_drew W6 none))).c H6.out.a.a.m.drew).mono ?_); rintro e w7 ⟨rfl, h7, g7⟩; have H7 := hid ((H6.out.grown (grownBy_drew W6 none)).mach h7 g7); have k0 := H7.out.a.a.c0; have k1 := g7.cell p6 (fun e => HB3.out (Option.some.inj e).symm); clear h7 g7))
          go_wp2
          go_ret
          exact ⟨rfl, GR.first H0.out HG1.out H7.out⟩
end
end Go.Proofs.Ytibiianmpajabaa

/-
  Package grant: Pull and Push of a place of the caller's own.
-/
set_option linter.unusedSimpArgs false
set_option linter.unusedVariables false
namespace Go.Proofs.Ytibiianmpajabaa
open Go.RowKit KM
set_option maxHeartbeats 8000000
set_option maxRecDepth 100000

theorem as_place (m : Int) (W : World) : (Instr.typeAssert (.iface 231 (.agg #[.int .i64 m])) 203 209 true).run Try.prog W = .ok (.tuple #[.agg #[.int .i64 0, .int .i64 0, .bool false, .bool false, .int .i64 0, .int .i64 0, .int .i64 0, .int .i64 0], .bool false]) W := by kernel_rfl
section
variable {w : World} {X B G : Nat} {pm : Nat → Nat × Nat × Nat} {np : Nat} {s : Gs} {T : Nat} {V Gv : Nat} {S : Nat → Prop} {l : List PokeV} {n : Nat}
theorem gPullP_range (h : GW w X B G pm np s T V Gv S l n) {K : Int} (hok : s.M.ok K) (hmem : ∀ d t i, s.g.mem d = some (t, i) → i < np) (c : Int) (hc : gdom c = true) (d r p off k : Int) (hp : I64 p) (ho : 0 ≤ off) (ho2 : off ≤ 9223372036854775807) (hk : 0 ≤ k) (gf gl : Int) (hgf : gf = 0) (hgl : gl = 256) (m : Int) (hE : s.placeE c p = (m, 0)) (hx : gl - off < k) :
    Calls Try.prog 51 #[.pointer (some ⟨X, 0, none⟩), .pointer (some ⟨V, 0, none⟩), .int .i64 c, .agg #[.bool false, .int .i64 d, .int .i64 r, .int .i64 p, .int .i64 off], .int .i64 k] w fun e w' => e = .returned (.tuple #[.slice none 0 0, .int .i64 63]) ∧ GR w X B G pm np s T V Gv S l n w' := by
  obtain ⟨W1, hW1⟩ : ∃ W, w.alloc (.cells #[.bool false, .int .i64 d, .int .i64 r, .int .i64 p, .int .i64 off] 96) = W := ⟨_, rfl⟩
  have hg1 : w.grownBy W1 none := hW1 ▸ World.grownBy_alloc _ _ none
  have q0 : W1.cell? ⟨w.heap.size, 0, none⟩ = some (.bool false) := by rw [← hW1]; simp [go_sem]
  have q1 : W1.cell? ⟨w.heap.size, 1, none⟩ = some (.int .i64 d) := by rw [← hW1]; simp [go_sem]
  have q2 : W1.cell? ⟨w.heap.size, 2, none⟩ = some (.int .i64 r) := by rw [← hW1]; simp [go_sem]
  have q3 : W1.cell? ⟨w.heap.size, 3, none⟩ = some (.int .i64 p) := by rw [← hW1]; simp [go_sem]
  have q4 : W1.cell? ⟨w.heap.size, 4, none⟩ = some (.int .i64 off) := by rw [← hW1]; simp [go_sem]
  have HF := hid (gFindP (h.grown hg1) hmem c hc d r p off k hp ho (by omega) m 0 hE)
  rw [placeRet_yes] at HF
  have HPt : Hid (∀ w' : World, Calls Try.prog 163 #[.agg #[.int .i64 m]] w' fun e w'' => e = .returned (.agg #[.int .i64 m, .int .i64 gf, .int .i64 gl]) ∧ w'.grownBy w'' none) := hid (fun w' => by subst hgf hgl; exact gPartPl m w')
  have HWi := hid (fun w' => gWithin m gf gl off k w' (by omega) (by omega) (by omega) (by omega) ho2)
  rw [EndV.at_no (.inr (.inr hx))] at HWi
  have H0 := hid h
  have HG1 := hid hg1
  have HGW := hid (h.grown hg1)
  have HQ := hid q4
  clear h hok hmem hg1 hc hE hx ho2 hgf hgl hp
  go_enter Try.func51, Try.ntmps51
  go_wp2_with (first
    | (go_at_call 117; (with_reducible refine HF.out.mono ?_); rintro e w2 ⟨rfl, g2⟩; have H2 := hid (⟨HGW.out.grown g2, Chg.of0 g2⟩ : GR W1 X B G pm np s T V Gv S l n w2); have Z2 := hid (g2.cell HQ.out (by simp)); clear g2)
    | (go_at_call 163; (with_reducible refine (HPt.out _).mono ?_); rintro e w3 ⟨rfl, g3⟩; have H3 := hid (H2.out.grown g3); have z3 := fun ob => (World.grownBy_alloc w3 ob none).cell (g3.cell Z2.out (by simp)) (by simp); clear g3)
    | (go_at_call 114; (with_reducible refine (HWi.out _).mono ?_); rintro e w4 ⟨rfl, g4⟩; have H4 := hid ((H3.out.grown (World.grownBy_alloc w3 _ none)).grown g4); clear g4))
  go_ret2
  exact ⟨rfl, GR.first H0.out HG1.out H4.out⟩
theorem gPullP_yes (h : GW w X B G pm np s T V Gv S l n) {K : Int} (hok : s.M.ok K) (hmem : ∀ d t i, s.g.mem d = some (t, i) → i < np) (c : Int) (hc : gdom c = true) (d r p off k : Int) (hp : I64 p) (ho : 0 ≤ off) (ho2 : off ≤ 9223372036854775807) (hk : 0 ≤ k) (gf gl : Int) (hgf : gf = 0) (hgl : gl = 256) (m : Int) (hE : s.placeE c p = (m, 0)) (hl : ∀ p ∈ l, p.fits) (hll : l.length ≤ 64) (hn : (n : Int) < 9223372036854775807) (hmi : s.M.is m = true) (hx : k ≤ gl - off) :
    Calls Try.prog 51 #[.pointer (some ⟨X, 0, none⟩), .pointer (some ⟨V, 0, none⟩), .int .i64 c, .agg #[.bool false, .int .i64 d, .int .i64 r, .int .i64 p, .int .i64 off], .int .i64 k] w fun e w' => NewB w (((s.due l n).M.read m (gf + off) k).1) e w' ∧ GR w X B G pm np (s.due l n) T V Gv S l (n + 1) w' := by
  obtain ⟨W1, hW1⟩ : ∃ W, w.alloc (.cells #[.bool false, .int .i64 d, .int .i64 r, .int .i64 p, .int .i64 off] 96) = W := ⟨_, rfl⟩
  have hg1 : w.grownBy W1 none := hW1 ▸ World.grownBy_alloc _ _ none
  have q0 : W1.cell? ⟨w.heap.size, 0, none⟩ = some (.bool false) := by rw [← hW1]; simp [go_sem]
  have q1 : W1.cell? ⟨w.heap.size, 1, none⟩ = some (.int .i64 d) := by rw [← hW1]; simp [go_sem]
  have q2 : W1.cell? ⟨w.heap.size, 2, none⟩ = some (.int .i64 r) := by rw [← hW1]; simp [go_sem]
  have q3 : W1.cell? ⟨w.heap.size, 3, none⟩ = some (.int .i64 p) := by rw [← hW1]; simp [go_sem]
  have q4 : W1.cell? ⟨w.heap.size, 4, none⟩ = some (.int .i64 off) := by rw [← hW1]; simp [go_sem]
  have HF := hid (gFindP (h.grown hg1) hmem c hc d r p off k hp ho (by omega) m 0 hE)
  rw [placeRet_yes] at HF
  have HPt : Hid (∀ w' : World, Calls Try.prog 163 #[.agg #[.int .i64 m]] w' fun e w'' => e = .returned (.agg #[.int .i64 m, .int .i64 gf, .int .i64 gl]) ∧ w'.grownBy w'' none) := hid (fun w' => by subst hgf hgl; exact gPartPl m w')
  have HWi := hid (fun w' => gWithin m gf gl off k w' (by omega) (by omega) (by omega) (by omega) ho2)
  rw [EndV.at_yes ho hk hx] at HWi
  obtain ⟨bs, hbs⟩ : ∃ bs, ((s.due l n).M.read m (gf + off) k).1 = bs := ⟨_, rfl⟩
  have HR := hid (fun w2 {w1 : World} (h2 : GR w1 X B G pm np s T V Gv S l n w2) => (show Calls Try.prog 80 #[.pointer (some ⟨V, 0, none⟩), .int .i64 m, .int .i64 (gf + off), .int .i64 k] w2 fun e w' => ∃ v, e = .returned (.tuple #[v, .int .i64 0]) ∧ FreshB w2 bs v w' ∧ VRead w2 V Gv B S l n l.length s.M w' by
    obtain ⟨f, hv⟩ := h2.a.v
    refine (vRead V Gv B S l n l.length f m (gf + off) k w2 s.M K hv h2.a.a.m hok hl (by omega) hll (by omega)).mono fun e w' ⟨v, he, h1, h3⟩ => ⟨v, ?_, ?_, h3⟩
    · rw [he, read_good (by rw [Mach.is_iff, Mach.rews_n]; exact Mach.is_iff.1 hmi) (inP_yes (by omega) (by omega) (by omega))]
    · rw [← hbs]; exact h1))
  rw [hbs]
  have H0 := hid h
  have HG1 := hid hg1
  have HQ := hid q4
  have HGW := hid (h.grown hg1)
  clear h hok hl hll hn hmem hg1 hc hE hx ho2 hgf hgl hp hmi hbs
  go_enter Try.func51, Try.ntmps51
  go_wp2_with (first
    | (go_at_call 117; (with_reducible refine HF.out.mono ?_); rintro e w2 ⟨rfl, g2⟩; have H2 := hid (⟨HGW.out.grown g2, Chg.of0 g2⟩ : GR W1 X B G pm np s T V Gv S l n w2); have Z2 := hid (g2.cell HQ.out (by simp)); clear g2)
    | (go_at_call 163; (with_reducible refine (HPt.out _).mono ?_); rintro e w3 ⟨rfl, g3⟩; have H3 := hid (H2.out.grown g3); have z3 := fun ob => (World.grownBy_alloc w3 ob none).cell (g3.cell Z2.out (by simp)) (by simp); obtain ⟨W3, hW3⟩ : ∃ W, w3.alloc (.cells #[.int .i64 m, .int .i64 gf, .int .i64 gl] 196) = W := ⟨_, rfl⟩; have hm3 : W3.cell? ⟨w3.heap.size, 0, none⟩ = some (.int .i64 m) := (by rw [← hW3]; simp [go_sem]); have hm31 : W3.cell? ⟨w3.heap.size, 1, none⟩ = some (.int .i64 gf) := (by rw [← hW3]; simp [go_sem]); have hm32 : W3.cell? ⟨w3.heap.size, 2, none⟩ = some (.int .i64 gl) := (by rw [← hW3]; simp [go_sem]); have hz3 : W3.cell? ⟨w.heap.size, 4, none⟩ = some (.int .i64 off) := hW3 ▸ z3 _; have HM3 := hid hm3; have H3b := hid (hW3 ▸ H3.out.grown (World.grownBy_alloc w3 _ none) : GR _ X B G pm np s T V Gv S l n W3); clear g3)
    | (go_at_call 114; (with_reducible refine (HWi.out _).mono ?_); rintro e w4 ⟨rfl, g4⟩; have H4 := hid (H3b.out.grown g4); have z4 := g4.cell HM3.out (by simp); clear g4)
    | (go_at_call 80; (with_reducible refine (HR.out _ H4.out).mono ?_); rintro e w5 ⟨v, rfl, ⟨q, cp, rfl, hq⟩, hr⟩; have H5 := hid (⟨H4.out.a.read hr, H4.out.c.trans (GW.readChg (X := X) (B := B) (G := G) (pm := pm) (np := np) hr) fun _ e => .inl e⟩ : GR _ X B G pm np (s.due l n) T V Gv S l (n + 1) w5); have HB := hid (KeptBytes.wide hq (S' := fun k => w.heap.size ≤ k) fun k hk => Nat.le_trans (Nat.le_trans HG1.out.size H4.out.c.size) hk.1); clear hr hq))
  go_ret2
  exact ⟨⟨_, _, rfl, HB.out⟩, GR.first H0.out HG1.out H5.out⟩
theorem gPushP_any (h : GW w X B G pm np s T V Gv S l n) {K : Int} (hok : s.M.ok K) (hmem : ∀ d t i, s.g.mem d = some (t, i) → i < np) (c : Int) (hc : gdom c = true) (d r p off : Int) (hp : I64 p) (ho : 0 ≤ off) (ho2 : off ≤ 9223372036854775807) (gf gl : Int) (hgf : gf = 0) (hgl : gl = 256) (m : Int) (hE : s.placeE c p = (m, 0)) (hmi : s.M.is m = true) (pa : Option Addr) (cap : Nat) (b : List UInt8) (hbl : b.length ≤ 9223372036854775807) (hb : ∀ w', Chg (avfoot X B G pm np V Gv) w w' → IsBytes w' B (.slice pa b.length cap) b) :
    Calls Try.prog 53 #[.pointer (some ⟨X, 0, none⟩), .pointer (some ⟨V, 0, none⟩), .int .i64 c, .agg #[.bool false, .int .i64 d, .int .i64 r, .int .i64 p, .int .i64 off], .slice pa b.length cap] w fun e w' => e = .returned (.int .i64 (s.pushE m ⟨0, false, false, 0, 0, gf, gl⟩ off b).1) ∧ GR w X B G pm np (s.pushE m ⟨0, false, false, 0, 0, gf, gl⟩ off b).2 T V Gv S l n w' := by
  obtain ⟨W1, hW1⟩ : ∃ W, w.alloc (.cells #[.bool false, .int .i64 d, .int .i64 r, .int .i64 p, .int .i64 off] 96) = W := ⟨_, rfl⟩
  have hg1 : w.grownBy W1 none := hW1 ▸ World.grownBy_alloc _ _ none
  have q0 : W1.cell? ⟨w.heap.size, 0, none⟩ = some (.bool false) := by rw [← hW1]; simp [go_sem]
  have q1 : W1.cell? ⟨w.heap.size, 1, none⟩ = some (.int .i64 d) := by rw [← hW1]; simp [go_sem]
  have q2 : W1.cell? ⟨w.heap.size, 2, none⟩ = some (.int .i64 r) := by rw [← hW1]; simp [go_sem]
  have q3 : W1.cell? ⟨w.heap.size, 3, none⟩ = some (.int .i64 p) := by rw [← hW1]; simp [go_sem]
  have q4 : W1.cell? ⟨w.heap.size, 4, none⟩ = some (.int .i64 off) := by rw [← hW1]; simp [go_sem]
  have HF := hid (gFindP (h.grown hg1) hmem c hc d r p off b.length hp ho (by omega) m 0 hE)
  rw [placeRet_yes] at HF
  have HPt : Hid (∀ w' : World, Calls Try.prog 163 #[.agg #[.int .i64 m]] w' fun e w'' => e = .returned (.agg #[.int .i64 m, .int .i64 gf, .int .i64 gl]) ∧ w'.grownBy w'' none) := hid (fun w' => by subst hgf hgl; exact gPartPl m w')
  have HWi := hid (fun w' => gWithin m gf gl off b.length w' (by omega) (by omega) (by omega) (by omega) ho2)
  have H0 := hid h
  have HG1 := hid hg1
  have HGW := hid (h.grown hg1)
  have HQ := hid q4
  have has := as_place
  unfold Gs.pushE
  simp only
  rw [if_neg (by simp)]
  by_cases hx : gl - off < b.length
  · rw [if_pos hx]
    rw [EndV.at_no (.inr (.inr hx))] at HWi
    clear h hok hmem hp hg1 hc hE hgf hgl hx hb hbl
    go_enter Try.func53, Try.ntmps53
    go_wp2_with (first
      | (go_at_call 117; (with_reducible refine HF.out.mono ?_); rintro e w2 ⟨rfl, g2⟩; have H2 := hid (⟨HGW.out.grown g2, Chg.of0 g2⟩ : GR W1 X B G pm np s T V Gv S l n w2); have Z2 := hid (g2.cell HQ.out (by simp)); clear g2)
      | (go_at_call 163; (with_reducible refine (HPt.out _).mono ?_); rintro e w3 ⟨rfl, g3⟩; have g3' := (World.grownBy_alloc w2 (.cells #[.int .i64 0, .int .i64 0, .bool false, .bool false, .int .i64 0, .int .i64 0, .int .i64 0, .int .i64 0] 209) none).trans g3; have H3 := hid (H2.out.grown g3'); have z3 := fun ob => (World.grownBy_alloc w3 ob none).cell (g3'.cell Z2.out (by simp)) (by simp); clear g3 g3')
      | (go_at_call 114; (with_reducible refine (HWi.out _).mono ?_); rintro e w4 ⟨rfl, g4⟩; have H4 := hid ((H3.out.grown (World.grownBy_alloc w3 _ none)).grown g4); clear g4))
    go_ret
    exact ⟨rfl, GR.first H0.out HG1.out H4.out⟩
  · rw [if_neg hx]
    rw [EndV.at_yes ho (by omega) (by omega)] at HWi
    obtain ⟨hm0, hm1⟩ := Mach.is_iff.1 hmi
    obtain ⟨mk, rfl⟩ : ∃ mk : Nat, m = mk := ⟨m.toNat, by omega⟩
    rw [Int.toNat_natCast]
    have HFr := hid (fun w2 (hp : PM w2 B s.M) => Frame_yes B mk w2 s.M K hp hok hm1)
    simp only [Fr.head] at HFr
    obtain ⟨R, hRw⟩ : ∃ R, s.M.write mk (gf + off) b = R := ⟨_, rfl⟩
    have HW := hid (fun w2 (hch : Chg (avfoot X B G pm np V Gv) w w2) (hp : PM w2 B s.M) => Write_any B mk (gf + off) (.slice pa b.length cap) b w2 s.M K hp hok (by omega) (hb w2 hch) hbl)
    rw [hRw] at HW ⊢
    generalize (s.M.fr mk).owner = f0 at *
    generalize (s.M.fr mk).ty = f1 at *
    generalize (s.M.fr mk).cnt = f2 at *
    generalize (s.M.fr mk).tot = f3 at *
    obtain ⟨P, hP⟩ : ∃ P : Int × Gs, (if f1 = 2 ∨ f1 = 3 then ((13 : Int), s) else (R.1, s.setM R.2)) = P := ⟨_, rfl⟩
    rw [hP]
    have HP := hid hP
    have HW1 := hid (h.grown hg1)
    clear h hok hmem hp hg1 hc hE hgf hgl hx hb hbl hm0 hm1 hmi hRw hP
    go_enter Try.func53, Try.ntmps53
    go_wp2_with (first
      | (go_at_call 117; (with_reducible refine HF.out.mono ?_); rintro e w2 ⟨rfl, g2⟩; have H2 := hid (⟨HGW.out.grown g2, Chg.of0 g2⟩ : GR W1 X B G pm np s T V Gv S l n w2); have Z2 := hid (g2.cell HQ.out (by simp)); clear g2)
      | (go_at_call 163; (with_reducible refine (HPt.out _).mono ?_); rintro e w3 ⟨rfl, g3⟩; have g3' := (World.grownBy_alloc w2 (.cells #[.int .i64 0, .int .i64 0, .bool false, .bool false, .int .i64 0, .int .i64 0, .int .i64 0, .int .i64 0] 209) none).trans g3; have H3 := hid (H2.out.grown (g3'.trans (World.grownBy_alloc w3 (.cells #[.int .i64 mk, .int .i64 gf, .int .i64 gl] 196) none))); have z3 := fun ob => (World.grownBy_alloc w3 ob none).cell (g3'.cell Z2.out (by simp)) (by simp); obtain ⟨W3, hW3⟩ : ∃ W, w3.alloc (.cells #[.int .i64 mk, .int .i64 gf, .int .i64 gl] 196) = W := ⟨_, rfl⟩; have p3 := part3 (w := w3) (W := W3) (m := mk) (gf := gf) (gl := gl) (by rw [hW3]; exact World.grownBy.refl _ _); obtain ⟨p30, p31, p32⟩ := p3; have z3' : W3.cell? ⟨w.heap.size, 4, none⟩ = some (.int .i64 off) := hW3 ▸ z3 _; have P30 := hid p30; rw [hW3] at H3; have HB3 := hid (show B ≠ w3.heap.size from fun e => by have h1 := H2.out.a.a.m.lt; have h2 := g3'.size; omega); clear g3 g3' z3)
      | (go_at_call 114; (with_reducible refine (HWi.out _).mono ?_); rintro e w4 ⟨rfl, g4⟩; have H4 := hid (H3.out.grown g4); have P4 := hid (g4.cell P30.out (by simp)); clear g4 p30 p31 p32 z3'))
    have c0 : w4.drew.cell? ⟨X, 0, none⟩ = some (.pointer (some ⟨B, 0, none⟩)) := H4.out.a.a.c0
    have p0 : w4.drew.cell? ⟨w3.heap.size, 0, none⟩ = some (.int .i64 mk) := P4.out
    clear hW3
    obtain ⟨WA, hWA⟩ : ∃ W, w4.alloc (.cells #[.int .i64 0, .int .i64 0, .int .i64 0, .int .i64 0] 100) = W := ⟨_, rfl⟩
    have gA : w4.grownBy WA none := hWA ▸ World.grownBy_alloc _ _ none
    have HRA := hid (hWA ▸ frRow0 w4 : Row WA w4.heap.size 100 4 (fun _ => .int .i64 0))
    have HA4 := hid (H4.out.grown gA)
    have a0 : WA.drew.cell? ⟨X, 0, none⟩ = some (.pointer (some ⟨B, 0, none⟩)) := HA4.out.a.a.c0
    have a1 : WA.drew.cell? ⟨w3.heap.size, 0, none⟩ = some (.int .i64 mk) := gA.cell P4.out (by simp)
    have neX : w4.heap.size ≠ X := World.new_ne w4 ⟨X, 0, none⟩ c0
    have neP : w4.heap.size ≠ w3.heap.size := World.new_ne w4 ⟨w3.heap.size, 0, none⟩ p0
    have HS4 := hid H4.out.c.size
    clear gA
    go_region_held3 (fun w' => w'.cell? ⟨X, 0, none⟩ = some (.pointer (some ⟨B, 0, none⟩)) ∧ w'.cell? ⟨w3.heap.size, 0, none⟩ = some (.int .i64 mk)) (first | exact ⟨by assumption, by assumption⟩ | go_keep)
      (first
        | (go_at_call 47; (with_reducible refine (HFr.out WA.drew HA4.out.a.a.m.drew).mono ?_); rintro e w5 ⟨rfl, g5⟩; have g5' := (grownBy_drew WA none).trans g5; have H5 := hid (HA4.out.grown g5'); have HRr := hid (Row.grown HRA.out g5' (by simp)); have k0 := H5.out.a.a.c0; have k1 := g5.cell a1 (by simp); have y0 := HRr.out.cell (k := 0) (by omega); have y1 := HRr.out.cell (k := 1) (by omega); have y2 := HRr.out.cell (k := 2) (by omega); have y3 := HRr.out.cell (k := 3) (by omega); have r0 := HRr.out.frozen 0; have r1 := HRr.out.frozen 1; have r2 := HRr.out.frozen 2; have r3 := HRr.out.frozen 3; have gch := (((grownBy_setCell w5 w4.heap.size 0 none (.int .i64 f0)).trans (grownBy_setCell _ w4.heap.size 1 none (.int .i64 f1))).trans (grownBy_setCell _ w4.heap.size 2 none (.int .i64 f2))).trans (grownBy_setCell _ w4.heap.size 3 none (.int .i64 f3)); have kc0 := gch.cell k0 (fun e => neX (Option.some.inj e).symm); have kc1 := gch.cell k1 (fun e => neP (Option.some.inj e).symm); have HCh := hid gch; have HK1 := hid kc1; clear gch g5 g5')
        | (go_at_call 47; (with_reducible refine (HFr.out w4.drew H4.out.a.a.m.drew).mono ?_); rintro e w5 ⟨rfl, g5⟩; have H5 := hid (H4.out.grown ((grownBy_drew w4 none).trans g5)); have k0 := H5.out.a.a.c0; have k1 := g5.cell p0 (by simp); have ne5 : w5.heap.size ≠ X := World.new_ne w5 ⟨X, 0, none⟩ k0; have ne6 : w5.heap.size ≠ w3.heap.size := World.new_ne w5 ⟨w3.heap.size, 0, none⟩ k1; have vz0 := (World.grownBy_alloc w5 (.cells #[.int .i64 0, .int .i64 0, .int .i64 0, .int .i64 0] 100) none).cell k0 (by simp); have vz1 := (World.grownBy_alloc w5 (.cells #[.int .i64 0, .int .i64 0, .int .i64 0, .int .i64 0] 100) none).cell k1 (by simp); have vf0 := (World.grownBy_alloc w5 (.cells #[.int .i64 f0, .int .i64 f1, .int .i64 f2, .int .i64 f3] 100) none).cell k0 (by simp); have vf1 := (World.grownBy_alloc w5 (.cells #[.int .i64 f0, .int .i64 f1, .int .i64 f2, .int .i64 f3] 100) none).cell k1 (by simp); have HK1 := hid vf1; clear g5))
    · obtain ⟨W6, hW6⟩ : ∃ W, w5.alloc (.cells #[.int .i64 f0, .int .i64 f1, .int .i64 f2, .int .i64 f3] 100) = W := ⟨_, rfl⟩
      have y6 : W6.cell? ⟨w5.heap.size, 1, none⟩ = some (.int .i64 f1) := by rw [← hW6]; simp [go_sem]
      have H6 := hid (H5.out.grown (hW6 ▸ World.grownBy_alloc _ _ none : w5.grownBy W6 none))
      have HK6 := hid (hW6 ▸ HK1.out : W6.cell? ⟨w3.heap.size, 0, none⟩ = some (.int .i64 mk))
      rw [hW6]
      clear hW6 vz0 vz1 vf0 vf1 ne5 ne6 k0 k1 c0 p0 a0 a1 neX neP hWA
      have hsp : f1 = 2 ∨ f1 = 3 ∨ (f1 ≠ 2 ∧ f1 ≠ 3) := by omega
      rcases hsp with h2 | h3 | ⟨n2, n3⟩
      · obtain rfl : P = ((13 : Int), s) := by rw [← HP.out, if_pos (.inl h2)]
        subst h2
        go_wp2
        go_ret
        exact ⟨rfl, GR.first H0.out HG1.out H6.out⟩
      · obtain rfl : P = ((13 : Int), s) := by rw [← HP.out, if_pos (.inr h3)]
        subst h3
        go_wp2
        go_ret
        exact ⟨rfl, GR.first H0.out HG1.out H6.out⟩
      · obtain rfl : P = (R.1, s.setM R.2) := by rw [← HP.out, if_neg (fun h => h.elim n2 n3)]
        have b2 : (f1 == 2) = false := by simpa using n2
        have b3 : (f1 == 3) = false := by simpa using n3
        go_upto_region 14 with fail
        have c6 : W6.drew.cell? ⟨X, 0, none⟩ = some (.pointer (some ⟨B, 0, none⟩)) := H6.out.a.a.c0
        have p6 : W6.drew.cell? ⟨w3.heap.size, 0, none⟩ = some (.int .i64 mk) := HK6.out
        clear y6
        go_region_held3 (fun w' => w'.cell? ⟨X, 0, none⟩ = some (.pointer (some ⟨B, 0, none⟩)) ∧ w'.cell? ⟨w3.heap.size, 0, none⟩ = some (.int .i64 mk)) (first | exact ⟨by assumption, by assumption⟩ | go_keep)
          (first
            | (go_at_call 15; (with_reducible refine (HW.out _ (GR.first H0.out HG1.out (H6.out.grown (grownBy_drew W6 none))).c H6.out.a.a.m.drew).mono ?_); rintro e w7 ⟨rfl, h7, g7⟩; have H7 := hid ((H6.out.grown (grownBy_drew W6 none)).mach h7 g7); have k0 := H7.out.a.a.c0; have k1 := g7.cell p6 (fun e => HB3.out (Option.some.inj e).symm); clear h7 g7))
        go_wp2
        go_ret
        exact ⟨rfl, GR.first H0.out HG1.out H7.out⟩
    · obtain ⟨W6, hW6⟩ : ∃ W, (((w5.setCell ⟨w4.heap.size, 0, none⟩ (.int .i64 f0)).setCell ⟨w4.heap.size, 1, none⟩ (.int .i64 f1)).setCell ⟨w4.heap.size, 2, none⟩ (.int .i64 f2)).setCell ⟨w4.heap.size, 3, none⟩ (.int .i64 f3) = W := ⟨_, rfl⟩
      have hr1 : Row (w5.setCell ⟨w4.heap.size, 0, none⟩ (.int .i64 f0)) w4.heap.size 100 4 (fun k => if k = 0 then .int .i64 f0 else .int .i64 0) := HRr.out.set rfl fun j hj hne => by simp [hne]
      have hr2 : Row ((w5.setCell ⟨w4.heap.size, 0, none⟩ (.int .i64 f0)).setCell ⟨w4.heap.size, 1, none⟩ (.int .i64 f1)) w4.heap.size 100 4 (fun k => if k = 1 then .int .i64 f1 else if k = 0 then .int .i64 f0 else .int .i64 0) := hr1.set rfl fun j hj hne => by simp [hne]
      have hr3 : Row (((w5.setCell ⟨w4.heap.size, 0, none⟩ (.int .i64 f0)).setCell ⟨w4.heap.size, 1, none⟩ (.int .i64 f1)).setCell ⟨w4.heap.size, 2, none⟩ (.int .i64 f2)) w4.heap.size 100 4 (fun k => if k = 2 then .int .i64 f2 else if k = 1 then .int .i64 f1 else if k = 0 then .int .i64 f0 else .int .i64 0) := hr2.set rfl fun j hj hne => by simp [hne]
      have hr4 : Row W6 w4.heap.size 100 4 (fun k => if k = 3 then .int .i64 f3 else if k = 2 then .int .i64 f2 else if k = 1 then .int .i64 f1 else if k = 0 then .int .i64 f0 else .int .i64 0) := hW6 ▸ hr3.set rfl fun j hj hne => by simp [hne]
      have y6 : W6.cell? ⟨w4.heap.size, 1, none⟩ = some (.int .i64 f1) := hr4.cell (k := 1) (by omega)
      have H6 := hid (GR.own HW1.out H5.out HS4.out (hW6 ▸ HCh.out : w5.grownBy W6 (some w4.heap.size)))
      have HK6 := hid (hW6 ▸ HK1.out : W6.cell? ⟨w3.heap.size, 0, none⟩ = some (.int .i64 mk))
      rw [hW6]
      clear hW6 hr1 hr2 hr3 hr4 k0 k1 y0 y1 y2 y3 r0 r1 r2 r3 kc0 kc1 c0 p0 a0 a1 neX neP hWA
      have hsp : f1 = 2 ∨ f1 = 3 ∨ (f1 ≠ 2 ∧ f1 ≠ 3) := by omega
      rcases hsp with h2 | h3 | ⟨n2, n3⟩
      · obtain rfl : P = ((13 : Int), s) := by rw [← HP.out, if_pos (.inl h2)]
        subst h2
        go_wp2
        go_ret
        exact ⟨rfl, GR.first H0.out HG1.out H6.out⟩
      · obtain rfl : P = ((13 : Int), s) := by rw [← HP.out, if_pos (.inr h3)]
        subst h3
        go_wp2
        go_ret
        exact ⟨rfl, GR.first H0.out HG1.out H6.out⟩
      · obtain rfl : P = (R.1, s.setM R.2) := by rw [← HP.out, if_neg (fun h => h.elim n2 n3)]
        have b2 : (f1 == 2) = false := by simpa using n2
        have b3 : (f1 == 3) = false := by simpa using n3
        go_upto_region 14 with fail
        have c6 : W6.drew.cell? ⟨X, 0, none⟩ = some (.pointer (some ⟨B, 0, none⟩)) := H6.out.a.a.c0
        have p6 : W6.drew.cell? ⟨w3.heap.size, 0, none⟩ = some (.int .i64 mk) := HK6.out
        clear y6
        go_region_held3 (fun w' => w'.cell? ⟨X, 0, none⟩ = some (.pointer (some ⟨B, 0, none⟩)) ∧ w'.cell? ⟨w3.heap.size, 0, none⟩ = some (.int .i64 mk)) (first | exact ⟨by assumption, by assumption⟩ | go_keep)
          (first
            | (go_at_call 15; (with_reducible refine (HW.out _ (GR.first H0.out HG1.out (H6.out.grown (grownBy_drew W6 none))).c H6.out.a.a.m.drew).mono ?_); rintro e w7 ⟨rfl, h7, g7⟩; have H7 := hid ((H6.out.grown (grownBy_drew W6 none)).mach h7 g7); have k0 := H7.out.a.a.c0; have k1 := g7.cell p6 (fun e => HB3.out (Option.some.inj e).symm); clear h7 g7))
        go_wp2
        go_ret
        exact ⟨rfl, GR.first H0.out HG1.out H7.out⟩
end
end Go.Proofs.Ytibiianmpajabaa
