/-
  Package grant: find and Pull of an end that a grant names.
-/
import Derived.Test.YtaocnknofklmoaaJ5
import Derived.Handy
import Derived.Test.YtaocnknofklmoaaJ4
import Derived.Maps.OwnOps
import Derived.Maps.OwnSet
import Derived.Test.YtaocnknofklmoaaJ2
import Derived.Test.YtaocnknofklmoaaJ1
import Derived.Maps.AppendAt
import Derived.Below
import Derived.Test.YtaocnknofklmoaaOpen
set_option linter.unusedSimpArgs false
set_option linter.unusedVariables false
namespace Go.Proofs.Ytaocnknofklmoaa
open Go.RowKit KM
set_option maxHeartbeats 1000000
set_option maxRecDepth 100000

def Gs.endG (s1 : Gs) (b : List UInt8) (c d : Int) : Option (Int × GV) :=
  match entV b 1 c with
  | none => none
  | some g => match s1.granted d g.gpfn with
    | none => none
    | some m => some (m, g)
def endRet : Option (Int × GV) → Value
  | none => .tuple #[.nilIface, .int .i64 60]
  | some (m, g) => .tuple #[.iface 215 (.agg #[.int .i64 m, .int .i64 g.k, .bool g.ro, .bool g.sub, .int .i64 g.dom, .int .i64 g.gpfn, .int .i64 g.off, .int .i64 g.len]), .int .i64 0]
theorem gPartG (m k : Int) (ro sub : Bool) (dm p off ln : Int) (w : World) : Calls Try.prog 165 #[.agg #[.int .i64 m, .int .i64 k, .bool ro, .bool sub, .int .i64 dm, .int .i64 p, .int .i64 off, .int .i64 ln]] w fun e w' =>
    e = .returned (.agg #[.int .i64 m, .int .i64 off, .int .i64 ln]) ∧ w.grownBy w' none := by
  go_enter Try.func165, Try.ntmps165
  go_wp2
  first
    | (go_ret; exact ⟨rfl, (World.grownBy_alloc _ _ none).trans (World.grownBy_alloc _ _ none)⟩)
    | (go_returns; exact ⟨rfl, (World.grownBy_alloc _ _ none).trans (World.grownBy_alloc _ _ none)⟩)
/-- the cells of an entry that was laid into memory -/
theorem grow7 {w W : World} {v0 v1 v2 v3 v4 v5 v6 : Value} (hg : (w.alloc (.cells #[v0, v1, v2, v3, v4, v5, v6] 73)).grownBy W none) :
    W.cell? ⟨w.heap.size, 0, none⟩ = some v0 ∧ W.cell? ⟨w.heap.size, 1, none⟩ = some v1 ∧ W.cell? ⟨w.heap.size, 2, none⟩ = some v2 ∧ W.cell? ⟨w.heap.size, 3, none⟩ = some v3 ∧ W.cell? ⟨w.heap.size, 4, none⟩ = some v4 ∧ W.cell? ⟨w.heap.size, 5, none⟩ = some v5 ∧ W.cell? ⟨w.heap.size, 6, none⟩ = some v6 := by
  have hr := (rowB w v0 v1 v2 v3 v4 v5 v6).grown hg (by simp)
  exact ⟨hr.cell (k := 0) (by omega), hr.cell (k := 1) (by omega), hr.cell (k := 2) (by omega), hr.cell (k := 3) (by omega), hr.cell (k := 4) (by omega), hr.cell (k := 5) (by omega), hr.cell (k := 6) (by omega)⟩
section
variable {w : World} {X B G : Nat} {pm : Nat → Nat × Nat × Nat} {np : Nat} {s : Gs} {T : Nat} {V Gv : Nat} {S : Nat → Prop} {l : List PokeV} {n : Nat}
/-- a fresh block's cell behind a call -/
theorem GR.fresh {s' : Gs} {T' n' : Nat} {w1 w2 : World} (h0 : GW w X B G pm np s T V Gv S l n) (h : GR w1 X B G pm np s' T' V Gv S l n' w2) {b k : Nat} {v : Value} (hb : w.heap.size ≤ b) (hc : w1.cell? ⟨b, k, none⟩ = some v) : w2.cell? ⟨b, k, none⟩ = some v :=
  h.c.gen.cell hc (h0.fresh hb).2.2
theorem gFindGr (h : GW w X B G pm np s T V Gv S l n) {K : Int} (hok : s.M.ok K) (hl : ∀ p ∈ l, p.fits) (hll : l.length ≤ 64) (hn : (n : Int) < 9223372036854775807) (c : Int) (d r : Nat) (hd : d < 8) (hr : r < 32) (t : Int) (i : Nat) (hm : s.g.mem d = some (t, i)) (ht0 : 0 ≤ t) (ht1 : t < s.M.n) (hi : i < np) (R : Option (Int × GV)) (hR : (s.due l n).endG ((s.due l n).entB d r) c d = R) :
    Calls Try.prog 144 #[.pointer (some ⟨X, 0, none⟩), .pointer (some ⟨V, 0, none⟩), .int .i64 c, .agg #[.int .i64 d, .int .i64 r]] w fun e w' => e = .returned (endRet R) ∧ GR w X B G pm np (s.due l n) T V Gv S l (n + 1) w' := by
  obtain ⟨W1, hW1⟩ : ∃ W, w.alloc (.cells #[.int .i64 d, .int .i64 r] 194) = W := ⟨_, rfl⟩
  have hg1 : w.grownBy W1 none := hW1 ▸ World.grownBy_alloc _ _ none
  have q0 : W1.cell? ⟨w.heap.size, 0, none⟩ = some (.int .i64 d) := by rw [← hW1]; simp [go_sem]
  have q1 : W1.cell? ⟨w.heap.size, 1, none⟩ = some (.int .i64 r) := by rw [← hW1]; simp [go_sem]
  have hs : s.g.slot d r = true := Gst.slot_yes.2 ⟨⟨⟨by omega, by omega⟩, by rw [Int.toNat_natCast]; exact ⟨_, hm⟩⟩, by omega, by omega⟩
  have HS := hid (gSlot (h.grown hg1).a d r)
  rw [hs] at HS
  obtain ⟨E, hE⟩ : ∃ E, entV ((s.due l n).entB d r) 1 c = E := ⟨_, rfl⟩
  have HE := hid (gEntry (h.grown hg1) hok hl hll hn d hd t i hm ht0 ht1 r hr 1 c E hE)
  have H0 := hid h
  have HG1 := hid hg1
  have hok' : (s.due l n).M.ok K := Mach.rews_ok _ hok
  have HQ0 := hid q0
  unfold Gs.endG at hR
  rw [hE] at hR
  cases E with
  | none =>
    simp only [entRet] at HE
    simp only at hR
    subst hR
    simp only [endRet]
    clear h hok hok' hl hll hn hs hm ht0 ht1 hE hg1
    go_enter Try.func144, Try.ntmps144
    go_wp2_with (first
      | (go_at_call 114; (with_reducible refine HS.out.mono ?_); rintro e w' ⟨rfl, rfl⟩)
      | (go_at_call 116; (with_reducible refine HE.out.mono ?_); rintro e w2 ⟨rfl, h2⟩; have H2 := hid h2; clear h2))
    go_ret2
    exact ⟨rfl, GR.first H0.out HG1.out (H2.out.grown (World.grownBy_alloc w2 _ none))⟩
  | some g =>
    obtain ⟨k, ro, sub, dm, p, off, ln⟩ := g
    obtain ⟨hp0, hp1, -⟩ := entV_ok hE
    have hp : I64 p := I64.of (by simp only at hp0; omega) (by simp only at hp1; omega)
    simp only [entRet] at HE
    simp only at hR
    have HGr := hid (fun w2 {w1 : World} (h2 : GR w1 X B G pm np (s.due l n) T V Gv S l (n + 1) w2) => gGranted h2.a.a hok' d hd t i hm hi k ro sub dm p off ln hp)
    obtain ⟨D, hD⟩ : ∃ D, (s.due l n).granted d p = D := ⟨_, rfl⟩
    rw [hD] at hR
    cases D with
    | none =>
      have hgE : (s.due l n).grE d p = (0, 60) := by unfold Gs.grE; rw [hD]
      rw [hgE] at HGr
      simp only at hR
      subst hR
      simp only [endRet]
      clear h hok hok' hl hll hn hs hm ht0 ht1 hE hg1 hp hp0 hp1 hD hgE
      go_enter Try.func144, Try.ntmps144
      go_wp2_with (first
        | (go_at_call 114; (with_reducible refine HS.out.mono ?_); rintro e w' ⟨rfl, rfl⟩)
        | (go_at_call 116; (with_reducible refine HE.out.mono ?_); rintro e w2 ⟨rfl, h2⟩; have H2 := hid h2; have z0 := fun ob => (World.grownBy_alloc w2 ob none).cell (GR.fresh H0.out h2 (Nat.le_refl _) HQ0.out) (by simp); clear h2)
        | (go_at_call 117; (with_reducible refine (HGr.out _ (H2.out.grown (World.grownBy_alloc w2 _ none))).mono ?_); rintro e w3 ⟨rfl, g3⟩; have H3 := hid ((H2.out.grown (World.grownBy_alloc w2 _ none)).grown g3); clear g3))
      go_ret2
      exact ⟨rfl, GR.first H0.out HG1.out H3.out⟩
    | some m =>
      have hgE : (s.due l n).grE d p = (m, 0) := by unfold Gs.grE; rw [hD]
      rw [hgE] at HGr
      simp only at hR
      subst hR
      simp only [endRet]
      clear h hok hok' hl hll hn hs hm ht0 ht1 hE hg1 hp hp0 hp1 hD hgE
      go_enter Try.func144, Try.ntmps144
      go_wp2_with (first
        | (go_at_call 114; (with_reducible refine HS.out.mono ?_); rintro e w' ⟨rfl, rfl⟩)
        | (go_at_call 116; (with_reducible refine HE.out.mono ?_); rintro e w2 ⟨rfl, h2⟩; have H2 := hid h2; have z0 := fun ob => (World.grownBy_alloc w2 ob none).cell (GR.fresh H0.out h2 (Nat.le_refl _) HQ0.out) (by simp); clear h2)
        | (go_at_call 117; (with_reducible refine (HGr.out _ (H2.out.grown (World.grownBy_alloc w2 _ none))).mono ?_); rintro e w3 ⟨rfl, g3⟩; have H3 := hid ((H2.out.grown (World.grownBy_alloc w2 _ none)).grown g3); obtain ⟨y0, y1, y2, y3, y4, y5, y6⟩ := grow7 g3; clear g3))
      go_ret2
      exact ⟨rfl, GR.first H0.out HG1.out H3.out⟩
end
end Go.Proofs.Ytaocnknofklmoaa

/-
  Package grant: Pull of an end that a grant names, whole.
-/
set_option linter.unusedSimpArgs false
set_option linter.unusedVariables false
namespace Go.Proofs.Ytaocnknofklmoaa
open Go.RowKit KM
set_option maxHeartbeats 1000000
set_option maxRecDepth 100000

section
variable {w : World} {X B G : Nat} {pm : Nat → Nat × Nat × Nat} {np : Nat} {s : Gs} {T : Nat} {V Gv : Nat} {S : Nat → Prop} {l : List PokeV} {n : Nat}
theorem gFindG (h : GW w X B G pm np s T V Gv S l n) {K : Int} (hok : s.M.ok K) (hl : ∀ p ∈ l, p.fits) (hll : l.length ≤ 64) (hn : (n : Int) < 9223372036854775807) (c : Int) (hc : gdom c = true) (d r : Nat) (hd : d < 8) (hr : r < 32) (t : Int) (i : Nat) (hm : s.g.mem d = some (t, i)) (ht0 : 0 ≤ t) (ht1 : t < s.M.n) (hi : i < np) (p off k : Int) (ho : 0 ≤ off) (hk : 0 ≤ k) (R : Option (Int × GV)) (hR : (s.due l n).endG ((s.due l n).entB d r) c d = R) :
    Calls Try.prog 124 #[.pointer (some ⟨X, 0, none⟩), .pointer (some ⟨V, 0, none⟩), .int .i64 c, .agg #[.bool true, .int .i64 d, .int .i64 r, .int .i64 p, .int .i64 off], .int .i64 k] w fun e w' => e = .returned (endRet R) ∧ GR w X B G pm np (s.due l n) T V Gv S l (n + 1) w' := by
  obtain ⟨W1, hW1⟩ : ∃ W, w.alloc (.cells #[.bool true, .int .i64 d, .int .i64 r, .int .i64 p, .int .i64 off] 104) = W := ⟨_, rfl⟩
  have hg1 : w.grownBy W1 none := hW1 ▸ World.grownBy_alloc _ _ none
  have q0 : W1.cell? ⟨w.heap.size, 0, none⟩ = some (.bool true) := by rw [← hW1]; simp [go_sem]
  have q1 : W1.cell? ⟨w.heap.size, 1, none⟩ = some (.int .i64 d) := by rw [← hW1]; simp [go_sem]
  have q2 : W1.cell? ⟨w.heap.size, 2, none⟩ = some (.int .i64 r) := by rw [← hW1]; simp [go_sem]
  have q4 : W1.cell? ⟨w.heap.size, 4, none⟩ = some (.int .i64 off) := by rw [← hW1]; simp [go_sem]
  have c0 := (h.grown hg1).c0
  have hG1 := h.grown hg1
  obtain ⟨f, hv⟩ := hG1.v
  have HV := hid (gIsView_yes V Gv B S l n l.length f W1 hv)
  have HD := hid (gIsDom_yes c W1 hc)
  have HF := hid (gFindGr hG1 hok hl hll hn c d r hd hr t i hm ht0 ht1 hi R hR)
  have H0 := hid h
  have HG1 := hid hg1
  cases R with
  | none =>
    simp only [endRet] at HF ⊢
    clear h hok hl hll hn hm ht0 ht1 hg1 hG1 hv hc hR hd hr hi
    go_enter Try.func124, Try.ntmps124
    go_wp2_with (first
      | (go_at_call 111; (with_reducible refine (gMade_yes X B _ c0).mono ?_); rintro e w' ⟨rfl, rfl⟩)
      | (go_at_call 112; (with_reducible refine HV.out.mono ?_); rintro e w' ⟨rfl, rfl⟩)
      | (go_at_call 113; (with_reducible refine HD.out.mono ?_); rintro e w' ⟨rfl, rfl⟩)
      | (go_at_call 144; (with_reducible refine HF.out.mono ?_); rintro e w2 ⟨rfl, h2⟩; have H2 := hid h2; clear h2))
    go_ret2
    exact ⟨rfl, GR.first H0.out HG1.out H2.out⟩
  | some mg =>
    obtain ⟨m, gk, ro, sub, dm, gp, go, gl⟩ := mg
    simp only [endRet] at HF ⊢
    clear h hok hl hll hn hm ht0 ht1 hg1 hG1 hv hc hR hd hr hi
    go_enter Try.func124, Try.ntmps124
    go_wp2_with (first
      | (go_at_call 111; (with_reducible refine (gMade_yes X B _ c0).mono ?_); rintro e w' ⟨rfl, rfl⟩)
      | (go_at_call 112; (with_reducible refine HV.out.mono ?_); rintro e w' ⟨rfl, rfl⟩)
      | (go_at_call 113; (with_reducible refine HD.out.mono ?_); rintro e w' ⟨rfl, rfl⟩)
      | (go_at_call 144; (with_reducible refine HF.out.mono ?_); rintro e w2 ⟨rfl, h2⟩; have H2 := hid h2; clear h2))
    go_ret2
    exact ⟨rfl, GR.first H0.out HG1.out H2.out⟩
/-- what an end permits: the frame is the owner's, the part lies in its page -/
theorem Gs.endG_ok {s1 : Gs} {b : List UInt8} {c d m : Int} {g : GV} (h : s1.endG b c d = some (m, g)) : entV b 1 c = some g ∧ s1.M.is m = true ∧ 0 ≤ g.off ∧ 1 ≤ g.len ∧ g.off + g.len ≤ 256 := by
  unfold Gs.endG at h
  cases hE : entV b 1 c with
  | none => rw [hE] at h; cases h
  | some g' =>
    rw [hE] at h
    simp only at h
    cases hD : s1.granted d g'.gpfn with
    | none => rw [hD] at h; cases h
    | some m' =>
      rw [hD] at h
      simp only [Option.some.injEq, Prod.mk.injEq] at h
      obtain ⟨rfl, rfl⟩ := h
      refine ⟨rfl, ?_, (entV_ok hE).2.2⟩
      unfold Gs.granted at hD
      split at hD
      · split at hD
        · rename_i hh
          cases hD
          have := hh.2
          unfold Gs.owns at this
          simp only [Bool.and_eq_true] at this
          exact this.1
        · cases hD
      · cases hD
/-- Pull refused: by the entry, or for its range -/
theorem gPullG_no (h : GW w X B G pm np s T V Gv S l n) {K : Int} (hok : s.M.ok K) (hl : ∀ p ∈ l, p.fits) (hll : l.length ≤ 64) (hn : (n : Int) < 9223372036854775807) (c : Int) (hc : gdom c = true) (d r : Nat) (hd : d < 8) (hr : r < 32) (t : Int) (i : Nat) (hm : s.g.mem d = some (t, i)) (ht0 : 0 ≤ t) (ht1 : t < s.M.n) (hi : i < np) (p off k : Int) (ho : 0 ≤ off) (hk : 0 ≤ k) (hR : (s.due l n).endG ((s.due l n).entB d r) c d = none) :
    Calls Try.prog 58 #[.pointer (some ⟨X, 0, none⟩), .pointer (some ⟨V, 0, none⟩), .int .i64 c, .agg #[.bool true, .int .i64 d, .int .i64 r, .int .i64 p, .int .i64 off], .int .i64 k] w fun e w' => e = .returned (.tuple #[.slice none 0 0, .int .i64 60]) ∧ GR w X B G pm np (s.due l n) T V Gv S l (n + 1) w' := by
  have hg1 := World.grownBy_alloc w (.cells #[.bool true, .int .i64 d, .int .i64 r, .int .i64 p, .int .i64 off] 104) none
  have HF := hid (gFindG (h.grown hg1) hok hl hll hn c hc d r hd hr t i hm ht0 ht1 hi p off k ho hk none hR)
  simp only [endRet] at HF
  have H0 := hid h
  have HG1 := hid hg1
  clear h hok hl hll hn hm ht0 ht1 hg1 hc hR hd hr hi
  go_enter Try.func58, Try.ntmps58
  go_wp2_with (go_at_call 124; (with_reducible refine HF.out.mono ?_); rintro e w2 ⟨rfl, h2⟩; have H2 := hid h2; clear h2)
  go_ret2
  exact ⟨rfl, GR.first H0.out HG1.out H2.out⟩
def NewB (w : World) (bs : List UInt8) (e : Ending) (w' : World) : Prop := ∃ q cp, e = .returned (.tuple #[.slice q bs.length cp, .int .i64 0]) ∧ KeptBytes w' (fun k => w.heap.size ≤ k) q bs
theorem KeptBytes.wide {w : World} {S S' : Nat → Prop} {q : Option Addr} {l : List UInt8} (h : KeptBytes w S q l) (hS : ∀ k, S k → S' k) : KeptBytes w S' q l := by
  rcases h with h | ⟨g, e, hg, hb⟩
  · exact .inl h
  · exact .inr ⟨g, e, hS g hg, hb⟩
theorem EndV.at_no {m f z : Int} {ro : Bool} {off k : Int} (h : off < 0 ∨ k < 0 ∨ z - off < k) : (⟨m, f, z, ro⟩ : EndV).at off k = (0, 63) := by unfold EndV.at; rw [if_pos h]
theorem EndV.at_yes {m f z : Int} {ro : Bool} {off k : Int} (h0 : 0 ≤ off) (h1 : 0 ≤ k) (h2 : k ≤ z - off) : (⟨m, f, z, ro⟩ : EndV).at off k = (f + off, 0) := by unfold EndV.at; rw [if_neg (by simp only; omega)]
theorem gPullG_range (h : GW w X B G pm np s T V Gv S l n) {K : Int} (hok : s.M.ok K) (hl : ∀ p ∈ l, p.fits) (hll : l.length ≤ 64) (hn : (n : Int) < 9223372036854775807) (c : Int) (hc : gdom c = true) (d r : Nat) (hd : d < 8) (hr : r < 32) (t : Int) (i : Nat) (hm : s.g.mem d = some (t, i)) (ht0 : 0 ≤ t) (ht1 : t < s.M.n) (hi : i < np) (p off k : Int) (ho : 0 ≤ off) (ho2 : off ≤ 9223372036854775807) (hk : 0 ≤ k) (m : Int) (g : GV) (hR : (s.due l n).endG ((s.due l n).entB d r) c d = some (m, g)) (hx : g.len - off < k) :
    Calls Try.prog 58 #[.pointer (some ⟨X, 0, none⟩), .pointer (some ⟨V, 0, none⟩), .int .i64 c, .agg #[.bool true, .int .i64 d, .int .i64 r, .int .i64 p, .int .i64 off], .int .i64 k] w fun e w' => e = .returned (.tuple #[.slice none 0 0, .int .i64 63]) ∧ GR w X B G pm np (s.due l n) T V Gv S l (n + 1) w' := by
  obtain ⟨W1, hW1⟩ : ∃ W, w.alloc (.cells #[.bool true, .int .i64 d, .int .i64 r, .int .i64 p, .int .i64 off] 104) = W := ⟨_, rfl⟩
  have hg1 : w.grownBy W1 none := hW1 ▸ World.grownBy_alloc _ _ none
  have q0 : W1.cell? ⟨w.heap.size, 0, none⟩ = some (.bool true) := by rw [← hW1]; simp [go_sem]
  have q1 : W1.cell? ⟨w.heap.size, 1, none⟩ = some (.int .i64 d) := by rw [← hW1]; simp [go_sem]
  have q2 : W1.cell? ⟨w.heap.size, 2, none⟩ = some (.int .i64 r) := by rw [← hW1]; simp [go_sem]
  have q3 : W1.cell? ⟨w.heap.size, 3, none⟩ = some (.int .i64 p) := by rw [← hW1]; simp [go_sem]
  have q4 : W1.cell? ⟨w.heap.size, 4, none⟩ = some (.int .i64 off) := by rw [← hW1]; simp [go_sem]
  obtain ⟨-, -, e0, e1, e2⟩ := Gs.endG_ok hR
  obtain ⟨gk, ro, sub, dm, gp, gf, gl⟩ := g
  simp only at e0 e1 e2 hx
  have HF := hid (gFindG (h.grown hg1) hok hl hll hn c hc d r hd hr t i hm ht0 ht1 hi p off k ho hk _ hR)
  simp only [endRet] at HF
  have HWi := hid (fun w' => gWithin m gf gl off k w' e0 (by omega) (by omega) (by omega) ho2)
  rw [EndV.at_no (.inr (.inr hx))] at HWi
  have H0 := hid h
  have HG1 := hid hg1
  have HQ := hid q4
  clear h hok hl hll hn hm ht0 ht1 hg1 hc hR hd hr hi hx e0 e1 e2 ho2
  go_enter Try.func58, Try.ntmps58
  go_wp2_with (first
    | (go_at_call 124; (with_reducible refine HF.out.mono ?_); rintro e w2 ⟨rfl, h2⟩; have H2 := hid h2; have Z2 := hid (GR.fresh H0.out h2 (Nat.le_refl _) HQ.out); clear h2)
    | (go_at_call 165; (with_reducible refine (gPartG _ _ _ _ _ _ _ _ _).mono ?_); rintro e w3 ⟨rfl, g3⟩; have H3 := hid (H2.out.grown g3); have z3 := fun ob => (World.grownBy_alloc w3 ob none).cell (g3.cell Z2.out (by simp)) (by simp); clear g3)
    | (go_at_call 122; (with_reducible refine (HWi.out _).mono ?_); rintro e w4 ⟨rfl, g4⟩; have H4 := hid ((H3.out.grown (World.grownBy_alloc w3 _ none)).grown g4); clear g4))
  go_ret2
  exact ⟨rfl, GR.first H0.out HG1.out H4.out⟩
theorem gPullG_yes (h : GW w X B G pm np s T V Gv S l n) {K : Int} (hok : s.M.ok K) (hl : ∀ p ∈ l, p.fits) (hll : l.length ≤ 64) (hn : (n : Int) + 1 < 9223372036854775807) (c : Int) (hc : gdom c = true) (d r : Nat) (hd : d < 8) (hr : r < 32) (t : Int) (i : Nat) (hm : s.g.mem d = some (t, i)) (ht0 : 0 ≤ t) (ht1 : t < s.M.n) (hi : i < np) (p off k : Int) (ho : 0 ≤ off) (hk : 0 ≤ k) (m : Int) (g : GV) (hR : (s.due l n).endG ((s.due l n).entB d r) c d = some (m, g)) (hx : k ≤ g.len - off) :
    Calls Try.prog 58 #[.pointer (some ⟨X, 0, none⟩), .pointer (some ⟨V, 0, none⟩), .int .i64 c, .agg #[.bool true, .int .i64 d, .int .i64 r, .int .i64 p, .int .i64 off], .int .i64 k] w fun e w' =>
      NewB w ((((s.due l n).due l (n + 1)).M.read m (g.off + off) k).1) e w' ∧ GR w X B G pm np ((s.due l n).due l (n + 1)) T V Gv S l (n + 1 + 1) w' := by
  obtain ⟨W1, hW1⟩ : ∃ W, w.alloc (.cells #[.bool true, .int .i64 d, .int .i64 r, .int .i64 p, .int .i64 off] 104) = W := ⟨_, rfl⟩
  have hg1 : w.grownBy W1 none := hW1 ▸ World.grownBy_alloc _ _ none
  have q0 : W1.cell? ⟨w.heap.size, 0, none⟩ = some (.bool true) := by rw [← hW1]; simp [go_sem]
  have q1 : W1.cell? ⟨w.heap.size, 1, none⟩ = some (.int .i64 d) := by rw [← hW1]; simp [go_sem]
  have q2 : W1.cell? ⟨w.heap.size, 2, none⟩ = some (.int .i64 r) := by rw [← hW1]; simp [go_sem]
  have q3 : W1.cell? ⟨w.heap.size, 3, none⟩ = some (.int .i64 p) := by rw [← hW1]; simp [go_sem]
  have q4 : W1.cell? ⟨w.heap.size, 4, none⟩ = some (.int .i64 off) := by rw [← hW1]; simp [go_sem]
  obtain ⟨-, hmi, e0, e1, e2⟩ := Gs.endG_ok hR
  obtain ⟨gk, ro, sub, dm, gp, gf, gl⟩ := g
  simp only at e0 e1 e2 hx ⊢
  have HF := hid (gFindG (h.grown hg1) hok hl hll (by omega) c hc d r hd hr t i hm ht0 ht1 hi p off k ho hk _ hR)
  simp only [endRet] at HF
  have HWi := hid (fun w' => gWithin m gf gl off k w' e0 (by omega) (by omega) (by omega) (by omega))
  rw [EndV.at_yes ho hk hx] at HWi
  have hok' : (s.due l n).M.ok K := Mach.rews_ok _ hok
  obtain ⟨bs, hbs⟩ : ∃ bs, (((s.due l n).due l (n + 1)).M.read m (gf + off) k).1 = bs := ⟨_, rfl⟩
  have HR := hid (fun w2 {w1 : World} (h2 : GR w1 X B G pm np (s.due l n) T V Gv S l (n + 1) w2) => (show Calls Try.prog 86 #[.pointer (some ⟨V, 0, none⟩), .int .i64 m, .int .i64 (gf + off), .int .i64 k] w2 fun e w' => ∃ v, e = .returned (.tuple #[v, .int .i64 0]) ∧ FreshB w2 bs v w' ∧ VRead w2 V Gv B S l (n + 1) l.length (s.due l n).M w' by
    obtain ⟨f, hv⟩ := h2.a.v
    refine (vRead V Gv B S l (n + 1) l.length f m (gf + off) k w2 (s.due l n).M K hv h2.a.a.m hok' hl (by omega) hll (by omega)).mono fun e w' ⟨v, he, h1, h3⟩ => ⟨v, ?_, ?_, h3⟩
    · rw [he, read_good (by rw [Mach.is_iff, Mach.rews_n]; exact Mach.is_iff.1 hmi) (inP_yes (by omega) (by omega) (by omega))]
    · rw [← hbs]; exact h1))
  rw [hbs]
  have H0 := hid h
  have HG1 := hid hg1
  have HQ := hid q4
  clear h hok hok' hl hll hn hm ht0 ht1 hg1 hc hR hd hr hi hx e0 e1 e2 hmi hbs
  go_enter Try.func58, Try.ntmps58
  go_wp2_with (first
    | (go_at_call 124; (with_reducible refine HF.out.mono ?_); rintro e w2 ⟨rfl, h2⟩; have H2 := hid h2; have Z2 := hid (GR.fresh H0.out h2 (Nat.le_refl _) HQ.out); clear h2)
    | (go_at_call 165; (with_reducible refine (gPartG _ _ _ _ _ _ _ _ _).mono ?_); rintro e w3 ⟨rfl, g3⟩; have H3 := hid (H2.out.grown g3); have z3 := fun ob => (World.grownBy_alloc w3 ob none).cell (g3.cell Z2.out (by simp)) (by simp); obtain ⟨W3, hW3⟩ : ∃ W, w3.alloc (.cells #[.int .i64 m, .int .i64 gf, .int .i64 gl] 204) = W := ⟨_, rfl⟩; have hm3 : W3.cell? ⟨w3.heap.size, 0, none⟩ = some (.int .i64 m) := (by rw [← hW3]; simp [go_sem]); have hm31 : W3.cell? ⟨w3.heap.size, 1, none⟩ = some (.int .i64 gf) := (by rw [← hW3]; simp [go_sem]); have hm32 : W3.cell? ⟨w3.heap.size, 2, none⟩ = some (.int .i64 gl) := (by rw [← hW3]; simp [go_sem]); have hz3 : W3.cell? ⟨w.heap.size, 4, none⟩ = some (.int .i64 off) := hW3 ▸ z3 _; have HM3 := hid hm3; have H3b := hid (hW3 ▸ H3.out.grown (World.grownBy_alloc w3 _ none) : GR _ X B G pm np (s.due l n) T V Gv S l (n + 1) W3); clear g3)
    | (go_at_call 122; (with_reducible refine (HWi.out _).mono ?_); rintro e w4 ⟨rfl, g4⟩; have H4 := hid (H3b.out.grown g4); have z4 := g4.cell HM3.out (by simp); clear g4)
    | (go_at_call 86; (with_reducible refine (HR.out _ H4.out).mono ?_); rintro e w5 ⟨v, rfl, ⟨q, cp, rfl, hq⟩, hr⟩; have H5 := hid (⟨H4.out.a.read hr, H4.out.c.trans (GW.readChg (X := X) (B := B) (G := G) (pm := pm) (np := np) hr) fun _ e => .inl e⟩ : GR _ X B G pm np ((s.due l n).due l (n + 1)) T V Gv S l (n + 1 + 1) w5); have HB := hid (KeptBytes.wide hq (S' := fun k => w.heap.size ≤ k) fun k hk => Nat.le_trans (Nat.le_trans HG1.out.size H4.out.c.size) hk.1); clear hr hq))
  go_ret2
  exact ⟨⟨_, _, rfl, HB.out⟩, GR.first H0.out HG1.out H5.out⟩
end
end Go.Proofs.Ytaocnknofklmoaa

/-
  Package grant: Unmap, Foreign, Maps.
-/
set_option linter.unusedSimpArgs false
set_option linter.unusedVariables false
namespace Go.Proofs.Ytaocnknofklmoaa
open Go.RowKit KM
set_option maxHeartbeats 1000000
set_option maxRecDepth 100000

theorem KM.KRange.alloc {κ : Type} {P : Program} {k : TypeId} {mk : κ → Value} {z : Value} {w : World} {b r T : Nat} {f : κ → Option Value} {left : κ → Bool} (h : KRange P k mk z w b r T f left) (o : Obj) :
    KRange P k mk z (w.alloc o) b r T f left ∧ (w.alloc o).rangeLeft b r = w.rangeLeft b r := by
  obtain ⟨D, lf, cnt, hr, hf, hl⟩ := h
  exact ⟨⟨D, lf, cnt, hr.alloc o, hf, hl⟩, (hr.alloc o).left_eq.trans hr.left_eq.symm⟩
theorem filter_one {α : Type} [DecidableEq α] {p : α → Bool} {x : α} (hp : p x = true) : ∀ (L : List α), L.Nodup → x ∈ L → (L.filter p).length = (L.filter fun y => p y && decide (y ≠ x)).length + 1
  | [], _, h => by cases h
  | y :: L, hn, h => by
    obtain ⟨h1, h2⟩ := List.nodup_cons.1 hn
    by_cases e : y = x
    · subst e
      have h3 : L.filter p = L.filter fun z => p z && decide (z ≠ y) := List.filter_congr fun z hz => by
        have : z ≠ y := fun e => h1 (e ▸ hz)
        simp [this]
      simp only [List.filter_cons, hp, if_true, List.length_cons, h3]
      simp
    · have hx : x ∈ L := by rcases List.mem_cons.1 h with h | h; exact absurd h.symm e; exact h
      have ih := filter_one hp L h2 hx
      have e' : decide (y ≠ x) = true := by simpa using e
      simp only [List.filter_cons, e', Bool.and_true]
      cases p y <;> simp [ih]
theorem allKeys_nodup : allKeys.Nodup := by decide +kernel
theorem mem_allKeys {c h : Int} (h0 : 0 ≤ c) (h1 : c < 8) (h2 : 0 ≤ h) (h3 : h < 16) : (c, h) ∈ allKeys := by
  unfold allKeys
  rw [List.mem_flatMap]
  exact ⟨c.toNat, by simp; omega, by rw [List.mem_map]; exact ⟨h.toNat, by simp; omega, by rw [Int.toNat_of_nonneg h0, Int.toNat_of_nonneg h2]⟩⟩
theorem allKeys_fit {k : Int × Int} (h : k ∈ allKeys) : fit2 k := by
  unfold allKeys at h
  rw [List.mem_flatMap] at h
  obtain ⟨c, hc, h⟩ := h
  rw [List.mem_map] at h
  obtain ⟨x, hx, rfl⟩ := h
  simp at hc hx
  exact fit2_of (by omega) (by omega) hx
def mpF (g : Gst) (k : Int × Int) : Option Value := (g.mp k).map Mpd.val
theorem mpF_some {g : Gst} {k : Int × Int} {a : Mpd} (h : g.mp k = some a) : mpF g k = some a.val := by unfold mpF; rw [h]; rfl
def fcnt (g : Gst) (o : Int) (left : Int × Int → Bool) : Nat := (allKeys.filter fun k => left k && (match g.mp k with | some a => a.o == o | none => false)).length
theorem fcnt_start (g : Gst) (o : Int) : fcnt g o (fun k => (mpF g k).isSome) = g.foreign o := by
  unfold fcnt Gst.foreign mpF
  congr 1
  refine List.filter_congr fun k _ => ?_
  cases hk : g.mp k <;> simp_all
theorem fcnt_end {g : Gst} {o : Int} {left : Int × Int → Bool} (h : ∀ x, fit2 x → left x = false) : fcnt g o left = 0 := by
  unfold fcnt
  rw [List.length_eq_zero_iff, List.filter_eq_nil_iff]
  intro k hk
  rw [h k (allKeys_fit hk)]
  simp
theorem fcnt_yes {g : Gst} {o : Int} {left : Int × Int → Bool} {x : Int × Int} (hx : x ∈ allKeys) (hl : left x = true) {a : Mpd} (ha : g.mp x = some a) (ho : a.o = o) : fcnt g o left = fcnt g o (fun y => left y && decide (y ≠ x)) + 1 := by
  unfold fcnt
  rw [filter_one (x := x) (by rw [hl, ha]; simp [ho]) allKeys allKeys_nodup hx]
  congr 2
  refine List.filter_congr fun k _ => ?_
  exact Bool.and_right_comm _ _ _
theorem fcnt_no {g : Gst} {o : Int} {left : Int × Int → Bool} {x : Int × Int} {a : Mpd} (ha : g.mp x = some a) (ho : a.o ≠ o) : fcnt g o left = fcnt g o (fun y => left y && decide (y ≠ x)) := by
  unfold fcnt
  congr 1
  refine List.filter_congr fun k _ => ?_
  by_cases e : k = x
  · subst e; rw [ha]; simp [ho]
  · simp [e]
section
variable {w : World} {X B G : Nat} {pm : Nat → Nat × Nat × Nat} {np : Nat} {s : Gs} {T : Nat}
theorem gForeign (h : GA w X B G pm np s T) (hlv : ∀ c k a, s.g.mp (c, k) = some a → 0 ≤ c ∧ c < 8 ∧ 0 ≤ k ∧ k < 16) (o : Int) :
    Calls Try.prog 50 #[.pointer (some ⟨X, 0, none⟩), .int .i64 o] w fun e w' => e = .returned (.int .i64 (s.g.foreign o)) ∧ w.grownBy w' none := by
  have c0 := h.c0
  have c17 := h.c17
  have HMp := hid (show KMap Try.prog 200 key2 mpd0.val w G T (mpF s.g) from h.mp)
  have HL := hid hlv
  have hfl : (s.g.foreign o : Int) ≤ 128 := by
    have : s.g.foreign o ≤ 128 := Nat.le_trans (List.length_filter_le _ _) (by decide +kernel)
    omega
  clear h hlv
  go_enter Try.func50, Try.ntmps50
  go_wp2_with (first
    | (go_at_call 111; refine (gMade_yes X B _ c0).mono ?_; rintro e w1 ⟨rfl, rfl⟩)
    | (at_range; refine wpList_range_kmap _ rfl _ 116 rfl 198 key_ks Try.underlying116 mpd0.val G T _ rfl HMp.out ?_; intro w0 hrg0 hg0 hs0; have HRg := hid hrg0; have HG := hid hg0; clear hrg0 hg0 hs0))
  go_frame
  clear c0 c17
  go_loopw [5] (fun c wr => ∃ (left : Int × Int → Bool) (m : Nat), c = .int .i64 m ∧ m + fcnt s.g o left = s.g.foreign o ∧ KRange Try.prog 200 key2 mpd0.val wr G w.heap.size T (mpF s.g) left ∧ w.grownBy wr none) (fun _ wr => wr.rangeLeft G w.heap.size)
  case atStart => exact ⟨_, 0, rfl, by rw [fcnt_start]; omega, HRg.out, HG.out⟩
  case round =>
    obtain ⟨left, m, rfl, hm, hrg, hgw⟩ := hrel
    have HGw := hid hgw
    have HM := hid hm
    have hm0 : (0 : Int) ≤ m := by omega
    have hm1 : (m : Int) ≤ 128 := by omega
    clear hgw hm
    go_wp2_with (at_next; refine wpList_next_kmap _ rfl _ rfl key_ks mpd0.val G w.heap.size T _ left rfl hrg ?_ ?_)
    · intro hl0
      have HC := hid (fcnt_end (g := s.g) (o := o) (left := left) fun x => hl0 x.1 x.2)
      clear hl0
      go_wp2
      go_ret
      exact ⟨by have := HC.out; have := HM.out; rw [show m = s.g.foreign o by omega]; rfl, HGw.out⟩
    · intro c k v w1 hwx hlx hfx hrg1 hlt hg1 hs1 hen
      cases ha : s.g.mp (c, k) with
      | none => unfold mpF at hfx; rw [ha] at hfx; cases hfx
      | some a =>
        rw [mpF_some ha] at hfx
        obtain rfl : v = .agg #[.int .i64 a.h, .int .i64 a.c, .int .i64 a.o, .int .i64 a.r, .int .i64 a.m, .bool a.wr] := (Option.some.inj hfx).symm
        obtain ⟨r0, r1, r2, r3⟩ := HL.out c k a ha
        have HG1 := hid (HGw.out.andThen hg1 (fun j hj => by cases hj; exact .inl (Nat.le_refl _)))
        obtain ⟨hR1, hR2⟩ := hrg1.alloc (.cells #[.int .i64 a.h, .int .i64 a.c, .int .i64 a.o, .int .i64 a.r, .int .i64 a.m, .bool a.wr] 198)
        have HR1 := hid hR1
        have HLt := hid (show (w1.alloc (.cells #[.int .i64 a.h, .int .i64 a.c, .int .i64 a.o, .int .i64 a.r, .int .i64 a.m, .bool a.wr] 198)).rangeLeft G w.heap.size < wr.rangeLeft G w.heap.size by rw [hR2]; exact hlt)
        by_cases ho : a.o = o
        · have HSt := hid (fcnt_yes (mem_allKeys r0 r1 r2 r3) hlx ha ho)
          have hb : (a.o == o) = true := by simpa using ho
          clear hlx hfx hrg1 hlt hg1 hs1 hwx hrg hR1 hR2 ha ho r0 r1 r2 r3
          go_wp2
          go_roundw
          case rel => exact ⟨fun g => left g && decide (g ≠ (c, k)), m + 1, by go_num, by have := HM.out; have := HSt.out; omega, by have h := HR1.out; simpa using h, HG1.out.trans (World.grownBy_alloc _ _ none)⟩
          case measure => exact HLt.out
        · have HSt := hid (fcnt_no (left := left) ha ho)
          have hb : (a.o == o) = false := by simpa using ho
          clear hlx hfx hrg1 hlt hg1 hs1 hwx hrg hR1 hR2 ha ho r0 r1 r2 r3
          go_wp2
          go_roundw
          case rel => exact ⟨fun g => left g && decide (g ≠ (c, k)), m, rfl, by have := HM.out; have := HSt.out; omega, by have h := HR1.out; simpa using h, HG1.out.trans (World.grownBy_alloc _ _ none)⟩
          case measure => exact HLt.out
theorem GL.mach {s' : Gs} {T' : Nat} {w1 w2 : World} {M' : Mach} (h : GL w X B G pm np s' T' w1) (hm : PM w2 B M') (hg : w1.grownBy w2 (some B)) : GL w X B G pm np (s'.setM M') T' w2 :=
  ⟨h.a.mach hm hg, h.c.trans (Chg.of (S := fun k => k = B) hg fun j e => .inl (Option.some.inj e).symm) fun k e => .inl (.inr (.inl e))⟩
theorem GL.grown {s' : Gs} {T' : Nat} {w1 w2 : World} (h : GL w X B G pm np s' T' w1) (hg : w1.grownBy w2 none) : GL w X B G pm np s' T' w2 :=
  ⟨h.a.grown hg, h.c.trans (Chg.of0 (S := fun _ => False) hg) fun _ e => e.elim⟩
theorem GL.goes {s' : Gs} {T' : Nat} {w1 w2 : World} (h : GL w X B G pm np s' T' w1) (k : Int × Int) (hm : KMap Try.prog 200 key2 mpd0.val w2 G T' (fun i => if i = k then none else (s'.g.mp i).map Mpd.val)) (hg : w1.grownBy w2 (some G)) : GL w X B G pm np ⟨s'.M, s'.P, s'.g.setMp k none⟩ T' w2 :=
  ⟨h.a.live (Nat.le_refl _) (hm.congr fun i => by simp only [Gst.setMp]; by_cases e : i = k <;> simp [e]) rfl hg, h.c.trans (Chg.of (S := fun k => k = G) hg fun j e => .inl (Option.some.inj e).symm) fun k e => .inl (.inr (.inr (.inl e)))⟩
theorem gUnmap (h : GA w X B G pm np s T) {K : Int} (hok : s.M.ok K) (hK : K < 9223372036854775807) (c x : Int) (hxw : (Lit.int .i64 x).wf = true) :
    Calls Try.prog 51 #[.pointer (some ⟨X, 0, none⟩), .int .i64 c, .int .i64 x] w fun e w' => e = .returned (.int .i64 (s.unmap c x).1) ∧ GL w X B G pm np (s.unmap c x).2 T w' := by
  have HL := hid (gLive h c x hxw)
  obtain ⟨⟨a, q⟩, hl⟩ : ∃ y, s.live c x = y := ⟨_, rfl⟩
  rw [hl] at HL
  simp only [Mpd.val] at HL
  have H := hid h
  by_cases hq : q = 0
  · subst hq
    have e1 : s.unmap c x = (0, ⟨(s.M.put a.m (kindW a.wr)).2, s.P, s.g.setMp (c, x) none⟩) := by unfold Gs.unmap; rw [hl, if_pos rfl]
    rw [e1]
    have hd : gdom c = true := by
      cases hd : gdom c with
      | true => rfl
      | false => unfold Gs.live at hl; rw [if_pos hd] at hl; cases hl
    obtain ⟨h0, h1⟩ := gdom_yes.1 hd
    have HF := hid (show fit2 (c, x) from ⟨WalkArith.wf_i64 (by simp only; omega), hxw⟩)
    have HP := hid (fun w' (hm : PM w' B s.M) => Put_any B a.m (kindW a.wr) w' s.M K hm hok hK)
    obtain ⟨am, hm⟩ : ∃ am, a.m = am := ⟨_, rfl⟩
    obtain ⟨aw, hw⟩ : ∃ aw, a.wr = aw := ⟨_, rfl⟩
    rw [hm, hw] at HL HP ⊢
    clear h hok hd e1 hl hm hw hxw
    go_enter Try.func51, Try.ntmps51
    go_wp2_with (first
      | (go_at_call 120; refine HL.out.mono ?_; rintro e w1 ⟨rfl, g1⟩; obtain ⟨W2, hW2⟩ : ∃ W, w1.alloc (.cells #[.int .i64 a.h, .int .i64 a.c, .int .i64 a.o, .int .i64 a.r, .int .i64 am, .bool aw] 198) = W := ⟨_, rfl⟩; have g2 : w1.grownBy W2 none := hW2 ▸ World.grownBy_alloc _ _ none; have H2 := hid ((GL.same H.out).grown (g1.trans g2)); have c0 := H2.out.a.c0; have c17 := H2.out.a.c17; have z4 : W2.cell? ⟨w1.heap.size, 4, none⟩ = some (.int .i64 am) := (by rw [← hW2]; simp [go_sem]); have z5 : W2.cell? ⟨w1.heap.size, 5, none⟩ = some (.bool aw) := (by rw [← hW2]; simp [go_sem]); have HGne := hid (show G ≠ w1.heap.size from fun e => by have := (H.out.grown g1).mp.lt; omega); have HBne := hid (show B ≠ w1.heap.size from fun e => by have := (H.out.grown g1).m.lt; omega); clear g1 g2)
      | (at_delete; refine wpList_delete_kmap _ rfl _ _ 116 rfl 198 key_ks Try.underlying116 mpd0.val G T _ rfl H2.out.a.mp (c, x) rfl HF.out ?_; intro w5 h5 g5; have H5 := hid (H2.out.goes (c, x) h5 g5); have y4 := g5.cell z4 (fun e => HGne.out (Option.some.inj e).symm); have y5 := g5.cell z5 (fun e => HGne.out (Option.some.inj e).symm); have d0 := H5.out.a.c0; clear h5 g5 c0 c17))
    have q0 : w5.drew.cell? ⟨X, 0, none⟩ = some (.pointer (some ⟨B, 0, none⟩)) := d0
    have q4 : w5.drew.cell? ⟨w1.heap.size, 4, none⟩ = some (.int .i64 am) := y4
    have q5 : w5.drew.cell? ⟨w1.heap.size, 5, none⟩ = some (.bool aw) := y5
    clear z4 z5 y4 y5 d0
    go_region_held3 (fun w' => w'.cell? ⟨X, 0, none⟩ = some (.pointer (some ⟨B, 0, none⟩)) ∧ w'.cell? ⟨w1.heap.size, 4, none⟩ = some (.int .i64 am) ∧ w'.cell? ⟨w1.heap.size, 5, none⟩ = some (.bool aw)) (first | exact ⟨by assumption, by assumption, by assumption⟩ | go_keep)
      (first
        | (go_at_call 118; (with_reducible refine (gKind _ _).mono ?_); rintro e w' ⟨rfl, rfl⟩)
        | (go_at_call 77; (with_reducible refine (HP.out _ H5.out.a.m.drew).mono ?_); rintro e w6 ⟨rfl, h6, g6⟩; have H6 := hid (H5.out.mach h6 ((grownBy_drew w5 _).trans g6)); have k0 := H6.out.a.c0; have k4 := g6.cell q4 (fun e => HBne.out (Option.some.inj e).symm); have k5 := g6.cell q5 (fun e => HBne.out (Option.some.inj e).symm); clear h6 g6))
    go_wp2
    go_ret
    exact ⟨rfl, H6.out⟩
  · have e1 : s.unmap c x = (q, s) := by unfold Gs.unmap; rw [hl, if_neg hq]
    rw [e1]
    have hb : (q != 0) = true := by simpa using hq
    clear h hok e1 hl hq hxw
    go_enter Try.func51, Try.ntmps51
    go_wp2_with (go_at_call 120; refine HL.out.mono ?_; rintro e w1 ⟨rfl, g1⟩; have G1 := hid g1; clear g1)
    go_ret
    exact ⟨rfl, (GL.same H.out).grown (G1.out.trans (World.grownBy_alloc _ _ none))⟩
end
end Go.Proofs.Ytaocnknofklmoaa

/-
  Package grant: a further map of places, a further view. No walk here.
-/
set_option linter.unusedSimpArgs false
set_option linter.unusedVariables false
namespace Go.Proofs.Ytaocnknofklmoaa
open Go.RowKit KM

def upPm (pm : Nat → Nat × Nat × Nat) (i : Nat) (x : Nat × Nat × Nat) : Nat → Nat × Nat × Nat := fun j => if j = i then x else pm j
theorem upPm_same (pm : Nat → Nat × Nat × Nat) (i : Nat) (x : Nat × Nat × Nat) : upPm pm i x i = x := by simp [upPm]
theorem upPm_other (pm : Nat → Nat × Nat × Nat) (i j : Nat) (x : Nat × Nat × Nat) (h : j ≠ i) : upPm pm i x j = pm j := by simp [upPm, h]
section
variable {w w' : World} {X B G : Nat} {pm : Nat → Nat × Nat × Nat} {np : Nat} {s : Gs} {T : Nat}
/-- a map of places is made -/
theorem GA.add (h : GA w X B G pm np s T) (hmem : ∀ d t i, s.g.mem d = some (t, i) → i < np) {b f p T0 : Nat} {Q : Mp} (hP : PMap w' b f p Q T0) (hT : T0 ≤ T) (hg : w.grownBy w' none) (hf : ∀ k, pfoot b f p k → w.heap.size ≤ k) :
    GA w' X B G (upPm pm np (b, f, p)) (np + 1) ⟨s.M, upP s.P np Q, s.g⟩ T := by
  have h' := h.grown hg
  have hold : ∀ i, i < np → upPm pm np (b, f, p) i = pm i := fun i hi => upPm_other _ _ _ _ (by omega)
  have hlt : ∀ i, i < np → ∀ k, pft pm i k → k < w.heap.size := fun i hi k hk => h.lt (.inr (.inr (.inr ⟨i, hi, hk⟩)))
  have hpf : ∀ i, i < np → ∀ k, pft (upPm pm np (b, f, p)) i k ↔ pft pm i k := fun i hi k => by unfold pft; rw [hold i hi]
  have hnew : ∀ k, pft (upPm pm np (b, f, p)) np k ↔ pfoot b f p k := fun k => by unfold pft; rw [upPm_same]
  refine ⟨h'.top.congr fun k hk => ?_, h'.mp, h'.m, fun i hi => ?_, fun i j hi hj hij k hk hk2 => ?_, fun i hi hk => ?_⟩
  · unfold gtop
    have hpl : ∀ d, plcV (fun i => (upPm pm np (b, f, p) i).1) (s.g.mem d) = plcV (fun i => (pm i).1) (s.g.mem d) := fun d => by
      cases hm : s.g.mem d with
      | none => rfl
      | some x => obtain ⟨t, i⟩ := x; simp only [plcV]; rw [hold i (hmem d t i hm)]
    rw [hpl]
  · by_cases e : i = np
    · subst e; simp only [upPm_same, upP_same]; exact hP.mono hT
    · rw [hold i (by omega)]; simp only [upP_other _ _ _ _ e]; exact h'.p i (by omega)
  · by_cases e : i = np
    · subst e
      have hj' : j < i := by omega
      have h1 := hf k ((hnew k).1 hk)
      have h2 := hlt j hj' k ((hpf j hj' k).1 hk2)
      omega
    · have hi' : i < np := by omega
      have hk' := (hpf i hi' k).1 hk
      by_cases e2 : j = np
      · subst e2
        have h1 := hf k ((hnew k).1 hk2)
        have h2 := hlt i hi' k hk'
        omega
      · have hj' : j < np := by omega
        exact h.sep i j hi' hj' hij k hk' ((hpf j hj' k).1 hk2)
  · by_cases e : i = np
    · subst e
      have h1 := hf G ((hnew G).1 hk)
      have h2 := h.mp.lt
      omega
    · have hi' : i < np := by omega
      exact h.gp i hi' ((hpf i hi' G).1 hk)
/-- grants that New made -/
theorem GA.start {B : Nat} {M : Mach} (hM : PM w' B M) (ht : Row w' (w.heap.size + 1) 118 18 (gtop B w.heap.size (fun _ => 0) gst0)) (hm : GMap w' w.heap.size 0 gst0) (pm : Nat → Nat × Nat × Nat) (P : Nat → Mp) :
    GA w' (w.heap.size + 1) B w.heap.size pm 0 ⟨M, P, gst0⟩ 0 :=
  ⟨ht.congr fun k _ => by
    unfold gtop
    by_cases h0 : k = 0
    · simp [h0]
    · rw [if_neg h0, if_neg h0]
      by_cases h7 : k = 17
      · simp [h7]
      · rw [if_neg h7, if_neg h7]; rfl, hm, hM, fun i hi => by omega, fun i j hi => by omega, fun i hi => by omega⟩
/-- a view of the machine is made -/
theorem GA.view (h : GA w X B G pm np s T) {l : List PokeV} {f : Int → Option Value} (hv : VV w' (w.heap.size + 1) w.heap.size B (fun k => w.heap.size + 2 ≤ k ∧ k < w'.heap.size) l 0 l.length f) (hg : w.grownBy w' none) :
    GW w' X B G pm np s T (w.heap.size + 1) w.heap.size (fun k => w.heap.size + 2 ≤ k ∧ k < w'.heap.size) l 0 :=
  ⟨h.grown hg, ⟨f, hv⟩, fun k hk e => by
    have := h.lt e
    rcases hk with rfl | rfl | ⟨hk, _⟩ <;> omega⟩
/-- another view stays as it is while one reads -/
theorem GW.beside {V Gv V2 G2 : Nat} {S S2 : Nat → Prop} {l l2 : List PokeV} {n n2 n' T2 : Nat} {s' : Gs} (h2 : GW w X B G pm np s T V2 G2 S2 l2 n2) (h : GR w X B G pm np s' T2 V Gv S l n' w') (hV : ¬ vfoot V2 G2 S2 V) (hG : ¬ vfoot V2 G2 S2 Gv) : GW w' X B G pm np s' T2 V2 G2 S2 l2 n2 := by
  obtain ⟨f, hv⟩ := h2.v
  refine ⟨h.a.a, ⟨f, hv.chg h.c fun k hk e => ?_⟩, h2.ap⟩
  rcases e with e | e | e
  · exact h2.ap k hk e
  · exact hV (e ▸ hk)
  · exact hG (e ▸ hk)
theorem Gs.due_nil (s : Gs) {l : List PokeV} {n : Nat} (h : Go.Proofs.Ytaocnknofklmoaa.due l n = []) : s.due l n = s := by unfold Gs.due; rw [h]; rfl
theorem Gs.join_ok {s : Gs} {K : Int} (h : s.M.ok K) (d m : Int) (i : Nat) : (s.join d m i).2.M.ok (K + 1) := by
  have h1 := h.mono (T' := K + 1) (by omega)
  unfold Gs.join
  split
  · exact h1
  split
  · exact h1
  split
  · exact Mach.get_ok h _ _ _
  · exact h1
end
end Go.Proofs.Ytaocnknofklmoaa

/-
  Package grant: Pull of a grant's end by one contract.
-/
set_option linter.unusedSimpArgs false
set_option linter.unusedVariables false
namespace Go.Proofs.Ytaocnknofklmoaa
open Go.RowKit KM

theorem BG.nil (w : World) (q : Option Addr) : BG w q [] := fun k hk => absurd hk (by simp)
def Gs.pullG (s : Gs) (l : List PokeV) (n d r : Nat) (c off k : Int) : List UInt8 × Int × Gs × Nat :=
  match (s.due l n).endG ((s.due l n).entB d r) c d with
  | none => ([], 60, s.due l n, n + 1)
  | some (m, g) => if g.len - off < k then ([], 63, s.due l n, n + 1) else ((((s.due l n).due l (n + 1)).M.read m (g.off + off) k).1, 0, (s.due l n).due l (n + 1), n + 1 + 1)
section
variable {w : World} {X B G : Nat} {pm : Nat → Nat × Nat × Nat} {np : Nat} {s : Gs} {T : Nat} {V Gv : Nat} {S : Nat → Prop} {l : List PokeV} {n : Nat}
theorem gPullG (h : GW w X B G pm np s T V Gv S l n) {K : Int} (hok : s.M.ok K) (hl : ∀ p ∈ l, p.fits) (hll : l.length ≤ 64) (hn : (n : Int) + 1 < 9223372036854775807) (c : Int) (hc : gdom c = true) (d r : Nat) (hd : d < 8) (hr : r < 32) (t : Int) (i : Nat) (hm : s.g.mem d = some (t, i)) (ht0 : 0 ≤ t) (ht1 : t < s.M.n) (hi : i < np) (p off k : Int) (ho : 0 ≤ off) (ho2 : off ≤ 9223372036854775807) (hk : 0 ≤ k) (P : List UInt8 × Int × Gs × Nat) (hP : s.pullG l n d r c off k = P) :
    Calls Try.prog 58 #[.pointer (some ⟨X, 0, none⟩), .pointer (some ⟨V, 0, none⟩), .int .i64 c, .agg #[.bool true, .int .i64 d, .int .i64 r, .int .i64 p, .int .i64 off], .int .i64 k] w fun e w' =>
      ∃ q cp, e = .returned (.tuple #[.slice q P.1.length cp, .int .i64 P.2.1]) ∧ KeptBytes w' (fun k => w.heap.size ≤ k) q P.1 ∧ GR w X B G pm np P.2.2.1 T V Gv S l P.2.2.2 w' := by
  subst hP
  unfold Gs.pullG
  cases hR : (s.due l n).endG ((s.due l n).entB d r) c d with
  | none =>
    exact (gPullG_no h hok hl hll (by omega) c hc d r hd hr t i hm ht0 ht1 hi p off k ho hk hR).mono fun e w' ⟨he, hg⟩ => ⟨none, 0, he, .inl rfl, hg⟩
  | some mg =>
    obtain ⟨m, g⟩ := mg
    simp only
    by_cases hx : g.len - off < k
    · rw [if_pos hx]
      exact (gPullG_range h hok hl hll (by omega) c hc d r hd hr t i hm ht0 ht1 hi p off k ho ho2 hk m g hR hx).mono fun e w' ⟨he, hg⟩ => ⟨none, 0, he, .inl rfl, hg⟩
    · rw [if_neg hx]
      exact (gPullG_yes h hok hl hll hn c hc d r hd hr t i hm ht0 ht1 hi p off k ho hk m g hR (by omega)).mono fun e w' ⟨⟨q, cp, he, hb⟩, hg⟩ => ⟨q, cp, he, hb, hg⟩
end
/-- an entry's bytes as bytes apart from a block -/
theorem BG.is {w : World} {q : Option Addr} {bs : List UInt8} (h : BG w q bs) (cap B : Nat) (hB : ∀ b o, q = some ⟨b, o, none⟩ → b ≠ B) : IsBytes w B (.slice q bs.length cap) bs := by
  cases bs with
  | nil => exact .inl ⟨⟨_, _, rfl⟩, rfl⟩
  | cons x xs =>
    obtain ⟨g, o, rfl, _⟩ := h 0 (by simp)
    refine .inr ⟨_, _, rfl, hB g o rfl, fun k y hy => ?_⟩
    obtain ⟨hk, rfl⟩ := List.getElem?_eq_some_iff.1 hy
    obtain ⟨g', o', e, hc⟩ := h k hk
    cases e
    have e : (⟨g, o, none⟩ : Addr).add k = ⟨g, o + k, none⟩ := by unfold Addr.add; split <;> simp_all
    rw [e, hc]
    simp [List.getD, List.getElem?_eq_getElem hk]
end Go.Proofs.Ytaocnknofklmoaa

/-
  WholeGrant's machine and grants on plain data. No walk here.
-/
set_option linter.unusedSimpArgs false
set_option linter.unusedVariables false
namespace Go.Proofs.Ytaocnknofklmoaa
open Go.RowKit KM

def alW : Nat → Mach
  | 0 => upTo ((4 : Nat) : Int) 4
  | k + 1 => ((alW k).alloc ((k : Int) / 2)).2.2
theorem alW_ok : ∀ k, (alW k).ok 0
  | 0 => upTo_ok' 4 (by omega) (by omega)
  | k + 1 => Mach.alloc_ok (alW_ok k) _
def twoP (k : Nat) : Mp := (((Mp.empty 2).setE 0 (2 * (k : Int))).1.setE 1 (2 * (k : Int) + 1)).1
def stW : Nat → Gs
  | 0 => ⟨alW 4, fun _ => Mp.empty 0, gst0⟩
  | k + 1 => ((⟨(stW k).M, upP (stW k).P k (twoP k), (stW k).g⟩ : Gs).join k (2 * (k : Int)) k).2
theorem stW_ok : ∀ k : Nat, (stW k).M.ok k
  | 0 => alW_ok 4
  | k + 1 => by
    have e : ((k + 1 : Nat) : Int) = (k : Int) + 1 := by omega
    rw [e]
    exact Gs.join_ok (s := ⟨(stW k).M, upP (stW k).P k (twoP k), (stW k).g⟩) (stW_ok k) k (2 * (k : Int)) k
theorem stW_g1 : (stW 1).g = gst0.setMem 0 (some (0, 0)) := by kernel_rfl
theorem stW_g2 : (stW 2).g = (gst0.setMem 0 (some (0, 0))).setMem 1 (some (2, 1)) := by kernel_rfl
theorem stW_P1 : (stW 2).P 1 = twoP 1 := by kernel_rfl
theorem stW_n : (stW 2).M.n = 4 := by kernel_rfl
theorem stW_o2 : ((stW 2).M.fr 2).owner = 1 := by kernel_rfl
theorem stW_o3 : ((stW 2).M.fr 3).owner = 1 := by kernel_rfl
theorem stW_t2 : ((stW 2).M.fr 2).ty = 1 := by kernel_rfl
theorem stW_t3 : ((stW 2).M.fr 3).ty = 0 := by kernel_rfl
theorem stW_mem (k : Nat) (hk : k < 2) : ∀ d t i, (stW k).g.mem d = some (t, i) → i < k := by
  intro d t i h
  have : k = 0 ∨ k = 1 := by omega
  rcases this with rfl | rfl
  · cases h
  · rw [stW_g1] at h
    simp only [Gst.setMem, gst0] at h
    split at h
    · cases h; omega
    · cases h
theorem twoP_0 : (twoP 1).getE 0 = (2, 0) := by kernel_rfl
theorem twoP_1 : (twoP 1).getE 1 = (3, 0) := by kernel_rfl
theorem twoP_2 (p : Int) (h : 2 ≤ p) : ((twoP 1).getE p).2 = 1 := by
  have hn : (twoP 1).n = 2 := by kernel_rfl
  unfold Mp.getE
  rw [hn, if_neg (by rw [inPl_yes]; omega)]

theorem upP_upP (P : Nat → Mp) (i : Nat) (a b : Mp) : upP (upP P i a) i b = upP P i b := by
  funext j; unfold upP; split <;> rfl
/-- the grants in memory behind a call that began at w -/
structure WS (w wr : World) (X B G : Nat) (pm : Nat → Nat × Nat × Nat) (np : Nat) (s : Gs) (T : Nat) : Prop where
  a : GA wr X B G pm np s T
  far : ∀ q, gfoot X B G pm np q → w.heap.size ≤ q
  g : w.grownBy wr none
section
variable {w wr W : World} {X B G : Nat} {pm : Nat → Nat × Nat × Nat} {np : Nat} {s s' : Gs} {T T' : Nat}
theorem Chg.grownR {S : Nat → Prop} {w0 w1 w2 : World} (h : Chg S w1 w2) (hg : w0.grownBy w1 none) (hs : ∀ k, S k → w0.heap.size ≤ k) : w0.grownBy w2 none :=
  ⟨h.os.trans hg.os, h.tape.trans hg.tape, h.output.trans hg.output, Nat.le_trans hg.size h.size, fun k hk _ => (h.block k (Nat.lt_of_lt_of_le hk hg.size) fun e => by have := hs k e; omega).trans (hg.block k hk (by simp))⟩
theorem WS.grown (h : WS w wr X B G pm np s T) (hg : wr.grownBy W none) : WS w W X B G pm np s T := ⟨h.a.grown hg, h.far, h.g.trans hg⟩
theorem WS.left (h : WS w wr X B G pm np s T) (hl : GL wr X B G pm np s' T' W) : WS w W X B G pm np s' T' := ⟨hl.a, h.far, hl.c.grownR h.g h.far⟩
theorem WS.mach {M' : Mach} (h : WS w wr X B G pm np s T) (hm : PM W B M') (hg : wr.grownBy W (some B)) : WS w W X B G pm np (s.setM M') T := h.left ((GL.same h.a).mach hm hg)
theorem WS.add (h : WS w wr X B G pm np s T) (hmem : ∀ d t i, s.g.mem d = some (t, i) → i < np) {b f p T0 : Nat} {Q : Mp} (hP : PMap W b f p Q T0) (hT : T0 ≤ T) (hg : wr.grownBy W none) (hf : ∀ k, pfoot b f p k → wr.heap.size ≤ k) :
    WS w W X B G (upPm pm np (b, f, p)) (np + 1) ⟨s.M, upP s.P np Q, s.g⟩ T := by
  refine ⟨h.a.add hmem hP hT hg hf, fun q hq => ?_, h.g.trans hg⟩
  rcases hq with e | e | e | ⟨i, hi, hk⟩
  · exact h.far q (.inl e)
  · exact h.far q (.inr (.inl e))
  · exact h.far q (.inr (.inr (.inl e)))
  · by_cases e : i = np
    · subst e
      unfold pft at hk
      rw [upPm_same] at hk
      exact Nat.le_trans h.g.size (hf q hk)
    · unfold pft at hk
      rw [upPm_other _ _ _ _ e] at hk
      exact h.far q (.inr (.inr (.inr ⟨i, by omega, hk⟩)))
theorem WS.set (h : WS w wr X B G pm np s T) (hT : T < maxLen) {i b : Nat} (hi : i < np) (hb : (pm i).1 = b) (g m : Int) (hg : I64 g) (hm : I64 m) :
    Calls Try.prog 63 #[.pointer (some ⟨b, 0, none⟩), .int .i64 g, .int .i64 m] wr fun e w' => e = .returned (.int .i64 ((s.P i).setE g m).2) ∧ WS w w' X B G pm np ⟨s.M, upP s.P i ((s.P i).setE g m).1, s.g⟩ (T + 1) := by
  subst hb
  exact (pSet_yes _ _ _ _ T g m hg hm hT wr (h.a.p i hi)).mono fun e w' ⟨he, hl⟩ => ⟨he, h.left ⟨h.a.place hi (Nat.le_succ _) hl, (Chg.ofGen hl.chg).mono fun k hk => .inr (.inr (.inr ⟨i, hi, hk⟩))⟩⟩
theorem WS.join (h : WS w wr X B G pm np s T) {K : Int} (hok : s.M.ok K) (hK : K < 9223372036854775807) {i b : Nat} (hi : i < np) (hb : (pm i).1 = b) (d m : Int) :
    Calls Try.prog 59 #[.pointer (some ⟨X, 0, none⟩), .int .i64 d, .int .i64 m, .pointer (some ⟨b, 0, none⟩)] wr fun e w' => e = .returned (.int .i64 (s.join d m i).1) ∧ WS w w' X B G pm np (s.join d m i).2 T := by
  subst hb
  exact (gJoin h.a hok hK d m i hi).mono fun e w' ⟨he, hl⟩ => ⟨he, h.left hl⟩
end
end Go.Proofs.Ytaocnknofklmoaa

/-
  WholeGrant on plain data: what a pull and a map answer. No walk here.
-/
set_option linter.unusedSimpArgs false
set_option linter.unusedVariables false
namespace Go.Proofs.Ytaocnknofklmoaa
open Go.RowKit KM

theorem fr_write_other (M : Mach) (i off : Int) (l : List UInt8) (j : Nat) (h : j ≠ i.toNat) : (M.write i off l).2.fr j = M.fr j := by
  unfold Mach.write
  split; · rfl
  split; · rfl
  split; · rfl
  exact Mach.upd_other _ _ _ _ h
theorem fr_write_keeps (M : Mach) (i off : Int) (l : List UInt8) (j : Nat) : ((M.write i off l).2.fr j).owner = (M.fr j).owner ∧ ((M.write i off l).2.fr j).ty = (M.fr j).ty := by
  by_cases h : j = i.toNat
  · subst h
    unfold Mach.write
    split; · exact ⟨rfl, rfl⟩
    split; · exact ⟨rfl, rfl⟩
    split; · exact ⟨rfl, rfl⟩
    simp only [Mach.upd_same]
    exact ⟨rfl, rfl⟩
  · rw [fr_write_other _ _ _ _ _ h]; exact ⟨rfl, rfl⟩
theorem part_laid (f : Fr) (l : List UInt8) : (f.laid 0 l).part 0 l.length = l := by
  unfold Fr.part Fr.laid
  apply List.ext_getElem
  · simp
  · intro i h1 h2
    simp at h1
    simp [h1, List.getD, List.getElem?_eq_getElem h1]
/-- WholeGrant's grants, whatever the bytes -/
structure SW (s : Gs) : Prop where
  ok : s.M.ok 2
  n : s.M.n = 4
  o2 : (s.M.fr 2).owner = 1
  o3 : (s.M.fr 3).owner = 1
  t2 : (s.M.fr 2).ty = 1
  t3 : (s.M.fr 3).ty = 0
  g : s.g = (gst0.setMem 0 (some (0, 0))).setMem 1 (some (2, 1))
  p : s.P 1 = twoP 1
theorem SW.start : SW (stW 2) := ⟨by simpa using stW_ok 2, stW_n, stW_o2, stW_o3, stW_t2, stW_t3, stW_g2, stW_P1⟩
section
variable {s : Gs}
theorem SW.write (h : SW s) (i off : Int) (l : List UInt8) : SW (s.setM (s.M.write i off l).2) :=
  ⟨Mach.write_ok h.ok _ _ _, (Mach.vwrite_n _ _ _ _).trans h.n, (fr_write_keeps _ _ _ _ _).1.trans h.o2, (fr_write_keeps _ _ _ _ _).1.trans h.o3, (fr_write_keeps _ _ _ _ _).2.trans h.t2, (fr_write_keeps _ _ _ _ _).2.trans h.t3, h.g, h.p⟩
theorem SW.due (h : SW s) (l : List PokeV) (n : Nat) : SW (s.due l n) :=
  ⟨Mach.rews_ok _ h.ok, (Mach.rews_n _ _).trans h.n, (Mach.rews_fr _ _ _).1.trans h.o2, (Mach.rews_fr _ _ _).1.trans h.o3, (Mach.rews_fr _ _ _).2.1.trans h.t2, (Mach.rews_fr _ _ _).2.1.trans h.t3, h.g, h.p⟩
theorem SW.mem1 (h : SW s) : s.g.mem 1 = some (2, 1) := by rw [h.g]; rfl
theorem SW.mp (h : SW s) (k : Int × Int) : s.g.mp k = none := by rw [h.g]; rfl
theorem SW.entB (h : SW s) : s.entB 1 0 = (s.M.fr 2).part 0 8 := by
  have ht : s.table 1 = 2 := by unfold Gs.table; rw [show (1 : Int).toNat = 1 from rfl, h.mem1]
  unfold Gs.entB
  rw [ht, read_good (by rw [Mach.is_iff, h.n]; omega) (inP_yes (by omega) (by omega) (by omega))]
  rfl
theorem SW.entB_write (h : SW s) (b : List UInt8) (hb : b.length = 8) : (s.setM (s.M.write 2 0 b).2).entB 1 0 = b := by
  rw [(h.write 2 0 b).entB]
  have e : (s.M.write 2 0 b).2.fr 2 = (s.M.fr 2).laid 0 b := by
    unfold Mach.write
    rw [if_neg (by rw [Mach.is_yes (by omega) (by rw [h.n]; omega)]; simp), if_neg (by rw [inP_yes (by omega) (by omega) (by omega)]; simp), if_neg (by rw [show (2 : Int).toNat = 2 from rfl, h.o2]; omega)]
    exact Mach.upd_same _ _ _
  show ((s.M.write 2 0 b).2.fr 2).part 0 8 = b
  rw [e, ← hb, part_laid]
theorem SW.entB_other (h : SW s) (i off : Int) (l : List UInt8) (hi : i.toNat ≠ 2) : (s.setM (s.M.write i off l).2).entB 1 0 = s.entB 1 0 := by
  rw [(h.write i off l).entB, h.entB]
  show ((s.M.write i off l).2.fr 2).part 0 8 = _
  rw [fr_write_other _ _ _ _ _ (fun e => hi e.symm)]
theorem SW.owns (h : SW s) : s.owns 1 2 = true ∧ s.owns 1 3 = true := by
  unfold Gs.owns
  rw [Mach.is_yes (by omega) (by rw [h.n]; omega), Mach.is_yes (by omega) (by rw [h.n]; omega), show (2 : Int).toNat = 2 from rfl, show (3 : Int).toNat = 3 from rfl, h.o2, h.o3]
  exact ⟨rfl, rfl⟩
theorem SW.granted (h : SW s) (p : Int) (hp : 0 ≤ p) : (p = 0 ∧ s.granted 1 p = some 2) ∨ (p = 1 ∧ s.granted 1 p = some 3) ∨ (2 ≤ p ∧ s.granted 1 p = none) := by
  have e : s.granted 1 p = if ((twoP 1).getE p).2 = 0 ∧ s.owns 1 ((twoP 1).getE p).1 = true then some ((twoP 1).getE p).1 else none := by
    unfold Gs.granted
    rw [show (1 : Int).toNat = 1 from rfl, h.mem1]
    simp only [h.p]
  rw [e]
  have : p = 0 ∨ p = 1 ∨ 2 ≤ p := by omega
  rcases this with rfl | rfl | hp2
  · refine .inl ⟨rfl, ?_⟩
    rw [twoP_0, if_pos ⟨rfl, h.owns.1⟩]
  · refine .inr (.inl ⟨rfl, ?_⟩)
    rw [twoP_1, if_pos ⟨rfl, h.owns.2⟩]
  · refine .inr (.inr ⟨hp2, ?_⟩)
    rw [if_neg (fun hh => by rw [twoP_2 p hp2] at hh; exact absurd hh.1 (by omega))]
theorem entV_pk {g : GV} (hg : packV g = true) : entV (pkL g) 1 0 = if g.k = 1 ∧ g.dom = 0 then some (wantG g) else none := by
  unfold entV
  rw [unp_pk g hg]
  have e1 : (wantG g).k = g.k := by unfold wantG; split <;> rfl
  have e2 : (wantG g).dom = g.dom := by unfold wantG; split <;> rfl
  simp only [e1, e2, true_and]
theorem wantG_gpfn (g : GV) : (wantG g).gpfn = g.gpfn := by unfold wantG; split <;> rfl
theorem wantG_ro (g : GV) : (wantG g).ro = g.ro := by unfold wantG; split <;> rfl
theorem wantG_sub (g : GV) : (wantG g).sub = g.sub := by unfold wantG; split <;> rfl
/-- the rewrites of WholeGrant -/
def lateW (l : List UInt8) : List PokeV := [⟨1, 2, 0, l⟩, ⟨2, 2, 0, l⟩]
theorem late0 (l : List UInt8) : Go.Proofs.Ytaocnknofklmoaa.due (lateW l) ((0 : Nat) : Int) = [] := rfl
theorem late1 (l : List UInt8) : Go.Proofs.Ytaocnknofklmoaa.due (lateW l) ((0 + 1 : Nat) : Int) = [⟨1, 2, 0, l⟩] := rfl
theorem nil_due (n : Int) : Go.Proofs.Ytaocnknofklmoaa.due [] n = [] := rfl
theorem pull_err (s : Gs) (l : List UInt8) (d r : Nat) (c off k : Int) : (s.pullG [] 0 d r c off k).2.1 = (s.pullG (lateW l) 0 d r c off k).2.1 := by
  unfold Gs.pullG
  rw [s.due_nil (late0 l), s.due_nil (nil_due _)]
  cases s.endG (s.entB d r) c d with
  | none => rfl
  | some mg => simp only; split <;> rfl
theorem pull_same (s : Gs) (d r : Nat) (c off k : Int) : (s.pullG [] 0 d r c off k).2.2.1 = s := by
  unfold Gs.pullG
  rw [s.due_nil (nil_due _)]
  cases s.endG (s.entB d r) c d with
  | none => rfl
  | some mg => simp only; split; · rfl
               · exact s.due_nil (nil_due _)
theorem pull_sw (h : SW s) (l : List UInt8) (d r : Nat) (c off k : Int) : SW (s.pullG (lateW l) 0 d r c off k).2.2.1 := by
  unfold Gs.pullG
  rw [s.due_nil (late0 l)]
  cases s.endG (s.entB d r) c d with
  | none => exact h
  | some mg => simp only; split; · exact h
               · exact h.due _ _
theorem pull_bytes (h : SW s) {g : GV} (hg : packV g = true) (hb : s.entB 1 0 = pkL g) (hp : g.gpfn = 1) (l : List UInt8) (off k : Int) : (s.pullG [] 0 1 0 0 off k).1 = (s.pullG (lateW l) 0 1 0 0 off k).1 := by
  unfold Gs.pullG
  rw [s.due_nil (late0 l), s.due_nil (nil_due _)]
  rw [show s.entB ((1 : Nat) : Int) ((0 : Nat) : Int) = pkL g from hb]
  cases hE : s.endG (pkL g) 0 ((1 : Nat) : Int) with
  | none => rfl
  | some mg =>
    obtain ⟨m, g'⟩ := mg
    simp only
    split
    · rfl
    · have hm : m = 3 := by
        unfold Gs.endG at hE
        rw [entV_pk hg] at hE
        split at hE
        · cases hE
        · rename_i g2 hg2
          split at hg2
          · cases hg2
            rw [wantG_gpfn, hp] at hE
            rcases h.granted 1 (by omega) with ⟨e, _⟩ | ⟨_, e⟩ | ⟨e, _⟩
            · omega
            · rw [show s.granted ((1 : Nat) : Int) 1 = some 3 from e] at hE
              simp only [Option.some.injEq, Prod.mk.injEq] at hE
              exact hE.1.symm
            · omega
          · cases hg2
      subst hm
      rw [s.due_nil (nil_due _)]
      have e : (s.due (lateW l) (0 + 1)).M.fr 3 = s.M.fr 3 := by
        show (s.M.rews (Go.Proofs.Ytaocnknofklmoaa.due (lateW l) ((0 + 1 : Nat) : Int))).fr 3 = _
        rw [late1]
        show (s.M.rew ⟨1, 2, 0, l⟩).fr 3 = _
        unfold Mach.rew
        split
        · exact fr_write_other _ _ _ _ _ (by show (3 : Nat) ≠ 2; omega)
        · rfl
      have en : (s.due (lateW l) (0 + 1)).M.n = s.M.n := Mach.rews_n _ _
      unfold Mach.read Mach.is
      rw [en, show (3 : Int).toNat = 3 from rfl, e]
/-- is the map permitted? -/
def okW (g : GV) (wr : Bool) : Bool := decide (g.k = 1) && (decide (g.dom = 0) && (decide (g.gpfn < 2) && (!g.sub && (!wr || !g.ro))))
theorem map_no (h : SW s) {g : GV} (hg : packV g = true) (wr : Bool) (ho : okW g wr = false) (x : Nat) : (s.mapE (pkL g) 0 1 0 wr x).2.1 ≠ 0 := by
  obtain ⟨_, _, p, _, _, hgv, _, _, _, _, _, _⟩ := pack_nats hg
  have hp0 : 0 ≤ g.gpfn := by rw [hgv]; simp only; omega
  clear hgv
  unfold Gs.mapE
  rw [entV_pk hg]
  by_cases hk : g.k = 1 ∧ g.dom = 0
  · rw [if_pos hk]
    simp only [wantG_sub, wantG_ro, wantG_gpfn]
    by_cases hs : g.sub = true
    · rw [if_pos hs]; show (61 : Int) ≠ 0; omega
    · rw [if_neg hs]
      by_cases hw : (wr && g.ro) = true
      · rw [if_pos hw]; show (62 : Int) ≠ 0; omega
      · rw [if_neg hw]
        rcases h.granted g.gpfn hp0 with ⟨e, _⟩ | ⟨e, _⟩ | ⟨_, e⟩
        · exfalso
          unfold okW at ho
          rw [hk.1, hk.2, e] at ho
          cases hsb : g.sub <;> cases wr <;> cases hr : g.ro <;> simp_all
        · exfalso
          unfold okW at ho
          rw [hk.1, hk.2, e] at ho
          cases hsb : g.sub <;> cases wr <;> cases hr : g.ro <;> simp_all
        · rw [e]; show (60 : Int) ≠ 0; omega
  · rw [if_neg hk]; show (60 : Int) ≠ 0; omega
theorem map_yes (h : SW s) {g : GV} (hg : packV g = true) (wr : Bool) (ho : okW g wr = true) (x : Nat) : (s.mapE (pkL g) 0 1 0 wr x).1 = x ∧ (s.mapE (pkL g) 0 1 0 wr x).2.1 = 0 ∧ ∃ a, (s.mapE (pkL g) 0 1 0 wr x).2.2.g.mp (0, (x : Int)) = some a ∧ (s.mapE (pkL g) 0 1 0 wr x).2.2.M.ok 3 := by
  obtain ⟨_, _, p, _, _, hgv, _, _, _, _, _, _⟩ := pack_nats hg
  have hp0 : 0 ≤ g.gpfn := by rw [hgv]; simp only; omega
  clear hgv
  unfold okW at ho
  simp only [Bool.and_eq_true, decide_eq_true_eq] at ho
  obtain ⟨hk, hd, hp, hs, hw⟩ := ho
  have hs' : ¬ g.sub = true := by cases hh : g.sub <;> simp_all
  have hw' : ¬ (wr && g.ro) = true := by cases wr <;> cases hh : g.ro <;> simp_all
  have hget : ∀ m : Int, (m = 2 ∨ m = 3) → (s.M.get m 1 (kindW wr)).1 = 0 := fun m hm => by
    have hi : s.M.is m = true := Mach.is_yes (by omega) (by rw [h.n]; omega)
    have hown : (s.M.fr m.toNat).owner = 1 := by rcases hm with rfl | rfl; exact h.o2; exact h.o3
    have hkk : kindW wr = 0 ∨ kindW wr = 1 := by unfold kindW; split <;> simp
    have hcty : ¬ (kindW wr ≠ 0 ∧ (s.M.fr m.toNat).cnt ≠ 0 ∧ (s.M.fr m.toNat).ty ≠ kindW wr) := by
      rintro ⟨h1, h2, h3⟩
      have hk1 : kindW wr = 1 := by omega
      rw [hk1] at h3
      rcases hm with rfl | rfl
      · exact h3 h.t2
      · exact h2 ((h.ok.fr 3 (by rw [h.n]; omega)).1.z.2 h.t3)
    unfold Mach.get Mach.take
    rw [if_neg (by rw [hi]; simp), if_neg (by omega), if_neg (by rw [hown]; omega), if_neg (by rw [hown]; simp), if_neg hcty]
  have key : ∀ m : Int, (m = 2 ∨ m = 3) → s.granted 1 g.gpfn = some m → s.mapE (pkL g) 0 1 0 wr x = ((x : Int), (0 : Int), (⟨(s.M.get m 1 (kindW wr)).2, s.P, s.g.setMp (0, (x : Int)) (some ⟨x, 0, 1, 0, m, wr⟩)⟩ : Gs)) := fun m hm e => by
    unfold Gs.mapE
    rw [entV_pk hg, if_pos ⟨hk, hd⟩]
    simp only [wantG_sub, wantG_ro, wantG_gpfn]
    rw [if_neg hs', if_neg hw', e]
    simp only
    rw [if_pos (hget m hm)]
  have hfin : ∀ m : Int, (⟨(s.M.get m 1 (kindW wr)).2, s.P, s.g.setMp (0, (x : Int)) (some ⟨x, 0, 1, 0, m, wr⟩)⟩ : Gs).g.mp (0, (x : Int)) = some ⟨x, 0, 1, 0, m, wr⟩ := fun m => by simp [Gst.setMp]
  rcases h.granted g.gpfn hp0 with ⟨_, e⟩ | ⟨_, e⟩ | ⟨e, _⟩
  · rw [key 2 (.inl rfl) e]; exact ⟨rfl, rfl, _, hfin 2, by have := Mach.get_ok h.ok 2 1 (kindW wr); exact this⟩
  · rw [key 3 (.inr rfl) e]; exact ⟨rfl, rfl, _, hfin 3, by have := Mach.get_ok h.ok 3 1 (kindW wr); exact this⟩
  · omega
end
end Go.Proofs.Ytaocnknofklmoaa

/-
  What a hand-in of a law wants besides: new blocks alone.
-/
set_option linter.unusedSimpArgs false
set_option linter.unusedVariables false
namespace Go.Proofs.Ytaocnknofklmoaa
open Go.RowKit
theorem below_grown' {w W : World} (h : w.grownBy W none) : Below w.heap.size w W := ⟨h.os, h.tape, h.output, h.size, fun k hk => h.block k hk (by simp)⟩
end Go.Proofs.Ytaocnknofklmoaa

/-
  A struct that came in by value, whose fields are one cell each, opened; for any program. No walk here.
-/
set_option linter.unusedSimpArgs false
set_option linter.unusedVariables false
namespace Go.Proofs.Ytaocnknofklmoaa.Flat
open Go.RowKit Go.ChangeShapes Go.WideShapes Go.ChangeAt Go.Deep
section
variable {H : Type} {enc : TypeId × Value → H} {P : Program} {w : World} {base : Nat} {spare : Nat → Bool} {held : Bool}
theorem open_agg {te : TypeId} {tys : List TypeId} (hfl : isFlat P te tys = true) {r : Reach} {b0 : Nat} {v : Value} (hv : Value.okWide P w r b0 te v) {d : DataW H} {ps : List MemPlace} (h : DataW.Trod enc P w base spare held te v d ps) (hsz : ∀ n ∈ d.weights P te, n ≤ reachBytes) :
    ∃ l : List Value, v = .agg l.toArray ∧ l.length = tys.length ∧ ∀ (j : Nat) (t : TypeId), tys[j]? = some t → ∃ u : Value, l[j]? = some u ∧ Came enc P w base spare held t u := by
  obtain ⟨fs, hu, hty, hof, hce, hone⟩ := isFlat_is hfl
  obtain ⟨cs, rfl, hcsz⟩ := okWide_struct hu hv
  obtain ⟨fuel, h⟩ := h
  obtain ⟨xs, n, _, hy, hcl, hxl, hf⟩ := DataW.trod_struct hu h
  have hlen : fs.size = tys.length := by rw [← hty]; simp
  refine ⟨cs.toList, by simp, by simpa using hcsz.trans hce, ?_⟩
  intro j t hj
  obtain ⟨hjl, rfl⟩ := List.getElem?_eq_some_iff.1 hj
  have hg : fs[j]? = some (fs[j]'(by omega)) := Array.getElem?_eq_getElem (by omega)
  have hft : (fs[j]'(by omega)).type = tys[j] := by
    have : (fs.toList.map (·.type))[j]? = tys[j]? := by rw [hty]
    rw [List.getElem?_map, Array.getElem?_toList, hg, hj] at this
    simpa using this
  have hfo : (fs[j]'(by omega)).offset = j := by
    have : (fs.toList.map (·.offset))[j]? = (List.range tys.length)[j]? := by rw [hof]
    rw [List.getElem?_map, Array.getElem?_toList, hg, List.getElem?_range hjl] at this
    simpa using this
  have ht := hf j _ hg
  rw [hft, hfo, hone _ (List.getElem_mem hjl)] at ht
  have hjc : j < cs.toList.length := by simp; omega
  have htk : ((Value.agg cs).cells.toList.drop j).take 1 = [cs.toList[j]] := by
    show (cs.toList.drop j).take 1 = _
    rw [List.drop_eq_getElem_cons hjc]; rfl
  rw [htk] at ht
  have hjx : j < xs.length := by omega
  rw [List.getElem?_eq_getElem hjx] at ht
  simp only [Prod.mk.injEq] at hy
  refine ⟨cs.toList[j], List.getElem?_eq_getElem hjc, n, xs[j], ht, fun k hk => hsz k ?_⟩
  rw [hy.1]
  simp only [DataW.weights, hu]
  refine DataW.weights_mem_each (j := j) (t := tys[j]) (d := xs[j].1) ?_ ?_ k hk
  · rw [hty]; exact hj
  · rw [List.getElem?_map, List.getElem?_eq_getElem hjx]; rfl
end
end Go.Proofs.Ytaocnknofklmoaa.Flat
