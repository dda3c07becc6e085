/-
  Package grant: entry, the one read of an entry. (Written by gen_gmd.py.)
-/
import Derived.Test.YtibiianmpajabaaJ1
import Derived.IntWalk
import Derived.Handy
import Derived.Maps.OwnOps
import Derived.Maps.OwnSet
import Derived.Test.YtibiianmpajabaaJ6
set_option linter.unusedSimpArgs false
set_option linter.unusedVariables false
namespace Go.Proofs.Ytibiianmpajabaa
open Go.RowKit KM
set_option maxHeartbeats 1000000
set_option maxRecDepth 100000

theorem fresh_bg {w' : World} {S : Nat → Prop} {q : Option Addr} {b : List UInt8} (h : KeptBytes w' S q b) : BG w' q b := fun k hk => by
  rcases h with h | ⟨g, hq, _, hc⟩
  · rw [h] at hk; cases hk
  · exact ⟨g, 0, hq, by rw [Nat.zero_add]; exact hc k hk⟩
theorem unG_ok (b : Nat → Nat) (hb : ∀ k, b k < 256) (h : (unG b).2 = 0) : 0 ≤ (unG b).1.gpfn ∧ (unG b).1.gpfn < 65536 ∧ 0 ≤ (unG b).1.off ∧ 1 ≤ (unG b).1.len ∧ (unG b).1.off + (unG b).1.len ≤ 256 := by
  have h4 := hb 4; have h5 := hb 5; have h6 := hb 6; have h7 := hb 7
  unfold unG at h ⊢
  split
  · rename_i h1; rw [if_pos h1] at h; cases h
  · rename_i h1
    rw [if_neg h1] at h
    split
    · rename_i h2
      rw [if_pos h2] at h
      split
      · rename_i h3; rw [if_pos h3] at h; cases h
      · simp only; omega
    · simp only; omega
theorem unpG_ok (b : List UInt8) (h : (unpG b).2 = 0) : 0 ≤ (unpG b).1.gpfn ∧ (unpG b).1.gpfn < 65536 ∧ 0 ≤ (unpG b).1.off ∧ 1 ≤ (unpG b).1.len ∧ (unpG b).1.off + (unpG b).1.len ≤ 256 := by
  unfold unpG at h ⊢
  by_cases hl : b.length = 8
  · rw [if_pos hl] at h ⊢
    exact unG_ok _ (fun k => UInt8.toNat_lt _) h
  · rw [if_neg hl] at h; cases h
theorem entV_ok {b : List UInt8} {kind c : Int} {g : GV} (h : entV b kind c = some g) : 0 ≤ g.gpfn ∧ g.gpfn < 65536 ∧ 0 ≤ g.off ∧ 1 ≤ g.len ∧ g.off + g.len ≤ 256 := by
  unfold entV at h
  split at h
  · rename_i h1
    cases h
    exact unpG_ok b h1.1
  · cases h
def entRet : Option GV → Value
  | some g => .tuple #[.agg #[.int .i64 g.k, .bool g.ro, .bool g.sub, .int .i64 g.dom, .int .i64 g.gpfn, .int .i64 g.off, .int .i64 g.len], .int .i64 0]
  | none => .tuple #[.agg #[.int .i64 0, .bool false, .bool false, .int .i64 0, .int .i64 0, .int .i64 0, .int .i64 0], .int .i64 60]
/-- what an entry's bytes are behind the rewrites that are due -/
def Gs.entB (s : Gs) (d r : Int) : List UInt8 := (s.M.read (s.table d) (8 * r) 8).1
def Gs.due (s : Gs) (l : List PokeV) (n : Nat) : Gs := s.setM (s.M.rews (Go.Proofs.Ytibiianmpajabaa.due l n))
section
variable {w : World} {X B G : Nat} {pm : Nat → Nat × Nat × Nat} {np : Nat} {s : Gs} {T : Nat} {V Gv : Nat} {S : Nat → Prop} {l : List PokeV} {n : Nat}
/-- a call that may have read once through the view -/
structure GR (w : World) (X B G : Nat) (pm : Nat → Nat × Nat × Nat) (np : Nat) (s' : Gs) (T' : Nat) (V Gv : Nat) (S : Nat → Prop) (l : List PokeV) (n' : Nat) (w' : World) : Prop where
  a : GW w' X B G pm np s' T' V Gv S l n'
  c : Chg (avfoot X B G pm np V Gv) w w'
theorem GW.fresh (h : GW w X B G pm np s T V Gv S l n) {b : Nat} (hb : w.heap.size ≤ b) : ¬ gfoot X B G pm np b ∧ ¬ vfoot V Gv S b ∧ ¬ avfoot X B G pm np V Gv b := by
  obtain ⟨f, hv⟩ := h.v
  have h1 : ¬ gfoot X B G pm np b := fun e => by have := h.a.lt e; omega
  have h2 : ¬ vfoot V Gv S b := fun e => by have := hv.foot_lt e; omega
  exact ⟨h1, h2, fun e => by
    rcases e with e | e | e
    · exact h1 e
    · exact h2 (.inl e)
    · exact h2 (.inr (.inl e))⟩
theorem GW.own (h : GW w X B G pm np s T V Gv S l n) {b : Nat} (hb : ¬ gfoot X B G pm np b) (hv : ¬ vfoot V Gv S b) {w' : World} (hg : w.grownBy w' (some b)) : GW w' X B G pm np s T V Gv S l n := by
  obtain ⟨f, hf⟩ := h.v
  have hc : Chg (fun k => k = b) w w' := Chg.of hg fun j e => .inl (Option.some.inj e).symm
  exact ⟨h.a.chg hc fun k hk e => hb (e ▸ hk), ⟨f, hf.chg hc fun k hk e => hv (e ▸ hk)⟩, h.ap⟩
theorem GR.own {s' : Gs} {T' n' : Nat} {w1 w2 : World} (h0 : GW w X B G pm np s T V Gv S l n) (h : GR w X B G pm np s' T' V Gv S l n' w1) {b : Nat} (hb : w.heap.size ≤ b) (hg : w1.grownBy w2 (some b)) : GR w X B G pm np s' T' V Gv S l n' w2 := by
  obtain ⟨a, b', c⟩ := h0.fresh hb
  exact ⟨h.a.own a b' hg, h.c.trans (Chg.of (S := fun k => k = b) hg fun j e => .inl (Option.some.inj e).symm) fun k e => .inr (e ▸ hb)⟩
theorem GR.grown {s' : Gs} {T' n' : Nat} {w1 w2 : World} (h : GR w X B G pm np s' T' V Gv S l n' w1) (hg : w1.grownBy w2 none) : GR w X B G pm np s' T' V Gv S l n' w2 :=
  ⟨h.a.grown hg, h.c.trans (Chg.of0 (S := fun _ => False) hg) fun _ e => e.elim⟩
theorem GW.mono (h : GW w X B G pm np s T V Gv S l n) {T' : Nat} (hT : T ≤ T') : GW w X B G pm np s T' V Gv S l n := ⟨h.a.mono hT, h.v, h.ap⟩
theorem GR.mono {s' : Gs} {T' T'' n' : Nat} {w1 : World} (h : GR w X B G pm np s' T' V Gv S l n' w1) (hT : T' ≤ T'') : GR w X B G pm np s' T'' V Gv S l n' w1 := ⟨h.a.mono hT, h.c⟩
/-- ahead of it memory was made -/
theorem GR.first {s' : Gs} {T' n' : Nat} {w1 w2 : World} (h0 : GW w X B G pm np s T V Gv S l n) (hg : w.grownBy w1 none) (h : GR w1 X B G pm np s' T' V Gv S l n' w2) : GR w X B G pm np s' T' V Gv S l n' w2 :=
  ⟨h.a, (Chg.of0 (S := avfoot X B G pm np V Gv) hg).trans h.c fun _ e => .inl e⟩
theorem GR.mach {s' : Gs} {T' n' : Nat} {w1 w2 : World} {M' : Mach} (h : GR w X B G pm np s' T' V Gv S l n' w1) (hm : PM w2 B M') (hg : w1.grownBy w2 (some B)) : GR w X B G pm np (s'.setM M') T' V Gv S l n' w2 :=
  ⟨h.a.left (h.a.a.mach hm hg) (Chg.of hg fun j e => .inl (.inr (.inl (Option.some.inj e).symm))), h.c.trans (Chg.of (S := fun k => k = B) hg fun j e => .inl (Option.some.inj e).symm) fun k e => .inl (.inl (.inr (.inl e)))⟩
theorem GR.lives {s' : Gs} {T' n' : Nat} {w1 w2 : World} (h : GR w X B G pm np s' T' V Gv S l n' w1) (k : Int × Int) (a : Mpd) (hm : KM.KMap Try.prog 192 KM.key2 mpd0.val w2 G (T' + 1) (fun i => if i = k then some a.val else (s'.g.mp i).map Mpd.val)) (hg : w1.grownBy w2 (some G)) : GR w X B G pm np ⟨s'.M, s'.P, s'.g.setMp k (some a)⟩ (T' + 1) V Gv S l n' w2 :=
  ⟨h.a.left (h.a.a.live (Nat.le_succ _) (hm.congr fun i => by simp only [Gst.setMp]; by_cases e : i = k <;> simp [e]) rfl hg) (Chg.of hg fun j e => .inl (.inr (.inr (.inl (Option.some.inj e).symm)))), h.c.trans (Chg.of (S := fun k => k = G) hg fun j e => .inl (Option.some.inj e).symm) fun k e => .inl (.inl (.inr (.inr (.inl e))))⟩
theorem gEntry (h : GW w X B G pm np s T V Gv S l n) {K : Int} (hok : s.M.ok K) (hl : ∀ p ∈ l, p.fits) (hll : l.length ≤ 64) (hn : (n : Int) < 9223372036854775807) (d : Nat) (hd : d < 8) (t : Int) (i : Nat) (hm : s.g.mem d = some (t, i)) (ht0 : 0 ≤ t) (ht1 : t < s.M.n) (r : Nat) (hr : r < 32) (kind c : Int) (R : Option GV) (hR : entV ((s.due l n).entB d r) kind c = R) :
    Calls Try.prog 108 #[.pointer (some ⟨X, 0, none⟩), .pointer (some ⟨V, 0, none⟩), .agg #[.int .i64 d, .int .i64 r], .int .i64 kind, .int .i64 c] w fun e w' =>
      e = .returned (entRet R) ∧ GR w X B G pm np (s.due l n) T V Gv S l (n + 1) w' := by
  obtain ⟨W1, hW1⟩ : ∃ W, w.alloc (.cells #[.int .i64 d, .int .i64 r] 186) = W := ⟨_, rfl⟩
  obtain ⟨W2, hW2⟩ : ∃ W, W1.alloc (.cells #[.int .i64 0, .bool false, .bool false, .int .i64 0, .int .i64 0, .int .i64 0, .int .i64 0] 77) = W := ⟨_, rfl⟩
  have hg1 : w.grownBy W1 none := hW1 ▸ World.grownBy_alloc _ _ none
  have hg2 : W1.grownBy W2 none := hW2 ▸ World.grownBy_alloc _ _ none
  have hg3 := (hg1.trans hg2).trans (grownBy_drew W2 none)
  have s1 : W1.heap.size = w.heap.size + 1 := by rw [← hW1]; simp
  have q0 : W2.cell? ⟨w.heap.size, 0, none⟩ = some (.int .i64 d) := hg2.cell (by rw [← hW1]; simp [go_sem]) (by simp)
  have q1 : W2.cell? ⟨w.heap.size, 1, none⟩ = some (.int .i64 r) := hg2.cell (by rw [← hW1]; simp [go_sem]) (by simp)
  have hA2 := h.grown hg3
  have c1 : W2.cell? ⟨X, 1 + d * 2, none⟩ = some (.int .i64 t) := by have := (h.a.grown (hg1.trans hg2)).tbl hd; rw [hm] at this; exact this
  have HCw := hid (Chg.of0 (S := avfoot X B G pm np V Gv) hg3)
  have HR : Hid (Calls Try.prog 80 #[.pointer (some ⟨V, 0, none⟩), .int .i64 t, .int .i64 (8 * (r : Int)), .int .i64 8] W2.drew fun e w' => ∃ v, e = .returned (.tuple #[v, .int .i64 0]) ∧ FreshB W2.drew ((s.due l n).entB d r) v w' ∧ VRead W2.drew V Gv B S l n l.length s.M w') := by
    obtain ⟨f, hv⟩ := hA2.v
    refine hid ((vRead V Gv B S l n l.length f t (8 * (r : Int)) 8 W2.drew s.M K hv hA2.a.m hok hl hn hll (by omega)).mono fun e w' ⟨v, he, h1, h2⟩ => ⟨v, ?_, ?_, h2⟩)
    · rw [he, read_good (by rw [Mach.is_iff, Mach.rews_n]; exact ⟨ht0, ht1⟩) (inP_yes (by omega) (by omega) (by omega))]
    · have e1 : s.table d = t := by unfold Gs.table; rw [Int.toNat_natCast, hm]
      unfold Gs.entB
      rw [show (s.due l n).table d = t from e1]
      exact h1
  have HG2 := hid hA2
  have HNs := hid (h.fresh (Nat.le_refl w.heap.size)).2.2
  have HRs := hid (show Row W2.drew w.heap.size 186 2 (fun k => if k = 0 then .int .i64 d else .int .i64 r) from Row.grown (Gen.Row.new w #[.int .i64 d, .int .i64 r] 186 2 _ (by simp) (fun k hk => by match k, hk with | 0, _ => rfl | 1, _ => rfl) : Row (w.alloc (.cells #[.int .i64 d, .int .i64 r] 186)) w.heap.size 186 2 _) (hW1 ▸ hg2.trans (grownBy_drew W2 none)) (by simp))
  have HTb := hid (fun w' (h' : GW w' X B G pm np (s.setM (s.M.rews (Go.Proofs.Ytibiianmpajabaa.due l n))) T V Gv S l (n + 1)) => (by have := h'.a.tbl hd; rw [show (s.setM (s.M.rews (Go.Proofs.Ytibiianmpajabaa.due l n))).g.mem d = some (t, i) from hm] at this; exact this : w'.cell? ⟨X, 1 + d * 2, none⟩ = some (.int .i64 t)))
  replace q0 : W2.drew.cell? ⟨w.heap.size, 0, none⟩ = some (.int .i64 d) := q0
  replace q1 : W2.drew.cell? ⟨w.heap.size, 1, none⟩ = some (.int .i64 r) := q1
  replace c1 : W2.drew.cell? ⟨X, 1 + d * 2, none⟩ = some (.int .i64 t) := c1
  have H0 := hid h
  have HSz := hid (show w.heap.size ≤ W1.heap.size by omega)
  have HNa := hid (h.fresh HSz.out).2.2
  have HRw := hid (show Row W2.drew W1.heap.size 77 7 (sevV (.int .i64 0) (.bool false) (.bool false) (.int .i64 0) (.int .i64 0) (.int .i64 0) (.int .i64 0)) from (hW2 ▸ rowB W1 _ _ _ _ _ _ _ : Row W2 W1.heap.size 77 7 _))
  have hr0 : (0 : Int) ≤ r := by omega
  have hr1 : (r : Int) ≤ 31 := by omega
  have hd0 : (0 : Int) ≤ d := by omega
  have hd1 : (d : Int) < 8 := by omega
  have hX : X < W2.heap.size := (h.a.grown (hg1.trans hg2)).top.lt
  obtain ⟨bs, hbs⟩ : ∃ bs, (s.due l n).entB d r = bs := ⟨_, rfl⟩
  rw [hbs] at HR hR
  obtain ⟨⟨⟨k, ro, sub, dm, p, off, ln⟩, x⟩, hu⟩ : ∃ y, unpG bs = y := ⟨_, rfl⟩
  clear h hok hl hll hn hm hg1 hg2 hg3 hA2 hbs ht0 ht1 hr hd s1
  have HW1 := hid hW1
  by_cases hx : x = 0
  · subst hx
    by_cases hk : k = kind
    · subst hk
      by_cases hc : dm = c
      · subst hc
        have hR' : R = some ⟨k, ro, sub, dm, p, off, ln⟩ := by rw [← hR]; unfold entV; rw [hu]; simp
        subst hR'
        have hb1 : (k != k) = false := by simp
        have hb2 : (dm != dm) = false := by simp
        clear hR
        simp only [entRet]
        have HU := hid (fun w' q k (hb : BG w' q bs) => (gPn bs q k w' hb))
        rw [hu] at HU
        simp only [GV.val] at HU
        clear hu
        go_enter Try.func108, Try.ntmps108
        go_wp2_with fail
        have hwr : IntKind.i64.wrap (8 * (r : Int)) = 8 * (r : Int) := IntWalk.i64_in _ (by omega)
        go_region_held3 (fun w' => w'.cell? ⟨w.heap.size, 0, none⟩ = some (.int .i64 d) ∧ w'.cell? ⟨w.heap.size, 1, none⟩ = some (.int .i64 r) ∧ w'.cell? ⟨X, 1 + d * 2, none⟩ = some (.int .i64 t)) (first | exact ⟨by assumption, by assumption, by assumption⟩ | go_keep)
          (first
            | (go_at_call 80; (with_reducible refine HR.out.mono ?_); rintro e w3 ⟨v, rfl, ⟨q, cp, rfl, hq⟩, hr⟩; have HG3 := hid (HG2.out.read hr); have HC3 := hid (GW.readChg (X := X) (B := B) (G := G) (pm := pm) (np := np) hr); have HB := hid (fresh_bg hq); have HRs3 := Row.chg HRs.out HC3.out HNs.out; have HRw3 := hid (Row.chg HRw.out HC3.out HNa.out); have q0 := HRs3.cell (k := 0) (by omega); have q1 := HRs3.cell (k := 1) (by omega); have c1 := HTb.out _ HG3.out; clear hr hq HRs3))
        go_wp2_with (first
          | (go_at_call 137; refine (HU.out _ _ _ HB.out).mono ?_; rintro e w4 ⟨rfl, g4⟩; have HG4 := hid (HG3.out.grown g4); have HRw4 := hid (Row.grown HRw3.out g4 (by simp)); have HC4 := hid ((HCw.out.trans HC3.out fun _ e => .inl e).trans (Chg.of0 (S := fun _ => False) g4) fun _ e => e.elim); have G4 := hid g4; have z0 := fun ob => (Row.alloc HRw4.out ob).cell (k := 0) (by omega); have z1 := fun ob => (Row.alloc HRw4.out ob).cell (k := 1) (by omega); have z2 := fun ob => (Row.alloc HRw4.out ob).cell (k := 2) (by omega); have z3 := fun ob => (Row.alloc HRw4.out ob).cell (k := 3) (by omega); have z4 := fun ob => (Row.alloc HRw4.out ob).cell (k := 4) (by omega); have z5 := fun ob => (Row.alloc HRw4.out ob).cell (k := 5) (by omega); have z6 := fun ob => (Row.alloc HRw4.out ob).cell (k := 6) (by omega); have zf := fun ob k => (Row.alloc HRw4.out ob).frozen k; simp only [sevV, List.getD_cons_zero, List.getD_cons_succ] at z0 z1 z2 z3 z4 z5 z6; clear g4))
        obtain ⟨XX, hXX⟩ : ∃ XX, w4.alloc (Obj.cells #[.int .i64 k, .bool ro, .bool sub, .int .i64 dm, .int .i64 p, .int .i64 off, .int .i64 ln] 77) = XX := ⟨_, rfl⟩
        have rs := set7 (hXX ▸ Row.alloc HRw4.out _ : Row XX W1.heap.size 77 7 _) (.int .i64 k) (.bool ro) (.bool sub) (.int .i64 dm) (.int .i64 p) (.int .i64 off) (.int .i64 ln)
        have gs := set7_grown XX W1.heap.size (.int .i64 k) (.bool ro) (.bool sub) (.int .i64 dm) (.int .i64 p) (.int .i64 off) (.int .i64 ln)
        have hE : w4.grownBy _ (some W1.heap.size) := (hXX ▸ World.grownBy_alloc _ _ _ : w4.grownBy XX (some W1.heap.size)).trans gs
        rw [hXX]
        clear z0 z1 z2 z3 z4 z5 z6 zf hXX gs
        generalize (((((((XX.setCell ⟨W1.heap.size, 0, none⟩ (.int .i64 k)).setCell ⟨W1.heap.size, 1, none⟩ (.bool ro)).setCell ⟨W1.heap.size, 2, none⟩ (.bool sub)).setCell ⟨W1.heap.size, 3, none⟩ (.int .i64 dm)).setCell ⟨W1.heap.size, 4, none⟩ (.int .i64 p)).setCell ⟨W1.heap.size, 5, none⟩ (.int .i64 off)).setCell ⟨W1.heap.size, 6, none⟩ (.int .i64 ln)) = W9 at *
        have z0 := rs.cell (k := 0) (by omega); have z1 := rs.cell (k := 1) (by omega); have z2 := rs.cell (k := 2) (by omega); have z3 := rs.cell (k := 3) (by omega); have z4 := rs.cell (k := 4) (by omega); have z5 := rs.cell (k := 5) (by omega); have z6 := rs.cell (k := 6) (by omega)
        simp only [sevV, List.getD_cons_zero, List.getD_cons_succ] at z0 z1 z2 z3 z4 z5 z6
        clear rs
        refine bodyPost_ret (v := .tuple #[.agg #[.int .i64 k, .bool ro, .bool sub, .int .i64 dm, .int .i64 p, .int .i64 off, .int .i64 ln], .int .i64 0]) (by simp [results, Try.results108, go_sem, z0, z1, z2, z3, z4, z5, z6]) rfl ⟨rfl, GR.own H0.out ⟨HG4.out, HC4.out⟩ HSz.out hE⟩
      · have hR' : R = none := by rw [← hR]; unfold entV; rw [hu]; simp [hc]
        subst hR'
        have hb1 : (k != k) = false := by simp
        have hb2 : (dm != c) = true := by simpa using hc
        clear hR hc
        simp only [entRet]
        have HU := hid (fun w' q k (hb : BG w' q bs) => (gPn bs q k w' hb))
        rw [hu] at HU
        simp only [GV.val] at HU
        clear hu
        go_enter Try.func108, Try.ntmps108
        go_wp2_with fail
        have hwr : IntKind.i64.wrap (8 * (r : Int)) = 8 * (r : Int) := IntWalk.i64_in _ (by omega)
        go_region_held3 (fun w' => w'.cell? ⟨w.heap.size, 0, none⟩ = some (.int .i64 d) ∧ w'.cell? ⟨w.heap.size, 1, none⟩ = some (.int .i64 r) ∧ w'.cell? ⟨X, 1 + d * 2, none⟩ = some (.int .i64 t)) (first | exact ⟨by assumption, by assumption, by assumption⟩ | go_keep)
          (first
            | (go_at_call 80; (with_reducible refine HR.out.mono ?_); rintro e w3 ⟨v, rfl, ⟨q, cp, rfl, hq⟩, hr⟩; have HG3 := hid (HG2.out.read hr); have HC3 := hid (GW.readChg (X := X) (B := B) (G := G) (pm := pm) (np := np) hr); have HB := hid (fresh_bg hq); have HRs3 := Row.chg HRs.out HC3.out HNs.out; have HRw3 := hid (Row.chg HRw.out HC3.out HNa.out); have q0 := HRs3.cell (k := 0) (by omega); have q1 := HRs3.cell (k := 1) (by omega); have c1 := HTb.out _ HG3.out; clear hr hq HRs3))
        go_wp2_with (first
          | (go_at_call 137; refine (HU.out _ _ _ HB.out).mono ?_; rintro e w4 ⟨rfl, g4⟩; have HG4 := hid (HG3.out.grown g4); have HRw4 := hid (Row.grown HRw3.out g4 (by simp)); have HC4 := hid ((HCw.out.trans HC3.out fun _ e => .inl e).trans (Chg.of0 (S := fun _ => False) g4) fun _ e => e.elim); have G4 := hid g4; have z0 := fun ob => (Row.alloc HRw4.out ob).cell (k := 0) (by omega); have z1 := fun ob => (Row.alloc HRw4.out ob).cell (k := 1) (by omega); have z2 := fun ob => (Row.alloc HRw4.out ob).cell (k := 2) (by omega); have z3 := fun ob => (Row.alloc HRw4.out ob).cell (k := 3) (by omega); have z4 := fun ob => (Row.alloc HRw4.out ob).cell (k := 4) (by omega); have z5 := fun ob => (Row.alloc HRw4.out ob).cell (k := 5) (by omega); have z6 := fun ob => (Row.alloc HRw4.out ob).cell (k := 6) (by omega); have zf := fun ob k => (Row.alloc HRw4.out ob).frozen k; simp only [sevV, List.getD_cons_zero, List.getD_cons_succ] at z0 z1 z2 z3 z4 z5 z6; clear g4))
        obtain ⟨XX, hXX⟩ : ∃ XX, w4.alloc (Obj.cells #[.int .i64 k, .bool ro, .bool sub, .int .i64 dm, .int .i64 p, .int .i64 off, .int .i64 ln] 77) = XX := ⟨_, rfl⟩
        have rs := set7 (hXX ▸ Row.alloc HRw4.out _ : Row XX W1.heap.size 77 7 _) (.int .i64 0) (.bool false) (.bool false) (.int .i64 0) (.int .i64 0) (.int .i64 0) (.int .i64 0)
        have gs := set7_grown XX W1.heap.size (.int .i64 0) (.bool false) (.bool false) (.int .i64 0) (.int .i64 0) (.int .i64 0) (.int .i64 0)
        have hE : w4.grownBy _ (some W1.heap.size) := (hXX ▸ World.grownBy_alloc _ _ _ : w4.grownBy XX (some W1.heap.size)).trans gs
        rw [hXX]
        clear z0 z1 z2 z3 z4 z5 z6 zf hXX gs
        generalize (((((((XX.setCell ⟨W1.heap.size, 0, none⟩ (.int .i64 0)).setCell ⟨W1.heap.size, 1, none⟩ (.bool false)).setCell ⟨W1.heap.size, 2, none⟩ (.bool false)).setCell ⟨W1.heap.size, 3, none⟩ (.int .i64 0)).setCell ⟨W1.heap.size, 4, none⟩ (.int .i64 0)).setCell ⟨W1.heap.size, 5, none⟩ (.int .i64 0)).setCell ⟨W1.heap.size, 6, none⟩ (.int .i64 0)) = W9 at *
        have z0 := rs.cell (k := 0) (by omega); have z1 := rs.cell (k := 1) (by omega); have z2 := rs.cell (k := 2) (by omega); have z3 := rs.cell (k := 3) (by omega); have z4 := rs.cell (k := 4) (by omega); have z5 := rs.cell (k := 5) (by omega); have z6 := rs.cell (k := 6) (by omega)
        simp only [sevV, List.getD_cons_zero, List.getD_cons_succ] at z0 z1 z2 z3 z4 z5 z6
        clear rs
        refine bodyPost_ret (v := .tuple #[.agg #[.int .i64 0, .bool false, .bool false, .int .i64 0, .int .i64 0, .int .i64 0, .int .i64 0], .int .i64 60]) (by simp [results, Try.results108, go_sem, z0, z1, z2, z3, z4, z5, z6]) rfl ⟨rfl, GR.own H0.out ⟨HG4.out, HC4.out⟩ HSz.out hE⟩
    · have hR' : R = none := by rw [← hR]; unfold entV; rw [hu]; simp [hk]
      subst hR'
      have hb1 : (k != kind) = true := by simpa using hk
      clear hR hk
      simp only [entRet]
      have HU := hid (fun w' q k (hb : BG w' q bs) => (gPn bs q k w' hb))
      rw [hu] at HU
      simp only [GV.val] at HU
      clear hu
      go_enter Try.func108, Try.ntmps108
      go_wp2_with fail
      have hwr : IntKind.i64.wrap (8 * (r : Int)) = 8 * (r : Int) := IntWalk.i64_in _ (by omega)
      go_region_held3 (fun w' => w'.cell? ⟨w.heap.size, 0, none⟩ = some (.int .i64 d) ∧ w'.cell? ⟨w.heap.size, 1, none⟩ = some (.int .i64 r) ∧ w'.cell? ⟨X, 1 + d * 2, none⟩ = some (.int .i64 t)) (first | exact ⟨by assumption, by assumption, by assumption⟩ | go_keep)
        (first
          | (go_at_call 80; (with_reducible refine HR.out.mono ?_); rintro e w3 ⟨v, rfl, ⟨q, cp, rfl, hq⟩, hr⟩; have HG3 := hid (HG2.out.read hr); have HC3 := hid (GW.readChg (X := X) (B := B) (G := G) (pm := pm) (np := np) hr); have HB := hid (fresh_bg hq); have HRs3 := Row.chg HRs.out HC3.out HNs.out; have HRw3 := hid (Row.chg HRw.out HC3.out HNa.out); have q0 := HRs3.cell (k := 0) (by omega); have q1 := HRs3.cell (k := 1) (by omega); have c1 := HTb.out _ HG3.out; clear hr hq HRs3))
      go_wp2_with (first
        | (go_at_call 137; refine (HU.out _ _ _ HB.out).mono ?_; rintro e w4 ⟨rfl, g4⟩; have HG4 := hid (HG3.out.grown g4); have HRw4 := hid (Row.grown HRw3.out g4 (by simp)); have HC4 := hid ((HCw.out.trans HC3.out fun _ e => .inl e).trans (Chg.of0 (S := fun _ => False) g4) fun _ e => e.elim); have G4 := hid g4; have z0 := fun ob => (Row.alloc HRw4.out ob).cell (k := 0) (by omega); have z1 := fun ob => (Row.alloc HRw4.out ob).cell (k := 1) (by omega); have z2 := fun ob => (Row.alloc HRw4.out ob).cell (k := 2) (by omega); have z3 := fun ob => (Row.alloc HRw4.out ob).cell (k := 3) (by omega); have z4 := fun ob => (Row.alloc HRw4.out ob).cell (k := 4) (by omega); have z5 := fun ob => (Row.alloc HRw4.out ob).cell (k := 5) (by omega); have z6 := fun ob => (Row.alloc HRw4.out ob).cell (k := 6) (by omega); have zf := fun ob k => (Row.alloc HRw4.out ob).frozen k; simp only [sevV, List.getD_cons_zero, List.getD_cons_succ] at z0 z1 z2 z3 z4 z5 z6; clear g4))
      obtain ⟨XX, hXX⟩ : ∃ XX, w4.alloc (Obj.cells #[.int .i64 k, .bool ro, .bool sub, .int .i64 dm, .int .i64 p, .int .i64 off, .int .i64 ln] 77) = XX := ⟨_, rfl⟩
      have rs := set7 (hXX ▸ Row.alloc HRw4.out _ : Row XX W1.heap.size 77 7 _) (.int .i64 0) (.bool false) (.bool false) (.int .i64 0) (.int .i64 0) (.int .i64 0) (.int .i64 0)
      have gs := set7_grown XX W1.heap.size (.int .i64 0) (.bool false) (.bool false) (.int .i64 0) (.int .i64 0) (.int .i64 0) (.int .i64 0)
      have hE : w4.grownBy _ (some W1.heap.size) := (hXX ▸ World.grownBy_alloc _ _ _ : w4.grownBy XX (some W1.heap.size)).trans gs
      rw [hXX]
      clear z0 z1 z2 z3 z4 z5 z6 zf hXX gs
      generalize (((((((XX.setCell ⟨W1.heap.size, 0, none⟩ (.int .i64 0)).setCell ⟨W1.heap.size, 1, none⟩ (.bool false)).setCell ⟨W1.heap.size, 2, none⟩ (.bool false)).setCell ⟨W1.heap.size, 3, none⟩ (.int .i64 0)).setCell ⟨W1.heap.size, 4, none⟩ (.int .i64 0)).setCell ⟨W1.heap.size, 5, none⟩ (.int .i64 0)).setCell ⟨W1.heap.size, 6, none⟩ (.int .i64 0)) = W9 at *
      have z0 := rs.cell (k := 0) (by omega); have z1 := rs.cell (k := 1) (by omega); have z2 := rs.cell (k := 2) (by omega); have z3 := rs.cell (k := 3) (by omega); have z4 := rs.cell (k := 4) (by omega); have z5 := rs.cell (k := 5) (by omega); have z6 := rs.cell (k := 6) (by omega)
      simp only [sevV, List.getD_cons_zero, List.getD_cons_succ] at z0 z1 z2 z3 z4 z5 z6
      clear rs
      refine bodyPost_ret (v := .tuple #[.agg #[.int .i64 0, .bool false, .bool false, .int .i64 0, .int .i64 0, .int .i64 0, .int .i64 0], .int .i64 60]) (by simp [results, Try.results108, go_sem, z0, z1, z2, z3, z4, z5, z6]) rfl ⟨rfl, GR.own H0.out ⟨HG4.out, HC4.out⟩ HSz.out hE⟩
  · have hR' : R = none := by rw [← hR]; unfold entV; rw [hu]; simp [hx]
    subst hR'
    have hb1 : (x != 0) = true := by simpa using hx
    clear hR hx
    simp only [entRet]
    have HU := hid (fun w' q k (hb : BG w' q bs) => (gPn bs q k w' hb))
    rw [hu] at HU
    simp only [GV.val] at HU
    clear hu
    go_enter Try.func108, Try.ntmps108
    go_wp2_with fail
    have hwr : IntKind.i64.wrap (8 * (r : Int)) = 8 * (r : Int) := IntWalk.i64_in _ (by omega)
    go_region_held3 (fun w' => w'.cell? ⟨w.heap.size, 0, none⟩ = some (.int .i64 d) ∧ w'.cell? ⟨w.heap.size, 1, none⟩ = some (.int .i64 r) ∧ w'.cell? ⟨X, 1 + d * 2, none⟩ = some (.int .i64 t)) (first | exact ⟨by assumption, by assumption, by assumption⟩ | go_keep)
      (first
        | (go_at_call 80; (with_reducible refine HR.out.mono ?_); rintro e w3 ⟨v, rfl, ⟨q, cp, rfl, hq⟩, hr⟩; have HG3 := hid (HG2.out.read hr); have HC3 := hid (GW.readChg (X := X) (B := B) (G := G) (pm := pm) (np := np) hr); have HB := hid (fresh_bg hq); have HRs3 := Row.chg HRs.out HC3.out HNs.out; have HRw3 := hid (Row.chg HRw.out HC3.out HNa.out); have q0 := HRs3.cell (k := 0) (by omega); have q1 := HRs3.cell (k := 1) (by omega); have c1 := HTb.out _ HG3.out; clear hr hq HRs3))
    go_wp2_with (first
      | (go_at_call 137; refine (HU.out _ _ _ HB.out).mono ?_; rintro e w4 ⟨rfl, g4⟩; have HG4 := hid (HG3.out.grown g4); have HRw4 := hid (Row.grown HRw3.out g4 (by simp)); have HC4 := hid ((HCw.out.trans HC3.out fun _ e => .inl e).trans (Chg.of0 (S := fun _ => False) g4) fun _ e => e.elim); have G4 := hid g4; have z0 := fun ob => (Row.alloc HRw4.out ob).cell (k := 0) (by omega); have z1 := fun ob => (Row.alloc HRw4.out ob).cell (k := 1) (by omega); have z2 := fun ob => (Row.alloc HRw4.out ob).cell (k := 2) (by omega); have z3 := fun ob => (Row.alloc HRw4.out ob).cell (k := 3) (by omega); have z4 := fun ob => (Row.alloc HRw4.out ob).cell (k := 4) (by omega); have z5 := fun ob => (Row.alloc HRw4.out ob).cell (k := 5) (by omega); have z6 := fun ob => (Row.alloc HRw4.out ob).cell (k := 6) (by omega); have zf := fun ob k => (Row.alloc HRw4.out ob).frozen k; simp only [sevV, List.getD_cons_zero, List.getD_cons_succ] at z0 z1 z2 z3 z4 z5 z6; clear g4))
    obtain ⟨XX, hXX⟩ : ∃ XX, w4.alloc (Obj.cells #[.int .i64 k, .bool ro, .bool sub, .int .i64 dm, .int .i64 p, .int .i64 off, .int .i64 ln] 77) = XX := ⟨_, rfl⟩
    have rs := set7 (hXX ▸ Row.alloc HRw4.out _ : Row XX W1.heap.size 77 7 _) (.int .i64 0) (.bool false) (.bool false) (.int .i64 0) (.int .i64 0) (.int .i64 0) (.int .i64 0)
    have gs := set7_grown XX W1.heap.size (.int .i64 0) (.bool false) (.bool false) (.int .i64 0) (.int .i64 0) (.int .i64 0) (.int .i64 0)
    have hE : w4.grownBy _ (some W1.heap.size) := (hXX ▸ World.grownBy_alloc _ _ _ : w4.grownBy XX (some W1.heap.size)).trans gs
    rw [hXX]
    clear z0 z1 z2 z3 z4 z5 z6 zf hXX gs
    generalize (((((((XX.setCell ⟨W1.heap.size, 0, none⟩ (.int .i64 0)).setCell ⟨W1.heap.size, 1, none⟩ (.bool false)).setCell ⟨W1.heap.size, 2, none⟩ (.bool false)).setCell ⟨W1.heap.size, 3, none⟩ (.int .i64 0)).setCell ⟨W1.heap.size, 4, none⟩ (.int .i64 0)).setCell ⟨W1.heap.size, 5, none⟩ (.int .i64 0)).setCell ⟨W1.heap.size, 6, none⟩ (.int .i64 0)) = W9 at *
    have z0 := rs.cell (k := 0) (by omega); have z1 := rs.cell (k := 1) (by omega); have z2 := rs.cell (k := 2) (by omega); have z3 := rs.cell (k := 3) (by omega); have z4 := rs.cell (k := 4) (by omega); have z5 := rs.cell (k := 5) (by omega); have z6 := rs.cell (k := 6) (by omega)
    simp only [sevV, List.getD_cons_zero, List.getD_cons_succ] at z0 z1 z2 z3 z4 z5 z6
    clear rs
    refine bodyPost_ret (v := .tuple #[.agg #[.int .i64 0, .bool false, .bool false, .int .i64 0, .int .i64 0, .int .i64 0, .int .i64 0], .int .i64 60]) (by simp [results, Try.results108, go_sem, z0, z1, z2, z3, z4, z5, z6]) rfl ⟨rfl, GR.own H0.out ⟨HG4.out, HC4.out⟩ HSz.out hE⟩
end
end Go.Proofs.Ytibiianmpajabaa

/-
  Package grant: Map. (Written by gen_gme.py.)
-/
set_option linter.unusedSimpArgs false
set_option linter.unusedVariables false
namespace Go.Proofs.Ytibiianmpajabaa
open Go.RowKit KM
set_option maxHeartbeats 1000000
set_option maxRecDepth 100000

section
variable {w : World} {X B G : Nat} {pm : Nat → Nat × Nat × Nat} {np : Nat} {s : Gs} {T : Nat} {V Gv : Nat} {S : Nat → Prop} {l : List PokeV} {n : Nat}
theorem GW.c0 (h : GW w X B G pm np s T V Gv S l n) : w.cell? ⟨X, 0, none⟩ = some (.pointer (some ⟨B, 0, none⟩)) := h.a.c0
theorem gMap_arg (h : GW w X B G pm np s T V Gv S l n) (c o r : Int) (wr : Bool) (hb : (gdom c && s.g.slot o r) = false) :
    Calls Try.prog 37 #[.pointer (some ⟨X, 0, none⟩), .pointer (some ⟨V, 0, none⟩), .int .i64 c, .int .i64 o, .int .i64 r, .bool wr] w fun e w' => e = .returned (.tuple #[.int .i64 0, .int .i64 1]) ∧ w = w' := by
  have c0 := h.c0
  obtain ⟨f, hv⟩ := h.v
  have HV := hid (gIsView_yes V Gv B S l n l.length f w hv)
  have HS := hid (gSlot h.a o r)
  cases hd : gdom c with
  | false =>
    have HD := hid (gIsDom_no c w hd)
    clear h hv hb hd
    go_enter Try.func37, Try.ntmps37
    go_wp2_with (first
      | (go_at_call 103; refine (gMade_yes X B _ c0).mono ?_; rintro e w' ⟨rfl, rfl⟩)
      | (go_at_call 104; refine HV.out.mono ?_; rintro e w' ⟨rfl, rfl⟩)
      | (go_at_call 105; refine HD.out.mono ?_; rintro e w' ⟨rfl, rfl⟩))
    go_ret2
    exact ⟨rfl, rfl⟩
  | true =>
    have HD := hid (gIsDom_yes c w hd)
    have hs : s.g.slot o r = false := by rw [hd] at hb; simpa using hb
    rw [hs] at HS
    clear h hv hb hd hs
    go_enter Try.func37, Try.ntmps37
    go_wp2_with (first
      | (go_at_call 103; refine (gMade_yes X B _ c0).mono ?_; rintro e w' ⟨rfl, rfl⟩)
      | (go_at_call 104; refine HV.out.mono ?_; rintro e w' ⟨rfl, rfl⟩)
      | (go_at_call 105; refine HD.out.mono ?_; rintro e w' ⟨rfl, rfl⟩)
      | (go_at_call 106; refine HS.out.mono ?_; rintro e w' ⟨rfl, rfl⟩))
    go_ret2
    exact ⟨rfl, rfl⟩
theorem gMap_full (h : GW w X B G pm np s T V Gv S l n) (c o r : Int) (wr : Bool) (hd : gdom c = true) (hs : s.g.slot o r = true) (hx : s.g.free c = none) :
    Calls Try.prog 37 #[.pointer (some ⟨X, 0, none⟩), .pointer (some ⟨V, 0, none⟩), .int .i64 c, .int .i64 o, .int .i64 r, .bool wr] w fun e w' => e = .returned (.tuple #[.int .i64 0, .int .i64 64]) ∧ w.grownBy w' none := by
  have c0 := h.c0
  obtain ⟨f, hv⟩ := h.v
  have HV := hid (gIsView_yes V Gv B S l n l.length f w hv)
  have HS := hid (gSlot h.a o r)
  rw [hs] at HS
  have HD := hid (gIsDom_yes c w hd)
  have HH := hid (gHandle_no h.a c (gdom_yes.1 hd).1 (gdom_yes.1 hd).2 hx)
  clear h hv hd hs hx
  go_enter Try.func37, Try.ntmps37
  go_wp2_with (first
    | (go_at_call 103; refine (gMade_yes X B _ c0).mono ?_; rintro e w' ⟨rfl, rfl⟩)
    | (go_at_call 104; refine HV.out.mono ?_; rintro e w' ⟨rfl, rfl⟩)
    | (go_at_call 105; refine HD.out.mono ?_; rintro e w' ⟨rfl, rfl⟩)
    | (go_at_call 106; refine HS.out.mono ?_; rintro e w' ⟨rfl, rfl⟩)
    | (go_at_call 107; refine HH.out.mono ?_; rintro e w1 ⟨rfl, g1⟩; have G1 := hid g1; clear g1))
  go_ret2
  exact ⟨rfl, G1.out⟩
/-- what is told of Map behind its read -/
def mapRet (R : Int × Int × Gs) : Value := .tuple #[.int .i64 R.1, .int .i64 R.2.1]
theorem gMap_rd (h : GW w X B G pm np s T V Gv S l n) {K : Int} (hok : s.M.ok K) (hK : K < 9223372036854775807) (hT : T < maxLen) (hl : ∀ p ∈ l, p.fits) (hll : l.length ≤ 64) (hn : (n : Int) < 9223372036854775807) (c : Int) (o r : Nat) (wr : Bool) (hd : gdom c = true) (ho : o < 8) (hr : r < 32) (t : Int) (i : Nat) (hm : s.g.mem o = some (t, i)) (ht0 : 0 ≤ t) (ht1 : t < s.M.n) (hi : i < np) (x : Nat) (hx : s.g.free c = some x) (R : Int × Int × Gs) (hR : (s.due l n).mapE ((s.due l n).entB o r) c o r wr x = R) :
    Calls Try.prog 37 #[.pointer (some ⟨X, 0, none⟩), .pointer (some ⟨V, 0, none⟩), .int .i64 c, .int .i64 o, .int .i64 r, .bool wr] w fun e w' => e = .returned (mapRet R) ∧ GR w X B G pm np R.2.2 (T + 1) V Gv S l (n + 1) w' := by
  have c0 := h.c0
  obtain ⟨f, hv⟩ := h.v
  have HV := hid (gIsView_yes V Gv B S l n l.length f w hv)
  have hs : s.g.slot o r = true := Gst.slot_yes.2 ⟨⟨⟨by omega, by omega⟩, by rw [Int.toNat_natCast]; exact ⟨_, hm⟩⟩, by omega, by omega⟩
  have HS := hid (gSlot h.a o r)
  rw [hs] at HS
  have HD := hid (gIsDom_yes c w hd)
  obtain ⟨hc0, hc1⟩ := gdom_yes.1 hd
  have HH := hid (gHandle_yes h.a c hc0 hc1 x hx)
  have hx16 := Gst.free_lt hx
  obtain ⟨E, hE⟩ : ∃ E, entV ((s.due l n).entB o r) 1 c = E := ⟨_, rfl⟩
  have HE := hid (fun w1 (hg : w.grownBy w1 none) => gEntry (h.grown hg) hok hl hll hn o ho t i hm ht0 ht1 r hr 1 c E hE)
  have H0 := hid h
  have hok' : (s.due l n).M.ok K := Mach.rews_ok _ hok
  have hT1 : T ≤ T + 1 := by omega
  unfold Gs.mapE at hR
  rw [hE] at hR
  cases E with
  | none =>
    simp only [entRet] at HE
    simp only at hR
    subst hR
    simp only [mapRet]
    clear h hok hok' hl hll hn hv hd hs hx hm ht0 ht1 hE
    go_enter Try.func37, Try.ntmps37
    go_wp2_with (first
      | (go_at_call 103; refine (gMade_yes X B _ c0).mono ?_; rintro e w' ⟨rfl, rfl⟩)
      | (go_at_call 104; refine HV.out.mono ?_; rintro e w' ⟨rfl, rfl⟩)
      | (go_at_call 105; refine HD.out.mono ?_; rintro e w' ⟨rfl, rfl⟩)
      | (go_at_call 106; refine HS.out.mono ?_; rintro e w' ⟨rfl, rfl⟩)
      | (go_at_call 107; refine HH.out.mono ?_; rintro e w1 ⟨rfl, g1⟩; have G1 := hid g1; clear g1)
      | (go_at_call 108; (with_reducible refine (HE.out _ G1.out).mono ?_); rintro e w2 ⟨rfl, h2⟩; have H2 := hid h2; clear h2)
      | fail)
    go_ret2
    exact ⟨rfl, GR.first H0.out G1.out ((H2.out.grown (World.grownBy_alloc w2 _ none)).mono hT1)⟩
  | some g =>
    obtain ⟨k, ro, sub, dm, p, off, ln⟩ := g
    obtain ⟨hp0, hp1, -⟩ := entV_ok hE
    have hp : I64 p := I64.of (by simp only at hp0; omega) (by simp only at hp1; omega)
    simp only [entRet] at HE
    simp only at hR
    have HGr := hid (fun w2 {w1 : World} (h2 : GR w1 X B G pm np (s.due l n) T V Gv S l (n + 1) w2) => gGranted h2.a.a hok' o ho t i hm hi k ro sub dm p off ln hp)
    cases sub with
    | true =>
      rw [if_pos rfl] at hR
      subst hR
      simp only [mapRet]
      clear h hok hok' hl hll hn hv hd hs hx hm ht0 ht1 hE hp hp0 hp1 HGr
      go_enter Try.func37, Try.ntmps37
      go_wp2_with (first
        | (go_at_call 103; refine (gMade_yes X B _ c0).mono ?_; rintro e w' ⟨rfl, rfl⟩)
        | (go_at_call 104; refine HV.out.mono ?_; rintro e w' ⟨rfl, rfl⟩)
        | (go_at_call 105; refine HD.out.mono ?_; rintro e w' ⟨rfl, rfl⟩)
        | (go_at_call 106; refine HS.out.mono ?_; rintro e w' ⟨rfl, rfl⟩)
        | (go_at_call 107; refine HH.out.mono ?_; rintro e w1 ⟨rfl, g1⟩; have G1 := hid g1; clear g1)
        | (go_at_call 108; (with_reducible refine (HE.out _ G1.out).mono ?_); rintro e w2 ⟨rfl, h2⟩; have H2 := hid h2; clear h2)
        | fail)
      go_ret2
      exact ⟨rfl, GR.first H0.out G1.out ((H2.out.grown (World.grownBy_alloc w2 _ none)).mono hT1)⟩
    | false =>
      rw [if_neg (by simp)] at hR
      by_cases hwr : (wr && ro) = true
      · rw [if_pos hwr] at hR
        subst hR
        simp only [mapRet]
        simp only [Bool.and_eq_true] at hwr
        obtain ⟨hw1, hw2⟩ := hwr
        subst hw1
        subst hw2
        clear h hok hok' hl hll hn hv hd hs hx hm ht0 ht1 hE hp hp0 hp1 HGr
        go_enter Try.func37, Try.ntmps37
        go_wp2_with (first
          | (go_at_call 103; refine (gMade_yes X B _ c0).mono ?_; rintro e w' ⟨rfl, rfl⟩)
          | (go_at_call 104; refine HV.out.mono ?_; rintro e w' ⟨rfl, rfl⟩)
          | (go_at_call 105; refine HD.out.mono ?_; rintro e w' ⟨rfl, rfl⟩)
          | (go_at_call 106; refine HS.out.mono ?_; rintro e w' ⟨rfl, rfl⟩)
          | (go_at_call 107; refine HH.out.mono ?_; rintro e w1 ⟨rfl, g1⟩; have G1 := hid g1; clear g1)
          | (go_at_call 108; (with_reducible refine (HE.out _ G1.out).mono ?_); rintro e w2 ⟨rfl, h2⟩; have H2 := hid h2; clear h2)
          | fail)
        go_ret2
        exact ⟨rfl, GR.first H0.out G1.out ((H2.out.grown (World.grownBy_alloc w2 _ none)).mono hT1)⟩
      · rw [if_neg hwr] at hR
        have hor : wr = false ∨ (wr = true ∧ ro = false) := by cases wr <;> cases ro <;> simp_all
        obtain ⟨D, hD⟩ : ∃ D, (s.due l n).granted o p = D := ⟨_, rfl⟩
        rw [hD] at hR
        cases D with
        | none =>
          have hgE : (s.due l n).grE o p = (0, 60) := by unfold Gs.grE; rw [hD]
          rw [hgE] at HGr
          simp only at hR
          subst hR
          simp only [mapRet]
          clear h hok hok' hl hll hn hv hd hs hx hm ht0 ht1 hE hp hp0 hp1 hD hgE hwr
          rcases hor with rfl | ⟨rfl, rfl⟩
          all_goals
            go_enter Try.func37, Try.ntmps37
            go_wp2_with (first
              | (go_at_call 103; refine (gMade_yes X B _ c0).mono ?_; rintro e w' ⟨rfl, rfl⟩)
              | (go_at_call 104; refine HV.out.mono ?_; rintro e w' ⟨rfl, rfl⟩)
              | (go_at_call 105; refine HD.out.mono ?_; rintro e w' ⟨rfl, rfl⟩)
              | (go_at_call 106; refine HS.out.mono ?_; rintro e w' ⟨rfl, rfl⟩)
              | (go_at_call 107; refine HH.out.mono ?_; rintro e w1 ⟨rfl, g1⟩; have G1 := hid g1; clear g1)
              | (go_at_call 108; (with_reducible refine (HE.out _ G1.out).mono ?_); rintro e w2 ⟨rfl, h2⟩; have H2 := hid h2; clear h2)
              | (go_at_call 109; (with_reducible refine (HGr.out _ (H2.out.grown (World.grownBy_alloc w2 _ none))).mono ?_); rintro e w3 ⟨rfl, g3⟩; have H3 := hid ((H2.out.grown (World.grownBy_alloc w2 _ none)).grown g3); have C3 := H3.out.a.a.c0; clear g3)
              | fail)
            go_ret2
            exact ⟨rfl, GR.first H0.out G1.out (H3.out.mono hT1)⟩
        | some m =>
          have hgE : (s.due l n).grE o p = (m, 0) := by unfold Gs.grE; rw [hD]
          rw [hgE] at HGr
          simp only at hR
          obtain ⟨q, hq⟩ : ∃ q, ((s.due l n).M.get m o (kindW wr)).1 = q := ⟨_, rfl⟩
          rw [hq] at hR
          have HGt := hid (fun w2 {w1 : World} (h2 : GR w1 X B G pm np (s.due l n) T V Gv S l (n + 1) w2) => Get_any B m o (kindW wr) w2.drew (s.due l n).M K h2.a.a.m.drew hok' hK)
          rw [hq] at HGt
          by_cases hq0 : q = 0
          · subst hq0
            rw [if_pos rfl] at hR
            have hA := hR
            subst hR
            simp only [mapRet]
            clear h hok hok' hl hll hn hv hd hs hx hm ht0 ht1 hE hp hp0 hp1 hD hgE hwr hq hA
            have HF := hid (fit2_of hc0 hc1 hx16)
            have HT := hid hT
            rcases hor with rfl | ⟨rfl, rfl⟩
            all_goals
              go_enter Try.func37, Try.ntmps37
              go_wp2_with (first
                | (go_at_call 103; refine (gMade_yes X B _ c0).mono ?_; rintro e w' ⟨rfl, rfl⟩)
                | (go_at_call 104; refine HV.out.mono ?_; rintro e w' ⟨rfl, rfl⟩)
                | (go_at_call 105; refine HD.out.mono ?_; rintro e w' ⟨rfl, rfl⟩)
                | (go_at_call 106; refine HS.out.mono ?_; rintro e w' ⟨rfl, rfl⟩)
                | (go_at_call 107; refine HH.out.mono ?_; rintro e w1 ⟨rfl, g1⟩; have G1 := hid g1; clear g1)
                | (go_at_call 108; (with_reducible refine (HE.out _ G1.out).mono ?_); rintro e w2 ⟨rfl, h2⟩; have H2 := hid h2; clear h2)
                | (go_at_call 109; (with_reducible refine (HGr.out _ (H2.out.grown (World.grownBy_alloc w2 _ none))).mono ?_); rintro e w3 ⟨rfl, g3⟩; have H3 := hid ((H2.out.grown (World.grownBy_alloc w2 _ none)).grown g3); have C3 := H3.out.a.a.c0; clear g3)
                | fail)
              go_wp2_with fail
              go_region_held3 (fun w' => w'.cell? ⟨X, 0, none⟩ = some (.pointer (some ⟨B, 0, none⟩))) (first | exact (by assumption) | go_keep)
                (first
                  | (go_at_call 110; (with_reducible refine (gKind _ _).mono ?_); rintro e w' ⟨rfl, rfl⟩)
                  | (go_at_call 69; (with_reducible refine (HGt.out _ H3.out).mono ?_); rintro e w5 ⟨rfl, h5, g5⟩; have H5 := hid (H3.out.mach h5 ((grownBy_drew _ _).trans g5)); have C5 := H5.out.a.a.c0; have C17 := H5.out.a.a.c17; have HMp := hid H5.out.a.a.mp; clear h5 g5))
              go_wp2_with (at_mapUpdate; refine wpList_mapUpdate_kmap _ rfl _ _ _ 108 rfl 190 key_ks Try.underlying108 mpd0.val G T _ rfl HMp.out HT.out (c, (x : Int)) rfl HF.out _ rfl ?_; intro w6 h6 g6; have H6 := hid (H5.out.lives (c, (x : Int)) ⟨x, c, o, r, m, _⟩ h6 g6); clear h6 g6)
              go_ret2
              exact ⟨rfl, GR.first H0.out G1.out H6.out⟩
          · rw [if_neg hq0] at hR
            have hA := hR
            subst hR
            simp only [mapRet]
            have hf : ((s.due l n).M.get m o (kindW wr)).2 = (s.due l n).M := Mach.get_fail (by rw [hq]; exact hq0)
            rw [hf] at HGt
            have hb : (q != 0) = true := by simpa using hq0
            clear h hok hok' hl hll hn hv hd hs hx hm ht0 ht1 hE hp hp0 hp1 hD hgE hwr hq hA hf hq0
            rcases hor with rfl | ⟨rfl, rfl⟩
            all_goals
              go_enter Try.func37, Try.ntmps37
              go_wp2_with (first
                | (go_at_call 103; refine (gMade_yes X B _ c0).mono ?_; rintro e w' ⟨rfl, rfl⟩)
                | (go_at_call 104; refine HV.out.mono ?_; rintro e w' ⟨rfl, rfl⟩)
                | (go_at_call 105; refine HD.out.mono ?_; rintro e w' ⟨rfl, rfl⟩)
                | (go_at_call 106; refine HS.out.mono ?_; rintro e w' ⟨rfl, rfl⟩)
                | (go_at_call 107; refine HH.out.mono ?_; rintro e w1 ⟨rfl, g1⟩; have G1 := hid g1; clear g1)
                | (go_at_call 108; (with_reducible refine (HE.out _ G1.out).mono ?_); rintro e w2 ⟨rfl, h2⟩; have H2 := hid h2; clear h2)
                | (go_at_call 109; (with_reducible refine (HGr.out _ (H2.out.grown (World.grownBy_alloc w2 _ none))).mono ?_); rintro e w3 ⟨rfl, g3⟩; have H3 := hid ((H2.out.grown (World.grownBy_alloc w2 _ none)).grown g3); have C3 := H3.out.a.a.c0; clear g3)
                | fail)
              go_wp2_with fail
              go_region_held3 (fun w' => w'.cell? ⟨X, 0, none⟩ = some (.pointer (some ⟨B, 0, none⟩))) (first | exact (by assumption) | go_keep)
                (first
                  | (go_at_call 110; (with_reducible refine (gKind _ _).mono ?_); rintro e w' ⟨rfl, rfl⟩)
                  | (go_at_call 69; (with_reducible refine (HGt.out _ H3.out).mono ?_); rintro e w5 ⟨rfl, h5, g5⟩; have H5 := hid (H3.out.mach h5 ((grownBy_drew _ _).trans g5)); have C5 := H5.out.a.a.c0; clear h5 g5))
              go_wp2
              go_ret2
              exact ⟨rfl, GR.first H0.out G1.out (H5.out.mono hT1)⟩
end
end Go.Proofs.Ytibiianmpajabaa

/-
  Package grant: find and Pull of an end that a grant names.
-/
set_option linter.unusedSimpArgs false
set_option linter.unusedVariables false
namespace Go.Proofs.Ytibiianmpajabaa
open Go.RowKit KM
set_option maxHeartbeats 1000000
set_option maxRecDepth 100000

def Gs.endG (s1 : Gs) (b : List UInt8) (c d : Int) : Option (Int × GV) :=
  match entV b 1 c with
  | none => none
  | some g => match s1.granted d g.gpfn with
    | none => none
    | some m => some (m, g)
def endRet : Option (Int × GV) → Value
  | none => .tuple #[.nilIface, .int .i64 60]
  | some (m, g) => .tuple #[.iface 209 (.agg #[.int .i64 m, .int .i64 g.k, .bool g.ro, .bool g.sub, .int .i64 g.dom, .int .i64 g.gpfn, .int .i64 g.off, .int .i64 g.len]), .int .i64 0]
theorem gPartG (m k : Int) (ro sub : Bool) (dm p off ln : Int) (w : World) : Calls Try.prog 162 #[.agg #[.int .i64 m, .int .i64 k, .bool ro, .bool sub, .int .i64 dm, .int .i64 p, .int .i64 off, .int .i64 ln]] w fun e w' =>
    e = .returned (.agg #[.int .i64 m, .int .i64 off, .int .i64 ln]) ∧ w.grownBy w' none := by
  go_enter Try.func162, Try.ntmps162
  go_wp2
  first
    | (go_ret; exact ⟨rfl, (World.grownBy_alloc _ _ none).trans (World.grownBy_alloc _ _ none)⟩)
    | (go_returns; exact ⟨rfl, (World.grownBy_alloc _ _ none).trans (World.grownBy_alloc _ _ none)⟩)
/-- the cells of an entry that was laid into memory -/
theorem grow7 {w W : World} {v0 v1 v2 v3 v4 v5 v6 : Value} (hg : (w.alloc (.cells #[v0, v1, v2, v3, v4, v5, v6] 77)).grownBy W none) :
    W.cell? ⟨w.heap.size, 0, none⟩ = some v0 ∧ W.cell? ⟨w.heap.size, 1, none⟩ = some v1 ∧ W.cell? ⟨w.heap.size, 2, none⟩ = some v2 ∧ W.cell? ⟨w.heap.size, 3, none⟩ = some v3 ∧ W.cell? ⟨w.heap.size, 4, none⟩ = some v4 ∧ W.cell? ⟨w.heap.size, 5, none⟩ = some v5 ∧ W.cell? ⟨w.heap.size, 6, none⟩ = some v6 := by
  have hr := (rowB w v0 v1 v2 v3 v4 v5 v6).grown hg (by simp)
  exact ⟨hr.cell (k := 0) (by omega), hr.cell (k := 1) (by omega), hr.cell (k := 2) (by omega), hr.cell (k := 3) (by omega), hr.cell (k := 4) (by omega), hr.cell (k := 5) (by omega), hr.cell (k := 6) (by omega)⟩
section
variable {w : World} {X B G : Nat} {pm : Nat → Nat × Nat × Nat} {np : Nat} {s : Gs} {T : Nat} {V Gv : Nat} {S : Nat → Prop} {l : List PokeV} {n : Nat}
/-- a fresh block's cell behind a call -/
theorem GR.fresh {s' : Gs} {T' n' : Nat} {w1 w2 : World} (h0 : GW w X B G pm np s T V Gv S l n) (h : GR w1 X B G pm np s' T' V Gv S l n' w2) {b k : Nat} {v : Value} (hb : w.heap.size ≤ b) (hc : w1.cell? ⟨b, k, none⟩ = some v) : w2.cell? ⟨b, k, none⟩ = some v :=
  h.c.gen.cell hc (h0.fresh hb).2.2
theorem gFindGr (h : GW w X B G pm np s T V Gv S l n) {K : Int} (hok : s.M.ok K) (hl : ∀ p ∈ l, p.fits) (hll : l.length ≤ 64) (hn : (n : Int) < 9223372036854775807) (c : Int) (d r : Nat) (hd : d < 8) (hr : r < 32) (t : Int) (i : Nat) (hm : s.g.mem d = some (t, i)) (ht0 : 0 ≤ t) (ht1 : t < s.M.n) (hi : i < np) (R : Option (Int × GV)) (hR : (s.due l n).endG ((s.due l n).entB d r) c d = R) :
    Calls Try.prog 138 #[.pointer (some ⟨X, 0, none⟩), .pointer (some ⟨V, 0, none⟩), .int .i64 c, .agg #[.int .i64 d, .int .i64 r]] w fun e w' => e = .returned (endRet R) ∧ GR w X B G pm np (s.due l n) T V Gv S l (n + 1) w' := by
  obtain ⟨W1, hW1⟩ : ∃ W, w.alloc (.cells #[.int .i64 d, .int .i64 r] 186) = W := ⟨_, rfl⟩
  have hg1 : w.grownBy W1 none := hW1 ▸ World.grownBy_alloc _ _ none
  have q0 : W1.cell? ⟨w.heap.size, 0, none⟩ = some (.int .i64 d) := by rw [← hW1]; simp [go_sem]
  have q1 : W1.cell? ⟨w.heap.size, 1, none⟩ = some (.int .i64 r) := by rw [← hW1]; simp [go_sem]
  have hs : s.g.slot d r = true := Gst.slot_yes.2 ⟨⟨⟨by omega, by omega⟩, by rw [Int.toNat_natCast]; exact ⟨_, hm⟩⟩, by omega, by omega⟩
  have HS := hid (gSlot (h.grown hg1).a d r)
  rw [hs] at HS
  obtain ⟨E, hE⟩ : ∃ E, entV ((s.due l n).entB d r) 1 c = E := ⟨_, rfl⟩
  have HE := hid (gEntry (h.grown hg1) hok hl hll hn d hd t i hm ht0 ht1 r hr 1 c E hE)
  have H0 := hid h
  have HG1 := hid hg1
  have hok' : (s.due l n).M.ok K := Mach.rews_ok _ hok
  have HQ0 := hid q0
  unfold Gs.endG at hR
  rw [hE] at hR
  cases E with
  | none =>
    simp only [entRet] at HE
    simp only at hR
    subst hR
    simp only [endRet]
    clear h hok hok' hl hll hn hs hm ht0 ht1 hE hg1
    go_enter Try.func138, Try.ntmps138
    go_wp2_with (first
      | (go_at_call 106; (with_reducible refine HS.out.mono ?_); rintro e w' ⟨rfl, rfl⟩)
      | (go_at_call 108; (with_reducible refine HE.out.mono ?_); rintro e w2 ⟨rfl, h2⟩; have H2 := hid h2; clear h2))
    go_ret2
    exact ⟨rfl, GR.first H0.out HG1.out (H2.out.grown (World.grownBy_alloc w2 _ none))⟩
  | some g =>
    obtain ⟨k, ro, sub, dm, p, off, ln⟩ := g
    obtain ⟨hp0, hp1, -⟩ := entV_ok hE
    have hp : I64 p := I64.of (by simp only at hp0; omega) (by simp only at hp1; omega)
    simp only [entRet] at HE
    simp only at hR
    have HGr := hid (fun w2 {w1 : World} (h2 : GR w1 X B G pm np (s.due l n) T V Gv S l (n + 1) w2) => gGranted h2.a.a hok' d hd t i hm hi k ro sub dm p off ln hp)
    obtain ⟨D, hD⟩ : ∃ D, (s.due l n).granted d p = D := ⟨_, rfl⟩
    rw [hD] at hR
    cases D with
    | none =>
      have hgE : (s.due l n).grE d p = (0, 60) := by unfold Gs.grE; rw [hD]
      rw [hgE] at HGr
      simp only at hR
      subst hR
      simp only [endRet]
      clear h hok hok' hl hll hn hs hm ht0 ht1 hE hg1 hp hp0 hp1 hD hgE
      go_enter Try.func138, Try.ntmps138
      go_wp2_with (first
        | (go_at_call 106; (with_reducible refine HS.out.mono ?_); rintro e w' ⟨rfl, rfl⟩)
        | (go_at_call 108; (with_reducible refine HE.out.mono ?_); rintro e w2 ⟨rfl, h2⟩; have H2 := hid h2; have z0 := fun ob => (World.grownBy_alloc w2 ob none).cell (GR.fresh H0.out h2 (Nat.le_refl _) HQ0.out) (by simp); clear h2)
        | (go_at_call 109; (with_reducible refine (HGr.out _ (H2.out.grown (World.grownBy_alloc w2 _ none))).mono ?_); rintro e w3 ⟨rfl, g3⟩; have H3 := hid ((H2.out.grown (World.grownBy_alloc w2 _ none)).grown g3); clear g3))
      go_ret2
      exact ⟨rfl, GR.first H0.out HG1.out H3.out⟩
    | some m =>
      have hgE : (s.due l n).grE d p = (m, 0) := by unfold Gs.grE; rw [hD]
      rw [hgE] at HGr
      simp only at hR
      subst hR
      simp only [endRet]
      clear h hok hok' hl hll hn hs hm ht0 ht1 hE hg1 hp hp0 hp1 hD hgE
      go_enter Try.func138, Try.ntmps138
      go_wp2_with (first
        | (go_at_call 106; (with_reducible refine HS.out.mono ?_); rintro e w' ⟨rfl, rfl⟩)
        | (go_at_call 108; (with_reducible refine HE.out.mono ?_); rintro e w2 ⟨rfl, h2⟩; have H2 := hid h2; have z0 := fun ob => (World.grownBy_alloc w2 ob none).cell (GR.fresh H0.out h2 (Nat.le_refl _) HQ0.out) (by simp); clear h2)
        | (go_at_call 109; (with_reducible refine (HGr.out _ (H2.out.grown (World.grownBy_alloc w2 _ none))).mono ?_); rintro e w3 ⟨rfl, g3⟩; have H3 := hid ((H2.out.grown (World.grownBy_alloc w2 _ none)).grown g3); obtain ⟨y0, y1, y2, y3, y4, y5, y6⟩ := grow7 g3; clear g3))
      go_ret2
      exact ⟨rfl, GR.first H0.out HG1.out H3.out⟩
end
end Go.Proofs.Ytibiianmpajabaa

/-
  Package grant: Pull of an end that a grant names, whole.
-/
set_option linter.unusedSimpArgs false
set_option linter.unusedVariables false
namespace Go.Proofs.Ytibiianmpajabaa
open Go.RowKit KM
set_option maxHeartbeats 1000000
set_option maxRecDepth 100000

section
variable {w : World} {X B G : Nat} {pm : Nat → Nat × Nat × Nat} {np : Nat} {s : Gs} {T : Nat} {V Gv : Nat} {S : Nat → Prop} {l : List PokeV} {n : Nat}
theorem gFindG (h : GW w X B G pm np s T V Gv S l n) {K : Int} (hok : s.M.ok K) (hl : ∀ p ∈ l, p.fits) (hll : l.length ≤ 64) (hn : (n : Int) < 9223372036854775807) (c : Int) (hc : gdom c = true) (d r : Nat) (hd : d < 8) (hr : r < 32) (t : Int) (i : Nat) (hm : s.g.mem d = some (t, i)) (ht0 : 0 ≤ t) (ht1 : t < s.M.n) (hi : i < np) (p off k : Int) (ho : 0 ≤ off) (hk : 0 ≤ k) (R : Option (Int × GV)) (hR : (s.due l n).endG ((s.due l n).entB d r) c d = R) :
    Calls Try.prog 117 #[.pointer (some ⟨X, 0, none⟩), .pointer (some ⟨V, 0, none⟩), .int .i64 c, .agg #[.bool true, .int .i64 d, .int .i64 r, .int .i64 p, .int .i64 off], .int .i64 k] w fun e w' => e = .returned (endRet R) ∧ GR w X B G pm np (s.due l n) T V Gv S l (n + 1) w' := by
  obtain ⟨W1, hW1⟩ : ∃ W, w.alloc (.cells #[.bool true, .int .i64 d, .int .i64 r, .int .i64 p, .int .i64 off] 96) = W := ⟨_, rfl⟩
  have hg1 : w.grownBy W1 none := hW1 ▸ World.grownBy_alloc _ _ none
  have q0 : W1.cell? ⟨w.heap.size, 0, none⟩ = some (.bool true) := by rw [← hW1]; simp [go_sem]
  have q1 : W1.cell? ⟨w.heap.size, 1, none⟩ = some (.int .i64 d) := by rw [← hW1]; simp [go_sem]
  have q2 : W1.cell? ⟨w.heap.size, 2, none⟩ = some (.int .i64 r) := by rw [← hW1]; simp [go_sem]
  have q4 : W1.cell? ⟨w.heap.size, 4, none⟩ = some (.int .i64 off) := by rw [← hW1]; simp [go_sem]
  have c0 := (h.grown hg1).c0
  have hG1 := h.grown hg1
  obtain ⟨f, hv⟩ := hG1.v
  have HV := hid (gIsView_yes V Gv B S l n l.length f W1 hv)
  have HD := hid (gIsDom_yes c W1 hc)
  have HF := hid (gFindGr hG1 hok hl hll hn c d r hd hr t i hm ht0 ht1 hi R hR)
  have H0 := hid h
  have HG1 := hid hg1
  cases R with
  | none =>
    simp only [endRet] at HF ⊢
    clear h hok hl hll hn hm ht0 ht1 hg1 hG1 hv hc hR hd hr hi
    go_enter Try.func117, Try.ntmps117
    go_wp2_with (first
      | (go_at_call 103; (with_reducible refine (gMade_yes X B _ c0).mono ?_); rintro e w' ⟨rfl, rfl⟩)
      | (go_at_call 104; (with_reducible refine HV.out.mono ?_); rintro e w' ⟨rfl, rfl⟩)
      | (go_at_call 105; (with_reducible refine HD.out.mono ?_); rintro e w' ⟨rfl, rfl⟩)
      | (go_at_call 138; (with_reducible refine HF.out.mono ?_); rintro e w2 ⟨rfl, h2⟩; have H2 := hid h2; clear h2))
    go_ret2
    exact ⟨rfl, GR.first H0.out HG1.out H2.out⟩
  | some mg =>
    obtain ⟨m, gk, ro, sub, dm, gp, go, gl⟩ := mg
    simp only [endRet] at HF ⊢
    clear h hok hl hll hn hm ht0 ht1 hg1 hG1 hv hc hR hd hr hi
    go_enter Try.func117, Try.ntmps117
    go_wp2_with (first
      | (go_at_call 103; (with_reducible refine (gMade_yes X B _ c0).mono ?_); rintro e w' ⟨rfl, rfl⟩)
      | (go_at_call 104; (with_reducible refine HV.out.mono ?_); rintro e w' ⟨rfl, rfl⟩)
      | (go_at_call 105; (with_reducible refine HD.out.mono ?_); rintro e w' ⟨rfl, rfl⟩)
      | (go_at_call 138; (with_reducible refine HF.out.mono ?_); rintro e w2 ⟨rfl, h2⟩; have H2 := hid h2; clear h2))
    go_ret2
    exact ⟨rfl, GR.first H0.out HG1.out H2.out⟩
/-- what an end permits: the frame is the owner's, the part lies in its page -/
theorem Gs.endG_ok {s1 : Gs} {b : List UInt8} {c d m : Int} {g : GV} (h : s1.endG b c d = some (m, g)) : entV b 1 c = some g ∧ s1.M.is m = true ∧ 0 ≤ g.off ∧ 1 ≤ g.len ∧ g.off + g.len ≤ 256 := by
  unfold Gs.endG at h
  cases hE : entV b 1 c with
  | none => rw [hE] at h; cases h
  | some g' =>
    rw [hE] at h
    simp only at h
    cases hD : s1.granted d g'.gpfn with
    | none => rw [hD] at h; cases h
    | some m' =>
      rw [hD] at h
      simp only [Option.some.injEq, Prod.mk.injEq] at h
      obtain ⟨rfl, rfl⟩ := h
      refine ⟨rfl, ?_, (entV_ok hE).2.2⟩
      unfold Gs.granted at hD
      split at hD
      · split at hD
        · rename_i hh
          cases hD
          have := hh.2
          unfold Gs.owns at this
          simp only [Bool.and_eq_true] at this
          exact this.1
        · cases hD
      · cases hD
/-- Pull refused: by the entry, or for its range -/
theorem gPullG_no (h : GW w X B G pm np s T V Gv S l n) {K : Int} (hok : s.M.ok K) (hl : ∀ p ∈ l, p.fits) (hll : l.length ≤ 64) (hn : (n : Int) < 9223372036854775807) (c : Int) (hc : gdom c = true) (d r : Nat) (hd : d < 8) (hr : r < 32) (t : Int) (i : Nat) (hm : s.g.mem d = some (t, i)) (ht0 : 0 ≤ t) (ht1 : t < s.M.n) (hi : i < np) (p off k : Int) (ho : 0 ≤ off) (hk : 0 ≤ k) (hR : (s.due l n).endG ((s.due l n).entB d r) c d = none) :
    Calls Try.prog 51 #[.pointer (some ⟨X, 0, none⟩), .pointer (some ⟨V, 0, none⟩), .int .i64 c, .agg #[.bool true, .int .i64 d, .int .i64 r, .int .i64 p, .int .i64 off], .int .i64 k] w fun e w' => e = .returned (.tuple #[.slice none 0 0, .int .i64 60]) ∧ GR w X B G pm np (s.due l n) T V Gv S l (n + 1) w' := by
  have hg1 := World.grownBy_alloc w (.cells #[.bool true, .int .i64 d, .int .i64 r, .int .i64 p, .int .i64 off] 96) none
  have HF := hid (gFindG (h.grown hg1) hok hl hll hn c hc d r hd hr t i hm ht0 ht1 hi p off k ho hk none hR)
  simp only [endRet] at HF
  have H0 := hid h
  have HG1 := hid hg1
  clear h hok hl hll hn hm ht0 ht1 hg1 hc hR hd hr hi
  go_enter Try.func51, Try.ntmps51
  go_wp2_with (go_at_call 117; (with_reducible refine HF.out.mono ?_); rintro e w2 ⟨rfl, h2⟩; have H2 := hid h2; clear h2)
  go_ret2
  exact ⟨rfl, GR.first H0.out HG1.out H2.out⟩
def NewB (w : World) (bs : List UInt8) (e : Ending) (w' : World) : Prop := ∃ q cp, e = .returned (.tuple #[.slice q bs.length cp, .int .i64 0]) ∧ KeptBytes w' (fun k => w.heap.size ≤ k) q bs
theorem KeptBytes.wide {w : World} {S S' : Nat → Prop} {q : Option Addr} {l : List UInt8} (h : KeptBytes w S q l) (hS : ∀ k, S k → S' k) : KeptBytes w S' q l := by
  rcases h with h | ⟨g, e, hg, hb⟩
  · exact .inl h
  · exact .inr ⟨g, e, hS g hg, hb⟩
theorem EndV.at_no {m f z : Int} {ro : Bool} {off k : Int} (h : off < 0 ∨ k < 0 ∨ z - off < k) : (⟨m, f, z, ro⟩ : EndV).at off k = (0, 63) := by unfold EndV.at; rw [if_pos h]
theorem EndV.at_yes {m f z : Int} {ro : Bool} {off k : Int} (h0 : 0 ≤ off) (h1 : 0 ≤ k) (h2 : k ≤ z - off) : (⟨m, f, z, ro⟩ : EndV).at off k = (f + off, 0) := by unfold EndV.at; rw [if_neg (by simp only; omega)]
theorem gPullG_range (h : GW w X B G pm np s T V Gv S l n) {K : Int} (hok : s.M.ok K) (hl : ∀ p ∈ l, p.fits) (hll : l.length ≤ 64) (hn : (n : Int) < 9223372036854775807) (c : Int) (hc : gdom c = true) (d r : Nat) (hd : d < 8) (hr : r < 32) (t : Int) (i : Nat) (hm : s.g.mem d = some (t, i)) (ht0 : 0 ≤ t) (ht1 : t < s.M.n) (hi : i < np) (p off k : Int) (ho : 0 ≤ off) (ho2 : off ≤ 9223372036854775807) (hk : 0 ≤ k) (m : Int) (g : GV) (hR : (s.due l n).endG ((s.due l n).entB d r) c d = some (m, g)) (hx : g.len - off < k) :
    Calls Try.prog 51 #[.pointer (some ⟨X, 0, none⟩), .pointer (some ⟨V, 0, none⟩), .int .i64 c, .agg #[.bool true, .int .i64 d, .int .i64 r, .int .i64 p, .int .i64 off], .int .i64 k] w fun e w' => e = .returned (.tuple #[.slice none 0 0, .int .i64 63]) ∧ GR w X B G pm np (s.due l n) T V Gv S l (n + 1) w' := by
  obtain ⟨W1, hW1⟩ : ∃ W, w.alloc (.cells #[.bool true, .int .i64 d, .int .i64 r, .int .i64 p, .int .i64 off] 96) = W := ⟨_, rfl⟩
  have hg1 : w.grownBy W1 none := hW1 ▸ World.grownBy_alloc _ _ none
  have q0 : W1.cell? ⟨w.heap.size, 0, none⟩ = some (.bool true) := by rw [← hW1]; simp [go_sem]
  have q1 : W1.cell? ⟨w.heap.size, 1, none⟩ = some (.int .i64 d) := by rw [← hW1]; simp [go_sem]
  have q2 : W1.cell? ⟨w.heap.size, 2, none⟩ = some (.int .i64 r) := by rw [← hW1]; simp [go_sem]
  have q3 : W1.cell? ⟨w.heap.size, 3, none⟩ = some (.int .i64 p) := by rw [← hW1]; simp [go_sem]
  have q4 : W1.cell? ⟨w.heap.size, 4, none⟩ = some (.int .i64 off) := by rw [← hW1]; simp [go_sem]
  obtain ⟨-, -, e0, e1, e2⟩ := Gs.endG_ok hR
  obtain ⟨gk, ro, sub, dm, gp, gf, gl⟩ := g
  simp only at e0 e1 e2 hx
  have HF := hid (gFindG (h.grown hg1) hok hl hll hn c hc d r hd hr t i hm ht0 ht1 hi p off k ho hk _ hR)
  simp only [endRet] at HF
  have HWi := hid (fun w' => gWithin m gf gl off k w' e0 (by omega) (by omega) (by omega) ho2)
  rw [EndV.at_no (.inr (.inr hx))] at HWi
  have H0 := hid h
  have HG1 := hid hg1
  have HQ := hid q4
  clear h hok hl hll hn hm ht0 ht1 hg1 hc hR hd hr hi hx e0 e1 e2 ho2
  go_enter Try.func51, Try.ntmps51
  go_wp2_with (first
    | (go_at_call 117; (with_reducible refine HF.out.mono ?_); rintro e w2 ⟨rfl, h2⟩; have H2 := hid h2; have Z2 := hid (GR.fresh H0.out h2 (Nat.le_refl _) HQ.out); clear h2)
    | (go_at_call 162; (with_reducible refine (gPartG _ _ _ _ _ _ _ _ _).mono ?_); rintro e w3 ⟨rfl, g3⟩; have H3 := hid (H2.out.grown g3); have z3 := fun ob => (World.grownBy_alloc w3 ob none).cell (g3.cell Z2.out (by simp)) (by simp); clear g3)
    | (go_at_call 114; (with_reducible refine (HWi.out _).mono ?_); rintro e w4 ⟨rfl, g4⟩; have H4 := hid ((H3.out.grown (World.grownBy_alloc w3 _ none)).grown g4); clear g4))
  go_ret2
  exact ⟨rfl, GR.first H0.out HG1.out H4.out⟩
theorem gPullG_yes (h : GW w X B G pm np s T V Gv S l n) {K : Int} (hok : s.M.ok K) (hl : ∀ p ∈ l, p.fits) (hll : l.length ≤ 64) (hn : (n : Int) + 1 < 9223372036854775807) (c : Int) (hc : gdom c = true) (d r : Nat) (hd : d < 8) (hr : r < 32) (t : Int) (i : Nat) (hm : s.g.mem d = some (t, i)) (ht0 : 0 ≤ t) (ht1 : t < s.M.n) (hi : i < np) (p off k : Int) (ho : 0 ≤ off) (hk : 0 ≤ k) (m : Int) (g : GV) (hR : (s.due l n).endG ((s.due l n).entB d r) c d = some (m, g)) (hx : k ≤ g.len - off) :
    Calls Try.prog 51 #[.pointer (some ⟨X, 0, none⟩), .pointer (some ⟨V, 0, none⟩), .int .i64 c, .agg #[.bool true, .int .i64 d, .int .i64 r, .int .i64 p, .int .i64 off], .int .i64 k] w fun e w' =>
      NewB w ((((s.due l n).due l (n + 1)).M.read m (g.off + off) k).1) e w' ∧ GR w X B G pm np ((s.due l n).due l (n + 1)) T V Gv S l (n + 1 + 1) w' := by
  obtain ⟨W1, hW1⟩ : ∃ W, w.alloc (.cells #[.bool true, .int .i64 d, .int .i64 r, .int .i64 p, .int .i64 off] 96) = W := ⟨_, rfl⟩
  have hg1 : w.grownBy W1 none := hW1 ▸ World.grownBy_alloc _ _ none
  have q0 : W1.cell? ⟨w.heap.size, 0, none⟩ = some (.bool true) := by rw [← hW1]; simp [go_sem]
  have q1 : W1.cell? ⟨w.heap.size, 1, none⟩ = some (.int .i64 d) := by rw [← hW1]; simp [go_sem]
  have q2 : W1.cell? ⟨w.heap.size, 2, none⟩ = some (.int .i64 r) := by rw [← hW1]; simp [go_sem]
  have q3 : W1.cell? ⟨w.heap.size, 3, none⟩ = some (.int .i64 p) := by rw [← hW1]; simp [go_sem]
  have q4 : W1.cell? ⟨w.heap.size, 4, none⟩ = some (.int .i64 off) := by rw [← hW1]; simp [go_sem]
  obtain ⟨-, hmi, e0, e1, e2⟩ := Gs.endG_ok hR
  obtain ⟨gk, ro, sub, dm, gp, gf, gl⟩ := g
  simp only at e0 e1 e2 hx ⊢
  have HF := hid (gFindG (h.grown hg1) hok hl hll (by omega) c hc d r hd hr t i hm ht0 ht1 hi p off k ho hk _ hR)
  simp only [endRet] at HF
  have HWi := hid (fun w' => gWithin m gf gl off k w' e0 (by omega) (by omega) (by omega) (by omega))
  rw [EndV.at_yes ho hk hx] at HWi
  have hok' : (s.due l n).M.ok K := Mach.rews_ok _ hok
  obtain ⟨bs, hbs⟩ : ∃ bs, (((s.due l n).due l (n + 1)).M.read m (gf + off) k).1 = bs := ⟨_, rfl⟩
  have HR := hid (fun w2 {w1 : World} (h2 : GR w1 X B G pm np (s.due l n) T V Gv S l (n + 1) w2) => (show Calls Try.prog 80 #[.pointer (some ⟨V, 0, none⟩), .int .i64 m, .int .i64 (gf + off), .int .i64 k] w2 fun e w' => ∃ v, e = .returned (.tuple #[v, .int .i64 0]) ∧ FreshB w2 bs v w' ∧ VRead w2 V Gv B S l (n + 1) l.length (s.due l n).M w' by
    obtain ⟨f, hv⟩ := h2.a.v
    refine (vRead V Gv B S l (n + 1) l.length f m (gf + off) k w2 (s.due l n).M K hv h2.a.a.m hok' hl (by omega) hll (by omega)).mono fun e w' ⟨v, he, h1, h3⟩ => ⟨v, ?_, ?_, h3⟩
    · rw [he, read_good (by rw [Mach.is_iff, Mach.rews_n]; exact Mach.is_iff.1 hmi) (inP_yes (by omega) (by omega) (by omega))]
    · rw [← hbs]; exact h1))
  rw [hbs]
  have H0 := hid h
  have HG1 := hid hg1
  have HQ := hid q4
  clear h hok hok' hl hll hn hm ht0 ht1 hg1 hc hR hd hr hi hx e0 e1 e2 hmi hbs
  go_enter Try.func51, Try.ntmps51
  go_wp2_with (first
    | (go_at_call 117; (with_reducible refine HF.out.mono ?_); rintro e w2 ⟨rfl, h2⟩; have H2 := hid h2; have Z2 := hid (GR.fresh H0.out h2 (Nat.le_refl _) HQ.out); clear h2)
    | (go_at_call 162; (with_reducible refine (gPartG _ _ _ _ _ _ _ _ _).mono ?_); rintro e w3 ⟨rfl, g3⟩; have H3 := hid (H2.out.grown g3); have z3 := fun ob => (World.grownBy_alloc w3 ob none).cell (g3.cell Z2.out (by simp)) (by simp); obtain ⟨W3, hW3⟩ : ∃ W, w3.alloc (.cells #[.int .i64 m, .int .i64 gf, .int .i64 gl] 196) = W := ⟨_, rfl⟩; have hm3 : W3.cell? ⟨w3.heap.size, 0, none⟩ = some (.int .i64 m) := (by rw [← hW3]; simp [go_sem]); have hm31 : W3.cell? ⟨w3.heap.size, 1, none⟩ = some (.int .i64 gf) := (by rw [← hW3]; simp [go_sem]); have hm32 : W3.cell? ⟨w3.heap.size, 2, none⟩ = some (.int .i64 gl) := (by rw [← hW3]; simp [go_sem]); have hz3 : W3.cell? ⟨w.heap.size, 4, none⟩ = some (.int .i64 off) := hW3 ▸ z3 _; have HM3 := hid hm3; have H3b := hid (hW3 ▸ H3.out.grown (World.grownBy_alloc w3 _ none) : GR _ X B G pm np (s.due l n) T V Gv S l (n + 1) W3); clear g3)
    | (go_at_call 114; (with_reducible refine (HWi.out _).mono ?_); rintro e w4 ⟨rfl, g4⟩; have H4 := hid (H3b.out.grown g4); have z4 := g4.cell HM3.out (by simp); clear g4)
    | (go_at_call 80; (with_reducible refine (HR.out _ H4.out).mono ?_); rintro e w5 ⟨v, rfl, ⟨q, cp, rfl, hq⟩, hr⟩; have H5 := hid (⟨H4.out.a.read hr, H4.out.c.trans (GW.readChg (X := X) (B := B) (G := G) (pm := pm) (np := np) hr) fun _ e => .inl e⟩ : GR _ X B G pm np ((s.due l n).due l (n + 1)) T V Gv S l (n + 1 + 1) w5); have HB := hid (KeptBytes.wide hq (S' := fun k => w.heap.size ≤ k) fun k hk => Nat.le_trans (Nat.le_trans HG1.out.size H4.out.c.size) hk.1); clear hr hq))
  go_ret2
  exact ⟨⟨_, _, rfl, HB.out⟩, GR.first H0.out HG1.out H5.out⟩
end
end Go.Proofs.Ytibiianmpajabaa

/-
  Package grant: Unmap, Foreign, Maps.
-/
set_option linter.unusedSimpArgs false
set_option linter.unusedVariables false
namespace Go.Proofs.Ytibiianmpajabaa
open Go.RowKit KM
set_option maxHeartbeats 1000000
set_option maxRecDepth 100000

theorem KM.KRange.alloc {κ : Type} {P : Program} {k : TypeId} {mk : κ → Value} {z : Value} {w : World} {b r T : Nat} {f : κ → Option Value} {left : κ → Bool} (h : KRange P k mk z w b r T f left) (o : Obj) :
    KRange P k mk z (w.alloc o) b r T f left ∧ (w.alloc o).rangeLeft b r = w.rangeLeft b r := by
  obtain ⟨D, lf, cnt, hr, hf, hl⟩ := h
  exact ⟨⟨D, lf, cnt, hr.alloc o, hf, hl⟩, (hr.alloc o).left_eq.trans hr.left_eq.symm⟩
theorem filter_one {α : Type} [DecidableEq α] {p : α → Bool} {x : α} (hp : p x = true) : ∀ (L : List α), L.Nodup → x ∈ L → (L.filter p).length = (L.filter fun y => p y && decide (y ≠ x)).length + 1
  | [], _, h => by cases h
  | y :: L, hn, h => by
    obtain ⟨h1, h2⟩ := List.nodup_cons.1 hn
    by_cases e : y = x
    · subst e
      have h3 : L.filter p = L.filter fun z => p z && decide (z ≠ y) := List.filter_congr fun z hz => by
        have : z ≠ y := fun e => h1 (e ▸ hz)
        simp [this]
      simp only [List.filter_cons, hp, if_true, List.length_cons, h3]
      simp
    · have hx : x ∈ L := by rcases List.mem_cons.1 h with h | h; exact absurd h.symm e; exact h
      have ih := filter_one hp L h2 hx
      have e' : decide (y ≠ x) = true := by simpa using e
      simp only [List.filter_cons, e', Bool.and_true]
      cases p y <;> simp [ih]
theorem allKeys_nodup : allKeys.Nodup := by decide +kernel
theorem mem_allKeys {c h : Int} (h0 : 0 ≤ c) (h1 : c < 8) (h2 : 0 ≤ h) (h3 : h < 16) : (c, h) ∈ allKeys := by
  unfold allKeys
  rw [List.mem_flatMap]
  exact ⟨c.toNat, by simp; omega, by rw [List.mem_map]; exact ⟨h.toNat, by simp; omega, by rw [Int.toNat_of_nonneg h0, Int.toNat_of_nonneg h2]⟩⟩
theorem allKeys_fit {k : Int × Int} (h : k ∈ allKeys) : fit2 k := by
  unfold allKeys at h
  rw [List.mem_flatMap] at h
  obtain ⟨c, hc, h⟩ := h
  rw [List.mem_map] at h
  obtain ⟨x, hx, rfl⟩ := h
  simp at hc hx
  exact fit2_of (by omega) (by omega) hx
def mpF (g : Gst) (k : Int × Int) : Option Value := (g.mp k).map Mpd.val
theorem mpF_some {g : Gst} {k : Int × Int} {a : Mpd} (h : g.mp k = some a) : mpF g k = some a.val := by unfold mpF; rw [h]; rfl
def fcnt (g : Gst) (o : Int) (left : Int × Int → Bool) : Nat := (allKeys.filter fun k => left k && (match g.mp k with | some a => a.o == o | none => false)).length
theorem fcnt_start (g : Gst) (o : Int) : fcnt g o (fun k => (mpF g k).isSome) = g.foreign o := by
  unfold fcnt Gst.foreign mpF
  congr 1
  refine List.filter_congr fun k _ => ?_
  cases hk : g.mp k <;> simp_all
theorem fcnt_end {g : Gst} {o : Int} {left : Int × Int → Bool} (h : ∀ x, fit2 x → left x = false) : fcnt g o left = 0 := by
  unfold fcnt
  rw [List.length_eq_zero_iff, List.filter_eq_nil_iff]
  intro k hk
  rw [h k (allKeys_fit hk)]
  simp
theorem fcnt_yes {g : Gst} {o : Int} {left : Int × Int → Bool} {x : Int × Int} (hx : x ∈ allKeys) (hl : left x = true) {a : Mpd} (ha : g.mp x = some a) (ho : a.o = o) : fcnt g o left = fcnt g o (fun y => left y && decide (y ≠ x)) + 1 := by
  unfold fcnt
  rw [filter_one (x := x) (by rw [hl, ha]; simp [ho]) allKeys allKeys_nodup hx]
  congr 2
  refine List.filter_congr fun k _ => ?_
  exact Bool.and_right_comm _ _ _
theorem fcnt_no {g : Gst} {o : Int} {left : Int × Int → Bool} {x : Int × Int} {a : Mpd} (ha : g.mp x = some a) (ho : a.o ≠ o) : fcnt g o left = fcnt g o (fun y => left y && decide (y ≠ x)) := by
  unfold fcnt
  congr 1
  refine List.filter_congr fun k _ => ?_
  by_cases e : k = x
  · subst e; rw [ha]; simp [ho]
  · simp [e]
section
variable {w : World} {X B G : Nat} {pm : Nat → Nat × Nat × Nat} {np : Nat} {s : Gs} {T : Nat}
theorem gForeign (h : GA w X B G pm np s T) (hlv : ∀ c k a, s.g.mp (c, k) = some a → 0 ≤ c ∧ c < 8 ∧ 0 ≤ k ∧ k < 16) (o : Int) :
    Calls Try.prog 43 #[.pointer (some ⟨X, 0, none⟩), .int .i64 o] w fun e w' => e = .returned (.int .i64 (s.g.foreign o)) ∧ w.grownBy w' none := by
  have c0 := h.c0
  have c17 := h.c17
  have HMp := hid (show KMap Try.prog 192 key2 mpd0.val w G T (mpF s.g) from h.mp)
  have HL := hid hlv
  have hfl : (s.g.foreign o : Int) ≤ 128 := by
    have : s.g.foreign o ≤ 128 := Nat.le_trans (List.length_filter_le _ _) (by decide +kernel)
    omega
  clear h hlv
  go_enter Try.func43, Try.ntmps43
  go_wp2_with (first
    | (go_at_call 103; refine (gMade_yes X B _ c0).mono ?_; rintro e w1 ⟨rfl, rfl⟩)
    | (at_range; refine wpList_range_kmap _ rfl _ 108 rfl 190 key_ks Try.underlying108 mpd0.val G T _ rfl HMp.out ?_; intro w0 hrg0 hg0 hs0; have HRg := hid hrg0; have HG := hid hg0; clear hrg0 hg0 hs0))
  go_frame
  clear c0 c17
  go_loopw [5] (fun c wr => ∃ (left : Int × Int → Bool) (m : Nat), c = .int .i64 m ∧ m + fcnt s.g o left = s.g.foreign o ∧ KRange Try.prog 192 key2 mpd0.val wr G w.heap.size T (mpF s.g) left ∧ w.grownBy wr none) (fun _ wr => wr.rangeLeft G w.heap.size)
  case atStart => exact ⟨_, 0, rfl, by rw [fcnt_start]; omega, HRg.out, HG.out⟩
  case round =>
    obtain ⟨left, m, rfl, hm, hrg, hgw⟩ := hrel
    have HGw := hid hgw
    have HM := hid hm
    have hm0 : (0 : Int) ≤ m := by omega
    have hm1 : (m : Int) ≤ 128 := by omega
    clear hgw hm
    go_wp2_with (at_next; refine wpList_next_kmap _ rfl _ rfl key_ks mpd0.val G w.heap.size T _ left rfl hrg ?_ ?_)
    · intro hl0
      have HC := hid (fcnt_end (g := s.g) (o := o) (left := left) fun x => hl0 x.1 x.2)
      clear hl0
      go_wp2
      go_ret
      exact ⟨by have := HC.out; have := HM.out; rw [show m = s.g.foreign o by omega]; rfl, HGw.out⟩
    · intro c k v w1 hwx hlx hfx hrg1 hlt hg1 hs1 hen
      cases ha : s.g.mp (c, k) with
      | none => unfold mpF at hfx; rw [ha] at hfx; cases hfx
      | some a =>
        rw [mpF_some ha] at hfx
        obtain rfl : v = .agg #[.int .i64 a.h, .int .i64 a.c, .int .i64 a.o, .int .i64 a.r, .int .i64 a.m, .bool a.wr] := (Option.some.inj hfx).symm
        obtain ⟨r0, r1, r2, r3⟩ := HL.out c k a ha
        have HG1 := hid (HGw.out.andThen hg1 (fun j hj => by cases hj; exact .inl (Nat.le_refl _)))
        obtain ⟨hR1, hR2⟩ := hrg1.alloc (.cells #[.int .i64 a.h, .int .i64 a.c, .int .i64 a.o, .int .i64 a.r, .int .i64 a.m, .bool a.wr] 190)
        have HR1 := hid hR1
        have HLt := hid (show (w1.alloc (.cells #[.int .i64 a.h, .int .i64 a.c, .int .i64 a.o, .int .i64 a.r, .int .i64 a.m, .bool a.wr] 190)).rangeLeft G w.heap.size < wr.rangeLeft G w.heap.size by rw [hR2]; exact hlt)
        by_cases ho : a.o = o
        · have HSt := hid (fcnt_yes (mem_allKeys r0 r1 r2 r3) hlx ha ho)
          have hb : (a.o == o) = true := by simpa using ho
          clear hlx hfx hrg1 hlt hg1 hs1 hwx hrg hR1 hR2 ha ho r0 r1 r2 r3
          go_wp2
          go_roundw
          case rel => exact ⟨fun g => left g && decide (g ≠ (c, k)), m + 1, by go_num, by have := HM.out; have := HSt.out; omega, by have h := HR1.out; simpa using h, HG1.out.trans (World.grownBy_alloc _ _ none)⟩
          case measure => exact HLt.out
        · have HSt := hid (fcnt_no (left := left) ha ho)
          have hb : (a.o == o) = false := by simpa using ho
          clear hlx hfx hrg1 hlt hg1 hs1 hwx hrg hR1 hR2 ha ho r0 r1 r2 r3
          go_wp2
          go_roundw
          case rel => exact ⟨fun g => left g && decide (g ≠ (c, k)), m, rfl, by have := HM.out; have := HSt.out; omega, by have h := HR1.out; simpa using h, HG1.out.trans (World.grownBy_alloc _ _ none)⟩
          case measure => exact HLt.out
theorem GL.mach {s' : Gs} {T' : Nat} {w1 w2 : World} {M' : Mach} (h : GL w X B G pm np s' T' w1) (hm : PM w2 B M') (hg : w1.grownBy w2 (some B)) : GL w X B G pm np (s'.setM M') T' w2 :=
  ⟨h.a.mach hm hg, h.c.trans (Chg.of (S := fun k => k = B) hg fun j e => .inl (Option.some.inj e).symm) fun k e => .inl (.inr (.inl e))⟩
theorem GL.grown {s' : Gs} {T' : Nat} {w1 w2 : World} (h : GL w X B G pm np s' T' w1) (hg : w1.grownBy w2 none) : GL w X B G pm np s' T' w2 :=
  ⟨h.a.grown hg, h.c.trans (Chg.of0 (S := fun _ => False) hg) fun _ e => e.elim⟩
theorem GL.goes {s' : Gs} {T' : Nat} {w1 w2 : World} (h : GL w X B G pm np s' T' w1) (k : Int × Int) (hm : KMap Try.prog 192 key2 mpd0.val w2 G T' (fun i => if i = k then none else (s'.g.mp i).map Mpd.val)) (hg : w1.grownBy w2 (some G)) : GL w X B G pm np ⟨s'.M, s'.P, s'.g.setMp k none⟩ T' w2 :=
  ⟨h.a.live (Nat.le_refl _) (hm.congr fun i => by simp only [Gst.setMp]; by_cases e : i = k <;> simp [e]) rfl hg, h.c.trans (Chg.of (S := fun k => k = G) hg fun j e => .inl (Option.some.inj e).symm) fun k e => .inl (.inr (.inr (.inl e)))⟩
theorem gUnmap (h : GA w X B G pm np s T) {K : Int} (hok : s.M.ok K) (hK : K < 9223372036854775807) (c x : Int) (hxw : (Lit.int .i64 x).wf = true) :
    Calls Try.prog 44 #[.pointer (some ⟨X, 0, none⟩), .int .i64 c, .int .i64 x] w fun e w' => e = .returned (.int .i64 (s.unmap c x).1) ∧ GL w X B G pm np (s.unmap c x).2 T w' := by
  have HL := hid (gLive h c x hxw)
  obtain ⟨⟨a, q⟩, hl⟩ : ∃ y, s.live c x = y := ⟨_, rfl⟩
  rw [hl] at HL
  simp only [Mpd.val] at HL
  have H := hid h
  by_cases hq : q = 0
  · subst hq
    have e1 : s.unmap c x = (0, ⟨(s.M.put a.m (kindW a.wr)).2, s.P, s.g.setMp (c, x) none⟩) := by unfold Gs.unmap; rw [hl, if_pos rfl]
    rw [e1]
    have hd : gdom c = true := by
      cases hd : gdom c with
      | true => rfl
      | false => unfold Gs.live at hl; rw [if_pos hd] at hl; cases hl
    obtain ⟨h0, h1⟩ := gdom_yes.1 hd
    have HF := hid (show fit2 (c, x) from ⟨WalkArith.wf_i64 (by simp only; omega), hxw⟩)
    have HP := hid (fun w' (hm : PM w' B s.M) => Put_any B a.m (kindW a.wr) w' s.M K hm hok hK)
    obtain ⟨am, hm⟩ : ∃ am, a.m = am := ⟨_, rfl⟩
    obtain ⟨aw, hw⟩ : ∃ aw, a.wr = aw := ⟨_, rfl⟩
    rw [hm, hw] at HL HP ⊢
    clear h hok hd e1 hl hm hw hxw
    go_enter Try.func44, Try.ntmps44
    go_wp2_with (first
      | (go_at_call 112; refine HL.out.mono ?_; rintro e w1 ⟨rfl, g1⟩; obtain ⟨W2, hW2⟩ : ∃ W, w1.alloc (.cells #[.int .i64 a.h, .int .i64 a.c, .int .i64 a.o, .int .i64 a.r, .int .i64 am, .bool aw] 190) = W := ⟨_, rfl⟩; have g2 : w1.grownBy W2 none := hW2 ▸ World.grownBy_alloc _ _ none; have H2 := hid ((GL.same H.out).grown (g1.trans g2)); have c0 := H2.out.a.c0; have c17 := H2.out.a.c17; have z4 : W2.cell? ⟨w1.heap.size, 4, none⟩ = some (.int .i64 am) := (by rw [← hW2]; simp [go_sem]); have z5 : W2.cell? ⟨w1.heap.size, 5, none⟩ = some (.bool aw) := (by rw [← hW2]; simp [go_sem]); have HGne := hid (show G ≠ w1.heap.size from fun e => by have := (H.out.grown g1).mp.lt; omega); have HBne := hid (show B ≠ w1.heap.size from fun e => by have := (H.out.grown g1).m.lt; omega); clear g1 g2)
      | (at_delete; refine wpList_delete_kmap _ rfl _ _ 108 rfl 190 key_ks Try.underlying108 mpd0.val G T _ rfl H2.out.a.mp (c, x) rfl HF.out ?_; intro w5 h5 g5; have H5 := hid (H2.out.goes (c, x) h5 g5); have y4 := g5.cell z4 (fun e => HGne.out (Option.some.inj e).symm); have y5 := g5.cell z5 (fun e => HGne.out (Option.some.inj e).symm); have d0 := H5.out.a.c0; clear h5 g5 c0 c17))
    have q0 : w5.drew.cell? ⟨X, 0, none⟩ = some (.pointer (some ⟨B, 0, none⟩)) := d0
    have q4 : w5.drew.cell? ⟨w1.heap.size, 4, none⟩ = some (.int .i64 am) := y4
    have q5 : w5.drew.cell? ⟨w1.heap.size, 5, none⟩ = some (.bool aw) := y5
    clear z4 z5 y4 y5 d0
    go_region_held3 (fun w' => w'.cell? ⟨X, 0, none⟩ = some (.pointer (some ⟨B, 0, none⟩)) ∧ w'.cell? ⟨w1.heap.size, 4, none⟩ = some (.int .i64 am) ∧ w'.cell? ⟨w1.heap.size, 5, none⟩ = some (.bool aw)) (first | exact ⟨by assumption, by assumption, by assumption⟩ | go_keep)
      (first
        | (go_at_call 110; (with_reducible refine (gKind _ _).mono ?_); rintro e w' ⟨rfl, rfl⟩)
        | (go_at_call 71; (with_reducible refine (HP.out _ H5.out.a.m.drew).mono ?_); rintro e w6 ⟨rfl, h6, g6⟩; have H6 := hid (H5.out.mach h6 ((grownBy_drew w5 _).trans g6)); have k0 := H6.out.a.c0; have k4 := g6.cell q4 (fun e => HBne.out (Option.some.inj e).symm); have k5 := g6.cell q5 (fun e => HBne.out (Option.some.inj e).symm); clear h6 g6))
    go_wp2
    go_ret
    exact ⟨rfl, H6.out⟩
  · have e1 : s.unmap c x = (q, s) := by unfold Gs.unmap; rw [hl, if_neg hq]
    rw [e1]
    have hb : (q != 0) = true := by simpa using hq
    clear h hok e1 hl hq hxw
    go_enter Try.func44, Try.ntmps44
    go_wp2_with (go_at_call 112; refine HL.out.mono ?_; rintro e w1 ⟨rfl, g1⟩; have G1 := hid g1; clear g1)
    go_ret
    exact ⟨rfl, (GL.same H.out).grown (G1.out.trans (World.grownBy_alloc _ _ none))⟩
end
end Go.Proofs.Ytibiianmpajabaa

/-
  Package grant: a further map of places, a further view. No walk here.
-/
set_option linter.unusedSimpArgs false
set_option linter.unusedVariables false
namespace Go.Proofs.Ytibiianmpajabaa
open Go.RowKit KM

def upPm (pm : Nat → Nat × Nat × Nat) (i : Nat) (x : Nat × Nat × Nat) : Nat → Nat × Nat × Nat := fun j => if j = i then x else pm j
theorem upPm_same (pm : Nat → Nat × Nat × Nat) (i : Nat) (x : Nat × Nat × Nat) : upPm pm i x i = x := by simp [upPm]
theorem upPm_other (pm : Nat → Nat × Nat × Nat) (i j : Nat) (x : Nat × Nat × Nat) (h : j ≠ i) : upPm pm i x j = pm j := by simp [upPm, h]
section
variable {w w' : World} {X B G : Nat} {pm : Nat → Nat × Nat × Nat} {np : Nat} {s : Gs} {T : Nat}
/-- a map of places is made -/
theorem GA.add (h : GA w X B G pm np s T) (hmem : ∀ d t i, s.g.mem d = some (t, i) → i < np) {b f p T0 : Nat} {Q : Mp} (hP : PMap w' b f p Q T0) (hT : T0 ≤ T) (hg : w.grownBy w' none) (hf : ∀ k, pfoot b f p k → w.heap.size ≤ k) :
    GA w' X B G (upPm pm np (b, f, p)) (np + 1) ⟨s.M, upP s.P np Q, s.g⟩ T := by
  have h' := h.grown hg
  have hold : ∀ i, i < np → upPm pm np (b, f, p) i = pm i := fun i hi => upPm_other _ _ _ _ (by omega)
  have hlt : ∀ i, i < np → ∀ k, pft pm i k → k < w.heap.size := fun i hi k hk => h.lt (.inr (.inr (.inr ⟨i, hi, hk⟩)))
  have hpf : ∀ i, i < np → ∀ k, pft (upPm pm np (b, f, p)) i k ↔ pft pm i k := fun i hi k => by unfold pft; rw [hold i hi]
  have hnew : ∀ k, pft (upPm pm np (b, f, p)) np k ↔ pfoot b f p k := fun k => by unfold pft; rw [upPm_same]
  refine ⟨h'.top.congr fun k hk => ?_, h'.mp, h'.m, fun i hi => ?_, fun i j hi hj hij k hk hk2 => ?_, fun i hi hk => ?_⟩
  · unfold gtop
    have hpl : ∀ d, plcV (fun i => (upPm pm np (b, f, p) i).1) (s.g.mem d) = plcV (fun i => (pm i).1) (s.g.mem d) := fun d => by
      cases hm : s.g.mem d with
      | none => rfl
      | some x => obtain ⟨t, i⟩ := x; simp only [plcV]; rw [hold i (hmem d t i hm)]
    rw [hpl]
  · by_cases e : i = np
    · subst e; simp only [upPm_same, upP_same]; exact hP.mono hT
    · rw [hold i (by omega)]; simp only [upP_other _ _ _ _ e]; exact h'.p i (by omega)
  · by_cases e : i = np
    · subst e
      have hj' : j < i := by omega
      have h1 := hf k ((hnew k).1 hk)
      have h2 := hlt j hj' k ((hpf j hj' k).1 hk2)
      omega
    · have hi' : i < np := by omega
      have hk' := (hpf i hi' k).1 hk
      by_cases e2 : j = np
      · subst e2
        have h1 := hf k ((hnew k).1 hk2)
        have h2 := hlt i hi' k hk'
        omega
      · have hj' : j < np := by omega
        exact h.sep i j hi' hj' hij k hk' ((hpf j hj' k).1 hk2)
  · by_cases e : i = np
    · subst e
      have h1 := hf G ((hnew G).1 hk)
      have h2 := h.mp.lt
      omega
    · have hi' : i < np := by omega
      exact h.gp i hi' ((hpf i hi' G).1 hk)
/-- grants that New made -/
theorem GA.start {B : Nat} {M : Mach} (hM : PM w' B M) (ht : Row w' (w.heap.size + 1) 110 18 (gtop B w.heap.size (fun _ => 0) gst0)) (hm : GMap w' w.heap.size 0 gst0) (pm : Nat → Nat × Nat × Nat) (P : Nat → Mp) :
    GA w' (w.heap.size + 1) B w.heap.size pm 0 ⟨M, P, gst0⟩ 0 :=
  ⟨ht.congr fun k _ => by
    unfold gtop
    by_cases h0 : k = 0
    · simp [h0]
    · rw [if_neg h0, if_neg h0]
      by_cases h7 : k = 17
      · simp [h7]
      · rw [if_neg h7, if_neg h7]; rfl, hm, hM, fun i hi => by omega, fun i j hi => by omega, fun i hi => by omega⟩
/-- a view of the machine is made -/
theorem GA.view (h : GA w X B G pm np s T) {l : List PokeV} {f : Int → Option Value} (hv : VV w' (w.heap.size + 1) w.heap.size B (fun k => w.heap.size + 2 ≤ k ∧ k < w'.heap.size) l 0 l.length f) (hg : w.grownBy w' none) :
    GW w' X B G pm np s T (w.heap.size + 1) w.heap.size (fun k => w.heap.size + 2 ≤ k ∧ k < w'.heap.size) l 0 :=
  ⟨h.grown hg, ⟨f, hv⟩, fun k hk e => by
    have := h.lt e
    rcases hk with rfl | rfl | ⟨hk, _⟩ <;> omega⟩
/-- another view stays as it is while one reads -/
theorem GW.beside {V Gv V2 G2 : Nat} {S S2 : Nat → Prop} {l l2 : List PokeV} {n n2 n' T2 : Nat} {s' : Gs} (h2 : GW w X B G pm np s T V2 G2 S2 l2 n2) (h : GR w X B G pm np s' T2 V Gv S l n' w') (hV : ¬ vfoot V2 G2 S2 V) (hG : ¬ vfoot V2 G2 S2 Gv) : GW w' X B G pm np s' T2 V2 G2 S2 l2 n2 := by
  obtain ⟨f, hv⟩ := h2.v
  refine ⟨h.a.a, ⟨f, hv.chg h.c fun k hk e => ?_⟩, h2.ap⟩
  rcases e with e | e | e
  · exact h2.ap k hk e
  · exact hV (e ▸ hk)
  · exact hG (e ▸ hk)
theorem Gs.due_nil (s : Gs) {l : List PokeV} {n : Nat} (h : Go.Proofs.Ytibiianmpajabaa.due l n = []) : s.due l n = s := by unfold Gs.due; rw [h]; rfl
theorem Gs.join_ok {s : Gs} {K : Int} (h : s.M.ok K) (d m : Int) (i : Nat) : (s.join d m i).2.M.ok (K + 1) := by
  have h1 := h.mono (T' := K + 1) (by omega)
  unfold Gs.join
  split
  · exact h1
  split
  · exact h1
  split
  · exact Mach.get_ok h _ _ _
  · exact h1
end
end Go.Proofs.Ytibiianmpajabaa

/-
  Package grant: Pull of a grant's end by one contract.
-/
set_option linter.unusedSimpArgs false
set_option linter.unusedVariables false
namespace Go.Proofs.Ytibiianmpajabaa
open Go.RowKit KM

theorem BG.nil (w : World) (q : Option Addr) : BG w q [] := fun k hk => absurd hk (by simp)
def Gs.pullG (s : Gs) (l : List PokeV) (n d r : Nat) (c off k : Int) : List UInt8 × Int × Gs × Nat :=
  match (s.due l n).endG ((s.due l n).entB d r) c d with
  | none => ([], 60, s.due l n, n + 1)
  | some (m, g) => if g.len - off < k then ([], 63, s.due l n, n + 1) else ((((s.due l n).due l (n + 1)).M.read m (g.off + off) k).1, 0, (s.due l n).due l (n + 1), n + 1 + 1)
section
variable {w : World} {X B G : Nat} {pm : Nat → Nat × Nat × Nat} {np : Nat} {s : Gs} {T : Nat} {V Gv : Nat} {S : Nat → Prop} {l : List PokeV} {n : Nat}
theorem gPullG (h : GW w X B G pm np s T V Gv S l n) {K : Int} (hok : s.M.ok K) (hl : ∀ p ∈ l, p.fits) (hll : l.length ≤ 64) (hn : (n : Int) + 1 < 9223372036854775807) (c : Int) (hc : gdom c = true) (d r : Nat) (hd : d < 8) (hr : r < 32) (t : Int) (i : Nat) (hm : s.g.mem d = some (t, i)) (ht0 : 0 ≤ t) (ht1 : t < s.M.n) (hi : i < np) (p off k : Int) (ho : 0 ≤ off) (ho2 : off ≤ 9223372036854775807) (hk : 0 ≤ k) (P : List UInt8 × Int × Gs × Nat) (hP : s.pullG l n d r c off k = P) :
    Calls Try.prog 51 #[.pointer (some ⟨X, 0, none⟩), .pointer (some ⟨V, 0, none⟩), .int .i64 c, .agg #[.bool true, .int .i64 d, .int .i64 r, .int .i64 p, .int .i64 off], .int .i64 k] w fun e w' =>
      ∃ q cp, e = .returned (.tuple #[.slice q P.1.length cp, .int .i64 P.2.1]) ∧ KeptBytes w' (fun k => w.heap.size ≤ k) q P.1 ∧ GR w X B G pm np P.2.2.1 T V Gv S l P.2.2.2 w' := by
  subst hP
  unfold Gs.pullG
  cases hR : (s.due l n).endG ((s.due l n).entB d r) c d with
  | none =>
    exact (gPullG_no h hok hl hll (by omega) c hc d r hd hr t i hm ht0 ht1 hi p off k ho hk hR).mono fun e w' ⟨he, hg⟩ => ⟨none, 0, he, .inl rfl, hg⟩
  | some mg =>
    obtain ⟨m, g⟩ := mg
    simp only
    by_cases hx : g.len - off < k
    · rw [if_pos hx]
      exact (gPullG_range h hok hl hll (by omega) c hc d r hd hr t i hm ht0 ht1 hi p off k ho ho2 hk m g hR hx).mono fun e w' ⟨he, hg⟩ => ⟨none, 0, he, .inl rfl, hg⟩
    · rw [if_neg hx]
      exact (gPullG_yes h hok hl hll hn c hc d r hd hr t i hm ht0 ht1 hi p off k ho hk m g hR (by omega)).mono fun e w' ⟨⟨q, cp, he, hb⟩, hg⟩ => ⟨q, cp, he, hb, hg⟩
end
/-- an entry's bytes as bytes apart from a block -/
theorem BG.is {w : World} {q : Option Addr} {bs : List UInt8} (h : BG w q bs) (cap B : Nat) (hB : ∀ b o, q = some ⟨b, o, none⟩ → b ≠ B) : IsBytes w B (.slice q bs.length cap) bs := by
  cases bs with
  | nil => exact .inl ⟨⟨_, _, rfl⟩, rfl⟩
  | cons x xs =>
    obtain ⟨g, o, rfl, _⟩ := h 0 (by simp)
    refine .inr ⟨_, _, rfl, hB g o rfl, fun k y hy => ?_⟩
    obtain ⟨hk, rfl⟩ := List.getElem?_eq_some_iff.1 hy
    obtain ⟨g', o', e, hc⟩ := h k hk
    cases e
    have e : (⟨g, o, none⟩ : Addr).add k = ⟨g, o + k, none⟩ := by unfold Addr.add; split <;> simp_all
    rw [e, hc]
    simp [List.getD, List.getElem?_eq_getElem hk]
end Go.Proofs.Ytibiianmpajabaa
