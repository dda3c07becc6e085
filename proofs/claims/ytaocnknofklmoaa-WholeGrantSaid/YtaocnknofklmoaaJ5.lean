/-
  Package grant: entry, the one read of an entry. (Written by gen_gmd.py.)
-/
import Derived.Test.YtaocnknofklmoaaJ4
import Derived.IntWalk
import Derived.Handy
set_option linter.unusedSimpArgs false
set_option linter.unusedVariables false
namespace Go.Proofs.Ytaocnknofklmoaa
open Go.RowKit KM
set_option maxHeartbeats 1000000
set_option maxRecDepth 100000

theorem fresh_bg {w' : World} {S : Nat → Prop} {q : Option Addr} {b : List UInt8} (h : KeptBytes w' S q b) : BG w' q b := fun k hk => by
  rcases h with h | ⟨g, hq, _, hc⟩
  · rw [h] at hk; cases hk
  · exact ⟨g, 0, hq, by rw [Nat.zero_add]; exact hc k hk⟩
theorem unG_ok (b : Nat → Nat) (hb : ∀ k, b k < 256) (h : (unG b).2 = 0) : 0 ≤ (unG b).1.gpfn ∧ (unG b).1.gpfn < 65536 ∧ 0 ≤ (unG b).1.off ∧ 1 ≤ (unG b).1.len ∧ (unG b).1.off + (unG b).1.len ≤ 256 := by
  have h4 := hb 4; have h5 := hb 5; have h6 := hb 6; have h7 := hb 7
  unfold unG at h ⊢
  split
  · rename_i h1; rw [if_pos h1] at h; cases h
  · rename_i h1
    rw [if_neg h1] at h
    split
    · rename_i h2
      rw [if_pos h2] at h
      split
      · rename_i h3; rw [if_pos h3] at h; cases h
      · simp only; omega
    · simp only; omega
theorem unpG_ok (b : List UInt8) (h : (unpG b).2 = 0) : 0 ≤ (unpG b).1.gpfn ∧ (unpG b).1.gpfn < 65536 ∧ 0 ≤ (unpG b).1.off ∧ 1 ≤ (unpG b).1.len ∧ (unpG b).1.off + (unpG b).1.len ≤ 256 := by
  unfold unpG at h ⊢
  by_cases hl : b.length = 8
  · rw [if_pos hl] at h ⊢
    exact unG_ok _ (fun k => UInt8.toNat_lt _) h
  · rw [if_neg hl] at h; cases h
theorem entV_ok {b : List UInt8} {kind c : Int} {g : GV} (h : entV b kind c = some g) : 0 ≤ g.gpfn ∧ g.gpfn < 65536 ∧ 0 ≤ g.off ∧ 1 ≤ g.len ∧ g.off + g.len ≤ 256 := by
  unfold entV at h
  split at h
  · rename_i h1
    cases h
    exact unpG_ok b h1.1
  · cases h
def entRet : Option GV → Value
  | some g => .tuple #[.agg #[.int .i64 g.k, .bool g.ro, .bool g.sub, .int .i64 g.dom, .int .i64 g.gpfn, .int .i64 g.off, .int .i64 g.len], .int .i64 0]
  | none => .tuple #[.agg #[.int .i64 0, .bool false, .bool false, .int .i64 0, .int .i64 0, .int .i64 0, .int .i64 0], .int .i64 60]
/-- what an entry's bytes are behind the rewrites that are due -/
def Gs.entB (s : Gs) (d r : Int) : List UInt8 := (s.M.read (s.table d) (8 * r) 8).1
def Gs.due (s : Gs) (l : List PokeV) (n : Nat) : Gs := s.setM (s.M.rews (Go.Proofs.Ytaocnknofklmoaa.due l n))
section
variable {w : World} {X B G : Nat} {pm : Nat → Nat × Nat × Nat} {np : Nat} {s : Gs} {T : Nat} {V Gv : Nat} {S : Nat → Prop} {l : List PokeV} {n : Nat}
/-- a call that may have read once through the view -/
structure GR (w : World) (X B G : Nat) (pm : Nat → Nat × Nat × Nat) (np : Nat) (s' : Gs) (T' : Nat) (V Gv : Nat) (S : Nat → Prop) (l : List PokeV) (n' : Nat) (w' : World) : Prop where
  a : GW w' X B G pm np s' T' V Gv S l n'
  c : Chg (avfoot X B G pm np V Gv) w w'
theorem GW.fresh (h : GW w X B G pm np s T V Gv S l n) {b : Nat} (hb : w.heap.size ≤ b) : ¬ gfoot X B G pm np b ∧ ¬ vfoot V Gv S b ∧ ¬ avfoot X B G pm np V Gv b := by
  obtain ⟨f, hv⟩ := h.v
  have h1 : ¬ gfoot X B G pm np b := fun e => by have := h.a.lt e; omega
  have h2 : ¬ vfoot V Gv S b := fun e => by have := hv.foot_lt e; omega
  exact ⟨h1, h2, fun e => by
    rcases e with e | e | e
    · exact h1 e
    · exact h2 (.inl e)
    · exact h2 (.inr (.inl e))⟩
theorem GW.own (h : GW w X B G pm np s T V Gv S l n) {b : Nat} (hb : ¬ gfoot X B G pm np b) (hv : ¬ vfoot V Gv S b) {w' : World} (hg : w.grownBy w' (some b)) : GW w' X B G pm np s T V Gv S l n := by
  obtain ⟨f, hf⟩ := h.v
  have hc : Chg (fun k => k = b) w w' := Chg.of hg fun j e => .inl (Option.some.inj e).symm
  exact ⟨h.a.chg hc fun k hk e => hb (e ▸ hk), ⟨f, hf.chg hc fun k hk e => hv (e ▸ hk)⟩, h.ap⟩
theorem GR.own {s' : Gs} {T' n' : Nat} {w1 w2 : World} (h0 : GW w X B G pm np s T V Gv S l n) (h : GR w X B G pm np s' T' V Gv S l n' w1) {b : Nat} (hb : w.heap.size ≤ b) (hg : w1.grownBy w2 (some b)) : GR w X B G pm np s' T' V Gv S l n' w2 := by
  obtain ⟨a, b', c⟩ := h0.fresh hb
  exact ⟨h.a.own a b' hg, h.c.trans (Chg.of (S := fun k => k = b) hg fun j e => .inl (Option.some.inj e).symm) fun k e => .inr (e ▸ hb)⟩
theorem GR.grown {s' : Gs} {T' n' : Nat} {w1 w2 : World} (h : GR w X B G pm np s' T' V Gv S l n' w1) (hg : w1.grownBy w2 none) : GR w X B G pm np s' T' V Gv S l n' w2 :=
  ⟨h.a.grown hg, h.c.trans (Chg.of0 (S := fun _ => False) hg) fun _ e => e.elim⟩
theorem GW.mono (h : GW w X B G pm np s T V Gv S l n) {T' : Nat} (hT : T ≤ T') : GW w X B G pm np s T' V Gv S l n := ⟨h.a.mono hT, h.v, h.ap⟩
theorem GR.mono {s' : Gs} {T' T'' n' : Nat} {w1 : World} (h : GR w X B G pm np s' T' V Gv S l n' w1) (hT : T' ≤ T'') : GR w X B G pm np s' T'' V Gv S l n' w1 := ⟨h.a.mono hT, h.c⟩
/-- ahead of it memory was made -/
theorem GR.first {s' : Gs} {T' n' : Nat} {w1 w2 : World} (h0 : GW w X B G pm np s T V Gv S l n) (hg : w.grownBy w1 none) (h : GR w1 X B G pm np s' T' V Gv S l n' w2) : GR w X B G pm np s' T' V Gv S l n' w2 :=
  ⟨h.a, (Chg.of0 (S := avfoot X B G pm np V Gv) hg).trans h.c fun _ e => .inl e⟩
theorem GR.mach {s' : Gs} {T' n' : Nat} {w1 w2 : World} {M' : Mach} (h : GR w X B G pm np s' T' V Gv S l n' w1) (hm : PM w2 B M') (hg : w1.grownBy w2 (some B)) : GR w X B G pm np (s'.setM M') T' V Gv S l n' w2 :=
  ⟨h.a.left (h.a.a.mach hm hg) (Chg.of hg fun j e => .inl (.inr (.inl (Option.some.inj e).symm))), h.c.trans (Chg.of (S := fun k => k = B) hg fun j e => .inl (Option.some.inj e).symm) fun k e => .inl (.inl (.inr (.inl e)))⟩
theorem GR.lives {s' : Gs} {T' n' : Nat} {w1 w2 : World} (h : GR w X B G pm np s' T' V Gv S l n' w1) (k : Int × Int) (a : Mpd) (hm : KM.KMap Try.prog 200 KM.key2 mpd0.val w2 G (T' + 1) (fun i => if i = k then some a.val else (s'.g.mp i).map Mpd.val)) (hg : w1.grownBy w2 (some G)) : GR w X B G pm np ⟨s'.M, s'.P, s'.g.setMp k (some a)⟩ (T' + 1) V Gv S l n' w2 :=
  ⟨h.a.left (h.a.a.live (Nat.le_succ _) (hm.congr fun i => by simp only [Gst.setMp]; by_cases e : i = k <;> simp [e]) rfl hg) (Chg.of hg fun j e => .inl (.inr (.inr (.inl (Option.some.inj e).symm)))), h.c.trans (Chg.of (S := fun k => k = G) hg fun j e => .inl (Option.some.inj e).symm) fun k e => .inl (.inl (.inr (.inr (.inl e))))⟩
theorem gEntry (h : GW w X B G pm np s T V Gv S l n) {K : Int} (hok : s.M.ok K) (hl : ∀ p ∈ l, p.fits) (hll : l.length ≤ 64) (hn : (n : Int) < 9223372036854775807) (d : Nat) (hd : d < 8) (t : Int) (i : Nat) (hm : s.g.mem d = some (t, i)) (ht0 : 0 ≤ t) (ht1 : t < s.M.n) (r : Nat) (hr : r < 32) (kind c : Int) (R : Option GV) (hR : entV ((s.due l n).entB d r) kind c = R) :
    Calls Try.prog 116 #[.pointer (some ⟨X, 0, none⟩), .pointer (some ⟨V, 0, none⟩), .agg #[.int .i64 d, .int .i64 r], .int .i64 kind, .int .i64 c] w fun e w' =>
      e = .returned (entRet R) ∧ GR w X B G pm np (s.due l n) T V Gv S l (n + 1) w' := by
  obtain ⟨W1, hW1⟩ : ∃ W, w.alloc (.cells #[.int .i64 d, .int .i64 r] 194) = W := ⟨_, rfl⟩
  obtain ⟨W2, hW2⟩ : ∃ W, W1.alloc (.cells #[.int .i64 0, .bool false, .bool false, .int .i64 0, .int .i64 0, .int .i64 0, .int .i64 0] 73) = W := ⟨_, rfl⟩
  have hg1 : w.grownBy W1 none := hW1 ▸ World.grownBy_alloc _ _ none
  have hg2 : W1.grownBy W2 none := hW2 ▸ World.grownBy_alloc _ _ none
  have hg3 := (hg1.trans hg2).trans (grownBy_drew W2 none)
  have s1 : W1.heap.size = w.heap.size + 1 := by rw [← hW1]; simp
  have q0 : W2.cell? ⟨w.heap.size, 0, none⟩ = some (.int .i64 d) := hg2.cell (by rw [← hW1]; simp [go_sem]) (by simp)
  have q1 : W2.cell? ⟨w.heap.size, 1, none⟩ = some (.int .i64 r) := hg2.cell (by rw [← hW1]; simp [go_sem]) (by simp)
  have hA2 := h.grown hg3
  have c1 : W2.cell? ⟨X, 1 + d * 2, none⟩ = some (.int .i64 t) := by have := (h.a.grown (hg1.trans hg2)).tbl hd; rw [hm] at this; exact this
  have HCw := hid (Chg.of0 (S := avfoot X B G pm np V Gv) hg3)
  have HR : Hid (Calls Try.prog 86 #[.pointer (some ⟨V, 0, none⟩), .int .i64 t, .int .i64 (8 * (r : Int)), .int .i64 8] W2.drew fun e w' => ∃ v, e = .returned (.tuple #[v, .int .i64 0]) ∧ FreshB W2.drew ((s.due l n).entB d r) v w' ∧ VRead W2.drew V Gv B S l n l.length s.M w') := by
    obtain ⟨f, hv⟩ := hA2.v
    refine hid ((vRead V Gv B S l n l.length f t (8 * (r : Int)) 8 W2.drew s.M K hv hA2.a.m hok hl hn hll (by omega)).mono fun e w' ⟨v, he, h1, h2⟩ => ⟨v, ?_, ?_, h2⟩)
    · rw [he, read_good (by rw [Mach.is_iff, Mach.rews_n]; exact ⟨ht0, ht1⟩) (inP_yes (by omega) (by omega) (by omega))]
    · have e1 : s.table d = t := by unfold Gs.table; rw [Int.toNat_natCast, hm]
      unfold Gs.entB
      rw [show (s.due l n).table d = t from e1]
      exact h1
  have HG2 := hid hA2
  have HNs := hid (h.fresh (Nat.le_refl w.heap.size)).2.2
  have HRs := hid (show Row W2.drew w.heap.size 194 2 (fun k => if k = 0 then .int .i64 d else .int .i64 r) from Row.grown (Gen.Row.new w #[.int .i64 d, .int .i64 r] 194 2 _ (by simp) (fun k hk => by match k, hk with | 0, _ => rfl | 1, _ => rfl) : Row (w.alloc (.cells #[.int .i64 d, .int .i64 r] 194)) w.heap.size 194 2 _) (hW1 ▸ hg2.trans (grownBy_drew W2 none)) (by simp))
  have HTb := hid (fun w' (h' : GW w' X B G pm np (s.setM (s.M.rews (Go.Proofs.Ytaocnknofklmoaa.due l n))) T V Gv S l (n + 1)) => (by have := h'.a.tbl hd; rw [show (s.setM (s.M.rews (Go.Proofs.Ytaocnknofklmoaa.due l n))).g.mem d = some (t, i) from hm] at this; exact this : w'.cell? ⟨X, 1 + d * 2, none⟩ = some (.int .i64 t)))
  replace q0 : W2.drew.cell? ⟨w.heap.size, 0, none⟩ = some (.int .i64 d) := q0
  replace q1 : W2.drew.cell? ⟨w.heap.size, 1, none⟩ = some (.int .i64 r) := q1
  replace c1 : W2.drew.cell? ⟨X, 1 + d * 2, none⟩ = some (.int .i64 t) := c1
  have H0 := hid h
  have HSz := hid (show w.heap.size ≤ W1.heap.size by omega)
  have HNa := hid (h.fresh HSz.out).2.2
  have HRw := hid (show Row W2.drew W1.heap.size 73 7 (sevV (.int .i64 0) (.bool false) (.bool false) (.int .i64 0) (.int .i64 0) (.int .i64 0) (.int .i64 0)) from (hW2 ▸ rowB W1 _ _ _ _ _ _ _ : Row W2 W1.heap.size 73 7 _))
  have hr0 : (0 : Int) ≤ r := by omega
  have hr1 : (r : Int) ≤ 31 := by omega
  have hd0 : (0 : Int) ≤ d := by omega
  have hd1 : (d : Int) < 8 := by omega
  have hX : X < W2.heap.size := (h.a.grown (hg1.trans hg2)).top.lt
  obtain ⟨bs, hbs⟩ : ∃ bs, (s.due l n).entB d r = bs := ⟨_, rfl⟩
  rw [hbs] at HR hR
  obtain ⟨⟨⟨k, ro, sub, dm, p, off, ln⟩, x⟩, hu⟩ : ∃ y, unpG bs = y := ⟨_, rfl⟩
  clear h hok hl hll hn hm hg1 hg2 hg3 hA2 hbs ht0 ht1 hr hd s1
  have HW1 := hid hW1
  by_cases hx : x = 0
  · subst hx
    by_cases hk : k = kind
    · subst hk
      by_cases hc : dm = c
      · subst hc
        have hR' : R = some ⟨k, ro, sub, dm, p, off, ln⟩ := by rw [← hR]; unfold entV; rw [hu]; simp
        subst hR'
        have hb1 : (k != k) = false := by simp
        have hb2 : (dm != dm) = false := by simp
        clear hR
        simp only [entRet]
        have HU := hid (fun w' q k (hb : BG w' q bs) => (gPn bs q k w' hb))
        rw [hu] at HU
        simp only [GV.val] at HU
        clear hu
        go_enter Try.func116, Try.ntmps116
        go_wp2_with fail
        have hwr : IntKind.i64.wrap (8 * (r : Int)) = 8 * (r : Int) := IntWalk.i64_in _ (by omega)
        go_region_held3 (fun w' => w'.cell? ⟨w.heap.size, 0, none⟩ = some (.int .i64 d) ∧ w'.cell? ⟨w.heap.size, 1, none⟩ = some (.int .i64 r) ∧ w'.cell? ⟨X, 1 + d * 2, none⟩ = some (.int .i64 t)) (first | exact ⟨by assumption, by assumption, by assumption⟩ | go_keep)
          (first
            | (go_at_call 86; (with_reducible refine HR.out.mono ?_); rintro e w3 ⟨v, rfl, ⟨q, cp, rfl, hq⟩, hr⟩; have HG3 := hid (HG2.out.read hr); have HC3 := hid (GW.readChg (X := X) (B := B) (G := G) (pm := pm) (np := np) hr); have HB := hid (fresh_bg hq); have HRs3 := Row.chg HRs.out HC3.out HNs.out; have HRw3 := hid (Row.chg HRw.out HC3.out HNa.out); have q0 := HRs3.cell (k := 0) (by omega); have q1 := HRs3.cell (k := 1) (by omega); have c1 := HTb.out _ HG3.out; clear hr hq HRs3))
        go_wp2_with (first
          | (go_at_call 40; refine (HU.out _ _ _ HB.out).mono ?_; rintro e w4 ⟨rfl, g4⟩; have HG4 := hid (HG3.out.grown g4); have HRw4 := hid (Row.grown HRw3.out g4 (by simp)); have HC4 := hid ((HCw.out.trans HC3.out fun _ e => .inl e).trans (Chg.of0 (S := fun _ => False) g4) fun _ e => e.elim); have G4 := hid g4; have z0 := fun ob => (Row.alloc HRw4.out ob).cell (k := 0) (by omega); have z1 := fun ob => (Row.alloc HRw4.out ob).cell (k := 1) (by omega); have z2 := fun ob => (Row.alloc HRw4.out ob).cell (k := 2) (by omega); have z3 := fun ob => (Row.alloc HRw4.out ob).cell (k := 3) (by omega); have z4 := fun ob => (Row.alloc HRw4.out ob).cell (k := 4) (by omega); have z5 := fun ob => (Row.alloc HRw4.out ob).cell (k := 5) (by omega); have z6 := fun ob => (Row.alloc HRw4.out ob).cell (k := 6) (by omega); have zf := fun ob k => (Row.alloc HRw4.out ob).frozen k; simp only [sevV, List.getD_cons_zero, List.getD_cons_succ] at z0 z1 z2 z3 z4 z5 z6; clear g4))
        obtain ⟨XX, hXX⟩ : ∃ XX, w4.alloc (Obj.cells #[.int .i64 k, .bool ro, .bool sub, .int .i64 dm, .int .i64 p, .int .i64 off, .int .i64 ln] 73) = XX := ⟨_, rfl⟩
        have rs := set7 (hXX ▸ Row.alloc HRw4.out _ : Row XX W1.heap.size 73 7 _) (.int .i64 k) (.bool ro) (.bool sub) (.int .i64 dm) (.int .i64 p) (.int .i64 off) (.int .i64 ln)
        have gs := set7_grown XX W1.heap.size (.int .i64 k) (.bool ro) (.bool sub) (.int .i64 dm) (.int .i64 p) (.int .i64 off) (.int .i64 ln)
        have hE : w4.grownBy _ (some W1.heap.size) := (hXX ▸ World.grownBy_alloc _ _ _ : w4.grownBy XX (some W1.heap.size)).trans gs
        rw [hXX]
        clear z0 z1 z2 z3 z4 z5 z6 zf hXX gs
        generalize (((((((XX.setCell ⟨W1.heap.size, 0, none⟩ (.int .i64 k)).setCell ⟨W1.heap.size, 1, none⟩ (.bool ro)).setCell ⟨W1.heap.size, 2, none⟩ (.bool sub)).setCell ⟨W1.heap.size, 3, none⟩ (.int .i64 dm)).setCell ⟨W1.heap.size, 4, none⟩ (.int .i64 p)).setCell ⟨W1.heap.size, 5, none⟩ (.int .i64 off)).setCell ⟨W1.heap.size, 6, none⟩ (.int .i64 ln)) = W9 at *
        have z0 := rs.cell (k := 0) (by omega); have z1 := rs.cell (k := 1) (by omega); have z2 := rs.cell (k := 2) (by omega); have z3 := rs.cell (k := 3) (by omega); have z4 := rs.cell (k := 4) (by omega); have z5 := rs.cell (k := 5) (by omega); have z6 := rs.cell (k := 6) (by omega)
        simp only [sevV, List.getD_cons_zero, List.getD_cons_succ] at z0 z1 z2 z3 z4 z5 z6
        clear rs
        refine bodyPost_ret (v := .tuple #[.agg #[.int .i64 k, .bool ro, .bool sub, .int .i64 dm, .int .i64 p, .int .i64 off, .int .i64 ln], .int .i64 0]) (by simp [results, Try.results116, go_sem, z0, z1, z2, z3, z4, z5, z6]) rfl ⟨rfl, GR.own H0.out ⟨HG4.out, HC4.out⟩ HSz.out hE⟩
      · have hR' : R = none := by rw [← hR]; unfold entV; rw [hu]; simp [hc]
        subst hR'
        have hb1 : (k != k) = false := by simp
        have hb2 : (dm != c) = true := by simpa using hc
        clear hR hc
        simp only [entRet]
        have HU := hid (fun w' q k (hb : BG w' q bs) => (gPn bs q k w' hb))
        rw [hu] at HU
        simp only [GV.val] at HU
        clear hu
        go_enter Try.func116, Try.ntmps116
        go_wp2_with fail
        have hwr : IntKind.i64.wrap (8 * (r : Int)) = 8 * (r : Int) := IntWalk.i64_in _ (by omega)
        go_region_held3 (fun w' => w'.cell? ⟨w.heap.size, 0, none⟩ = some (.int .i64 d) ∧ w'.cell? ⟨w.heap.size, 1, none⟩ = some (.int .i64 r) ∧ w'.cell? ⟨X, 1 + d * 2, none⟩ = some (.int .i64 t)) (first | exact ⟨by assumption, by assumption, by assumption⟩ | go_keep)
          (first
            | (go_at_call 86; (with_reducible refine HR.out.mono ?_); rintro e w3 ⟨v, rfl, ⟨q, cp, rfl, hq⟩, hr⟩; have HG3 := hid (HG2.out.read hr); have HC3 := hid (GW.readChg (X := X) (B := B) (G := G) (pm := pm) (np := np) hr); have HB := hid (fresh_bg hq); have HRs3 := Row.chg HRs.out HC3.out HNs.out; have HRw3 := hid (Row.chg HRw.out HC3.out HNa.out); have q0 := HRs3.cell (k := 0) (by omega); have q1 := HRs3.cell (k := 1) (by omega); have c1 := HTb.out _ HG3.out; clear hr hq HRs3))
        go_wp2_with (first
          | (go_at_call 40; refine (HU.out _ _ _ HB.out).mono ?_; rintro e w4 ⟨rfl, g4⟩; have HG4 := hid (HG3.out.grown g4); have HRw4 := hid (Row.grown HRw3.out g4 (by simp)); have HC4 := hid ((HCw.out.trans HC3.out fun _ e => .inl e).trans (Chg.of0 (S := fun _ => False) g4) fun _ e => e.elim); have G4 := hid g4; have z0 := fun ob => (Row.alloc HRw4.out ob).cell (k := 0) (by omega); have z1 := fun ob => (Row.alloc HRw4.out ob).cell (k := 1) (by omega); have z2 := fun ob => (Row.alloc HRw4.out ob).cell (k := 2) (by omega); have z3 := fun ob => (Row.alloc HRw4.out ob).cell (k := 3) (by omega); have z4 := fun ob => (Row.alloc HRw4.out ob).cell (k := 4) (by omega); have z5 := fun ob => (Row.alloc HRw4.out ob).cell (k := 5) (by omega); have z6 := fun ob => (Row.alloc HRw4.out ob).cell (k := 6) (by omega); have zf := fun ob k => (Row.alloc HRw4.out ob).frozen k; simp only [sevV, List.getD_cons_zero, List.getD_cons_succ] at z0 z1 z2 z3 z4 z5 z6; clear g4))
        obtain ⟨XX, hXX⟩ : ∃ XX, w4.alloc (Obj.cells #[.int .i64 k, .bool ro, .bool sub, .int .i64 dm, .int .i64 p, .int .i64 off, .int .i64 ln] 73) = XX := ⟨_, rfl⟩
        have rs := set7 (hXX ▸ Row.alloc HRw4.out _ : Row XX W1.heap.size 73 7 _) (.int .i64 0) (.bool false) (.bool false) (.int .i64 0) (.int .i64 0) (.int .i64 0) (.int .i64 0)
        have gs := set7_grown XX W1.heap.size (.int .i64 0) (.bool false) (.bool false) (.int .i64 0) (.int .i64 0) (.int .i64 0) (.int .i64 0)
        have hE : w4.grownBy _ (some W1.heap.size) := (hXX ▸ World.grownBy_alloc _ _ _ : w4.grownBy XX (some W1.heap.size)).trans gs
        rw [hXX]
        clear z0 z1 z2 z3 z4 z5 z6 zf hXX gs
        generalize (((((((XX.setCell ⟨W1.heap.size, 0, none⟩ (.int .i64 0)).setCell ⟨W1.heap.size, 1, none⟩ (.bool false)).setCell ⟨W1.heap.size, 2, none⟩ (.bool false)).setCell ⟨W1.heap.size, 3, none⟩ (.int .i64 0)).setCell ⟨W1.heap.size, 4, none⟩ (.int .i64 0)).setCell ⟨W1.heap.size, 5, none⟩ (.int .i64 0)).setCell ⟨W1.heap.size, 6, none⟩ (.int .i64 0)) = W9 at *
        have z0 := rs.cell (k := 0) (by omega); have z1 := rs.cell (k := 1) (by omega); have z2 := rs.cell (k := 2) (by omega); have z3 := rs.cell (k := 3) (by omega); have z4 := rs.cell (k := 4) (by omega); have z5 := rs.cell (k := 5) (by omega); have z6 := rs.cell (k := 6) (by omega)
        simp only [sevV, List.getD_cons_zero, List.getD_cons_succ] at z0 z1 z2 z3 z4 z5 z6
        clear rs
        refine bodyPost_ret (v := .tuple #[.agg #[.int .i64 0, .bool false, .bool false, .int .i64 0, .int .i64 0, .int .i64 0, .int .i64 0], .int .i64 60]) (by simp [results, Try.results116, go_sem, z0, z1, z2, z3, z4, z5, z6]) rfl ⟨rfl, GR.own H0.out ⟨HG4.out, HC4.out⟩ HSz.out hE⟩
    · have hR' : R = none := by rw [← hR]; unfold entV; rw [hu]; simp [hk]
      subst hR'
      have hb1 : (k != kind) = true := by simpa using hk
      clear hR hk
      simp only [entRet]
      have HU := hid (fun w' q k (hb : BG w' q bs) => (gPn bs q k w' hb))
      rw [hu] at HU
      simp only [GV.val] at HU
      clear hu
      go_enter Try.func116, Try.ntmps116
      go_wp2_with fail
      have hwr : IntKind.i64.wrap (8 * (r : Int)) = 8 * (r : Int) := IntWalk.i64_in _ (by omega)
      go_region_held3 (fun w' => w'.cell? ⟨w.heap.size, 0, none⟩ = some (.int .i64 d) ∧ w'.cell? ⟨w.heap.size, 1, none⟩ = some (.int .i64 r) ∧ w'.cell? ⟨X, 1 + d * 2, none⟩ = some (.int .i64 t)) (first | exact ⟨by assumption, by assumption, by assumption⟩ | go_keep)
        (first
          | (go_at_call 86; (with_reducible refine HR.out.mono ?_); rintro e w3 ⟨v, rfl, ⟨q, cp, rfl, hq⟩, hr⟩; have HG3 := hid (HG2.out.read hr); have HC3 := hid (GW.readChg (X := X) (B := B) (G := G) (pm := pm) (np := np) hr); have HB := hid (fresh_bg hq); have HRs3 := Row.chg HRs.out HC3.out HNs.out; have HRw3 := hid (Row.chg HRw.out HC3.out HNa.out); have q0 := HRs3.cell (k := 0) (by omega); have q1 := HRs3.cell (k := 1) (by omega); have c1 := HTb.out _ HG3.out; clear hr hq HRs3))
      go_wp2_with (first
        | (go_at_call 40; refine (HU.out _ _ _ HB.out).mono ?_; rintro e w4 ⟨rfl, g4⟩; have HG4 := hid (HG3.out.grown g4); have HRw4 := hid (Row.grown HRw3.out g4 (by simp)); have HC4 := hid ((HCw.out.trans HC3.out fun _ e => .inl e).trans (Chg.of0 (S := fun _ => False) g4) fun _ e => e.elim); have G4 := hid g4; have z0 := fun ob => (Row.alloc HRw4.out ob).cell (k := 0) (by omega); have z1 := fun ob => (Row.alloc HRw4.out ob).cell (k := 1) (by omega); have z2 := fun ob => (Row.alloc HRw4.out ob).cell (k := 2) (by omega); have z3 := fun ob => (Row.alloc HRw4.out ob).cell (k := 3) (by omega); have z4 := fun ob => (Row.alloc HRw4.out ob).cell (k := 4) (by omega); have z5 := fun ob => (Row.alloc HRw4.out ob).cell (k := 5) (by omega); have z6 := fun ob => (Row.alloc HRw4.out ob).cell (k := 6) (by omega); have zf := fun ob k => (Row.alloc HRw4.out ob).frozen k; simp only [sevV, List.getD_cons_zero, List.getD_cons_succ] at z0 z1 z2 z3 z4 z5 z6; clear g4))
      obtain ⟨XX, hXX⟩ : ∃ XX, w4.alloc (Obj.cells #[.int .i64 k, .bool ro, .bool sub, .int .i64 dm, .int .i64 p, .int .i64 off, .int .i64 ln] 73) = XX := ⟨_, rfl⟩
      have rs := set7 (hXX ▸ Row.alloc HRw4.out _ : Row XX W1.heap.size 73 7 _) (.int .i64 0) (.bool false) (.bool false) (.int .i64 0) (.int .i64 0) (.int .i64 0) (.int .i64 0)
      have gs := set7_grown XX W1.heap.size (.int .i64 0) (.bool false) (.bool false) (.int .i64 0) (.int .i64 0) (.int .i64 0) (.int .i64 0)
      have hE : w4.grownBy _ (some W1.heap.size) := (hXX ▸ World.grownBy_alloc _ _ _ : w4.grownBy XX (some W1.heap.size)).trans gs
      rw [hXX]
      clear z0 z1 z2 z3 z4 z5 z6 zf hXX gs
      generalize (((((((XX.setCell ⟨W1.heap.size, 0, none⟩ (.int .i64 0)).setCell ⟨W1.heap.size, 1, none⟩ (.bool false)).setCell ⟨W1.heap.size, 2, none⟩ (.bool false)).setCell ⟨W1.heap.size, 3, none⟩ (.int .i64 0)).setCell ⟨W1.heap.size, 4, none⟩ (.int .i64 0)).setCell ⟨W1.heap.size, 5, none⟩ (.int .i64 0)).setCell ⟨W1.heap.size, 6, none⟩ (.int .i64 0)) = W9 at *
      have z0 := rs.cell (k := 0) (by omega); have z1 := rs.cell (k := 1) (by omega); have z2 := rs.cell (k := 2) (by omega); have z3 := rs.cell (k := 3) (by omega); have z4 := rs.cell (k := 4) (by omega); have z5 := rs.cell (k := 5) (by omega); have z6 := rs.cell (k := 6) (by omega)
      simp only [sevV, List.getD_cons_zero, List.getD_cons_succ] at z0 z1 z2 z3 z4 z5 z6
      clear rs
      refine bodyPost_ret (v := .tuple #[.agg #[.int .i64 0, .bool false, .bool false, .int .i64 0, .int .i64 0, .int .i64 0, .int .i64 0], .int .i64 60]) (by simp [results, Try.results116, go_sem, z0, z1, z2, z3, z4, z5, z6]) rfl ⟨rfl, GR.own H0.out ⟨HG4.out, HC4.out⟩ HSz.out hE⟩
  · have hR' : R = none := by rw [← hR]; unfold entV; rw [hu]; simp [hx]
    subst hR'
    have hb1 : (x != 0) = true := by simpa using hx
    clear hR hx
    simp only [entRet]
    have HU := hid (fun w' q k (hb : BG w' q bs) => (gPn bs q k w' hb))
    rw [hu] at HU
    simp only [GV.val] at HU
    clear hu
    go_enter Try.func116, Try.ntmps116
    go_wp2_with fail
    have hwr : IntKind.i64.wrap (8 * (r : Int)) = 8 * (r : Int) := IntWalk.i64_in _ (by omega)
    go_region_held3 (fun w' => w'.cell? ⟨w.heap.size, 0, none⟩ = some (.int .i64 d) ∧ w'.cell? ⟨w.heap.size, 1, none⟩ = some (.int .i64 r) ∧ w'.cell? ⟨X, 1 + d * 2, none⟩ = some (.int .i64 t)) (first | exact ⟨by assumption, by assumption, by assumption⟩ | go_keep)
      (first
        | (go_at_call 86; (with_reducible refine HR.out.mono ?_); rintro e w3 ⟨v, rfl, ⟨q, cp, rfl, hq⟩, hr⟩; have HG3 := hid (HG2.out.read hr); have HC3 := hid (GW.readChg (X := X) (B := B) (G := G) (pm := pm) (np := np) hr); have HB := hid (fresh_bg hq); have HRs3 := Row.chg HRs.out HC3.out HNs.out; have HRw3 := hid (Row.chg HRw.out HC3.out HNa.out); have q0 := HRs3.cell (k := 0) (by omega); have q1 := HRs3.cell (k := 1) (by omega); have c1 := HTb.out _ HG3.out; clear hr hq HRs3))
    go_wp2_with (first
      | (go_at_call 40; refine (HU.out _ _ _ HB.out).mono ?_; rintro e w4 ⟨rfl, g4⟩; have HG4 := hid (HG3.out.grown g4); have HRw4 := hid (Row.grown HRw3.out g4 (by simp)); have HC4 := hid ((HCw.out.trans HC3.out fun _ e => .inl e).trans (Chg.of0 (S := fun _ => False) g4) fun _ e => e.elim); have G4 := hid g4; have z0 := fun ob => (Row.alloc HRw4.out ob).cell (k := 0) (by omega); have z1 := fun ob => (Row.alloc HRw4.out ob).cell (k := 1) (by omega); have z2 := fun ob => (Row.alloc HRw4.out ob).cell (k := 2) (by omega); have z3 := fun ob => (Row.alloc HRw4.out ob).cell (k := 3) (by omega); have z4 := fun ob => (Row.alloc HRw4.out ob).cell (k := 4) (by omega); have z5 := fun ob => (Row.alloc HRw4.out ob).cell (k := 5) (by omega); have z6 := fun ob => (Row.alloc HRw4.out ob).cell (k := 6) (by omega); have zf := fun ob k => (Row.alloc HRw4.out ob).frozen k; simp only [sevV, List.getD_cons_zero, List.getD_cons_succ] at z0 z1 z2 z3 z4 z5 z6; clear g4))
    obtain ⟨XX, hXX⟩ : ∃ XX, w4.alloc (Obj.cells #[.int .i64 k, .bool ro, .bool sub, .int .i64 dm, .int .i64 p, .int .i64 off, .int .i64 ln] 73) = XX := ⟨_, rfl⟩
    have rs := set7 (hXX ▸ Row.alloc HRw4.out _ : Row XX W1.heap.size 73 7 _) (.int .i64 0) (.bool false) (.bool false) (.int .i64 0) (.int .i64 0) (.int .i64 0) (.int .i64 0)
    have gs := set7_grown XX W1.heap.size (.int .i64 0) (.bool false) (.bool false) (.int .i64 0) (.int .i64 0) (.int .i64 0) (.int .i64 0)
    have hE : w4.grownBy _ (some W1.heap.size) := (hXX ▸ World.grownBy_alloc _ _ _ : w4.grownBy XX (some W1.heap.size)).trans gs
    rw [hXX]
    clear z0 z1 z2 z3 z4 z5 z6 zf hXX gs
    generalize (((((((XX.setCell ⟨W1.heap.size, 0, none⟩ (.int .i64 0)).setCell ⟨W1.heap.size, 1, none⟩ (.bool false)).setCell ⟨W1.heap.size, 2, none⟩ (.bool false)).setCell ⟨W1.heap.size, 3, none⟩ (.int .i64 0)).setCell ⟨W1.heap.size, 4, none⟩ (.int .i64 0)).setCell ⟨W1.heap.size, 5, none⟩ (.int .i64 0)).setCell ⟨W1.heap.size, 6, none⟩ (.int .i64 0)) = W9 at *
    have z0 := rs.cell (k := 0) (by omega); have z1 := rs.cell (k := 1) (by omega); have z2 := rs.cell (k := 2) (by omega); have z3 := rs.cell (k := 3) (by omega); have z4 := rs.cell (k := 4) (by omega); have z5 := rs.cell (k := 5) (by omega); have z6 := rs.cell (k := 6) (by omega)
    simp only [sevV, List.getD_cons_zero, List.getD_cons_succ] at z0 z1 z2 z3 z4 z5 z6
    clear rs
    refine bodyPost_ret (v := .tuple #[.agg #[.int .i64 0, .bool false, .bool false, .int .i64 0, .int .i64 0, .int .i64 0, .int .i64 0], .int .i64 60]) (by simp [results, Try.results116, go_sem, z0, z1, z2, z3, z4, z5, z6]) rfl ⟨rfl, GR.own H0.out ⟨HG4.out, HC4.out⟩ HSz.out hE⟩
end
end Go.Proofs.Ytaocnknofklmoaa

/-
  Package grant: Map. (Written by gen_gme.py.)
-/
set_option linter.unusedSimpArgs false
set_option linter.unusedVariables false
namespace Go.Proofs.Ytaocnknofklmoaa
open Go.RowKit KM
set_option maxHeartbeats 1000000
set_option maxRecDepth 100000

section
variable {w : World} {X B G : Nat} {pm : Nat → Nat × Nat × Nat} {np : Nat} {s : Gs} {T : Nat} {V Gv : Nat} {S : Nat → Prop} {l : List PokeV} {n : Nat}
theorem GW.c0 (h : GW w X B G pm np s T V Gv S l n) : w.cell? ⟨X, 0, none⟩ = some (.pointer (some ⟨B, 0, none⟩)) := h.a.c0
theorem gMap_arg (h : GW w X B G pm np s T V Gv S l n) (c o r : Int) (wr : Bool) (hb : (gdom c && s.g.slot o r) = false) :
    Calls Try.prog 44 #[.pointer (some ⟨X, 0, none⟩), .pointer (some ⟨V, 0, none⟩), .int .i64 c, .int .i64 o, .int .i64 r, .bool wr] w fun e w' => e = .returned (.tuple #[.int .i64 0, .int .i64 1]) ∧ w = w' := by
  have c0 := h.c0
  obtain ⟨f, hv⟩ := h.v
  have HV := hid (gIsView_yes V Gv B S l n l.length f w hv)
  have HS := hid (gSlot h.a o r)
  cases hd : gdom c with
  | false =>
    have HD := hid (gIsDom_no c w hd)
    clear h hv hb hd
    go_enter Try.func44, Try.ntmps44
    go_wp2_with (first
      | (go_at_call 111; refine (gMade_yes X B _ c0).mono ?_; rintro e w' ⟨rfl, rfl⟩)
      | (go_at_call 112; refine HV.out.mono ?_; rintro e w' ⟨rfl, rfl⟩)
      | (go_at_call 113; refine HD.out.mono ?_; rintro e w' ⟨rfl, rfl⟩))
    go_ret2
    exact ⟨rfl, rfl⟩
  | true =>
    have HD := hid (gIsDom_yes c w hd)
    have hs : s.g.slot o r = false := by rw [hd] at hb; simpa using hb
    rw [hs] at HS
    clear h hv hb hd hs
    go_enter Try.func44, Try.ntmps44
    go_wp2_with (first
      | (go_at_call 111; refine (gMade_yes X B _ c0).mono ?_; rintro e w' ⟨rfl, rfl⟩)
      | (go_at_call 112; refine HV.out.mono ?_; rintro e w' ⟨rfl, rfl⟩)
      | (go_at_call 113; refine HD.out.mono ?_; rintro e w' ⟨rfl, rfl⟩)
      | (go_at_call 114; refine HS.out.mono ?_; rintro e w' ⟨rfl, rfl⟩))
    go_ret2
    exact ⟨rfl, rfl⟩
theorem gMap_full (h : GW w X B G pm np s T V Gv S l n) (c o r : Int) (wr : Bool) (hd : gdom c = true) (hs : s.g.slot o r = true) (hx : s.g.free c = none) :
    Calls Try.prog 44 #[.pointer (some ⟨X, 0, none⟩), .pointer (some ⟨V, 0, none⟩), .int .i64 c, .int .i64 o, .int .i64 r, .bool wr] w fun e w' => e = .returned (.tuple #[.int .i64 0, .int .i64 64]) ∧ w.grownBy w' none := by
  have c0 := h.c0
  obtain ⟨f, hv⟩ := h.v
  have HV := hid (gIsView_yes V Gv B S l n l.length f w hv)
  have HS := hid (gSlot h.a o r)
  rw [hs] at HS
  have HD := hid (gIsDom_yes c w hd)
  have HH := hid (gHandle_no h.a c (gdom_yes.1 hd).1 (gdom_yes.1 hd).2 hx)
  clear h hv hd hs hx
  go_enter Try.func44, Try.ntmps44
  go_wp2_with (first
    | (go_at_call 111; refine (gMade_yes X B _ c0).mono ?_; rintro e w' ⟨rfl, rfl⟩)
    | (go_at_call 112; refine HV.out.mono ?_; rintro e w' ⟨rfl, rfl⟩)
    | (go_at_call 113; refine HD.out.mono ?_; rintro e w' ⟨rfl, rfl⟩)
    | (go_at_call 114; refine HS.out.mono ?_; rintro e w' ⟨rfl, rfl⟩)
    | (go_at_call 115; refine HH.out.mono ?_; rintro e w1 ⟨rfl, g1⟩; have G1 := hid g1; clear g1))
  go_ret2
  exact ⟨rfl, G1.out⟩
/-- what is told of Map behind its read -/
def mapRet (R : Int × Int × Gs) : Value := .tuple #[.int .i64 R.1, .int .i64 R.2.1]
theorem gMap_rd (h : GW w X B G pm np s T V Gv S l n) {K : Int} (hok : s.M.ok K) (hK : K < 9223372036854775807) (hT : T < maxLen) (hl : ∀ p ∈ l, p.fits) (hll : l.length ≤ 64) (hn : (n : Int) < 9223372036854775807) (c : Int) (o r : Nat) (wr : Bool) (hd : gdom c = true) (ho : o < 8) (hr : r < 32) (t : Int) (i : Nat) (hm : s.g.mem o = some (t, i)) (ht0 : 0 ≤ t) (ht1 : t < s.M.n) (hi : i < np) (x : Nat) (hx : s.g.free c = some x) (R : Int × Int × Gs) (hR : (s.due l n).mapE ((s.due l n).entB o r) c o r wr x = R) :
    Calls Try.prog 44 #[.pointer (some ⟨X, 0, none⟩), .pointer (some ⟨V, 0, none⟩), .int .i64 c, .int .i64 o, .int .i64 r, .bool wr] w fun e w' => e = .returned (mapRet R) ∧ GR w X B G pm np R.2.2 (T + 1) V Gv S l (n + 1) w' := by
  have c0 := h.c0
  obtain ⟨f, hv⟩ := h.v
  have HV := hid (gIsView_yes V Gv B S l n l.length f w hv)
  have hs : s.g.slot o r = true := Gst.slot_yes.2 ⟨⟨⟨by omega, by omega⟩, by rw [Int.toNat_natCast]; exact ⟨_, hm⟩⟩, by omega, by omega⟩
  have HS := hid (gSlot h.a o r)
  rw [hs] at HS
  have HD := hid (gIsDom_yes c w hd)
  obtain ⟨hc0, hc1⟩ := gdom_yes.1 hd
  have HH := hid (gHandle_yes h.a c hc0 hc1 x hx)
  have hx16 := Gst.free_lt hx
  obtain ⟨E, hE⟩ : ∃ E, entV ((s.due l n).entB o r) 1 c = E := ⟨_, rfl⟩
  have HE := hid (fun w1 (hg : w.grownBy w1 none) => gEntry (h.grown hg) hok hl hll hn o ho t i hm ht0 ht1 r hr 1 c E hE)
  have H0 := hid h
  have hok' : (s.due l n).M.ok K := Mach.rews_ok _ hok
  have hT1 : T ≤ T + 1 := by omega
  unfold Gs.mapE at hR
  rw [hE] at hR
  cases E with
  | none =>
    simp only [entRet] at HE
    simp only at hR
    subst hR
    simp only [mapRet]
    clear h hok hok' hl hll hn hv hd hs hx hm ht0 ht1 hE
    go_enter Try.func44, Try.ntmps44
    go_wp2_with (first
      | (go_at_call 111; refine (gMade_yes X B _ c0).mono ?_; rintro e w' ⟨rfl, rfl⟩)
      | (go_at_call 112; refine HV.out.mono ?_; rintro e w' ⟨rfl, rfl⟩)
      | (go_at_call 113; refine HD.out.mono ?_; rintro e w' ⟨rfl, rfl⟩)
      | (go_at_call 114; refine HS.out.mono ?_; rintro e w' ⟨rfl, rfl⟩)
      | (go_at_call 115; refine HH.out.mono ?_; rintro e w1 ⟨rfl, g1⟩; have G1 := hid g1; clear g1)
      | (go_at_call 116; (with_reducible refine (HE.out _ G1.out).mono ?_); rintro e w2 ⟨rfl, h2⟩; have H2 := hid h2; clear h2)
      | fail)
    go_ret2
    exact ⟨rfl, GR.first H0.out G1.out ((H2.out.grown (World.grownBy_alloc w2 _ none)).mono hT1)⟩
  | some g =>
    obtain ⟨k, ro, sub, dm, p, off, ln⟩ := g
    obtain ⟨hp0, hp1, -⟩ := entV_ok hE
    have hp : I64 p := I64.of (by simp only at hp0; omega) (by simp only at hp1; omega)
    simp only [entRet] at HE
    simp only at hR
    have HGr := hid (fun w2 {w1 : World} (h2 : GR w1 X B G pm np (s.due l n) T V Gv S l (n + 1) w2) => gGranted h2.a.a hok' o ho t i hm hi k ro sub dm p off ln hp)
    cases sub with
    | true =>
      rw [if_pos rfl] at hR
      subst hR
      simp only [mapRet]
      clear h hok hok' hl hll hn hv hd hs hx hm ht0 ht1 hE hp hp0 hp1 HGr
      go_enter Try.func44, Try.ntmps44
      go_wp2_with (first
        | (go_at_call 111; refine (gMade_yes X B _ c0).mono ?_; rintro e w' ⟨rfl, rfl⟩)
        | (go_at_call 112; refine HV.out.mono ?_; rintro e w' ⟨rfl, rfl⟩)
        | (go_at_call 113; refine HD.out.mono ?_; rintro e w' ⟨rfl, rfl⟩)
        | (go_at_call 114; refine HS.out.mono ?_; rintro e w' ⟨rfl, rfl⟩)
        | (go_at_call 115; refine HH.out.mono ?_; rintro e w1 ⟨rfl, g1⟩; have G1 := hid g1; clear g1)
        | (go_at_call 116; (with_reducible refine (HE.out _ G1.out).mono ?_); rintro e w2 ⟨rfl, h2⟩; have H2 := hid h2; clear h2)
        | fail)
      go_ret2
      exact ⟨rfl, GR.first H0.out G1.out ((H2.out.grown (World.grownBy_alloc w2 _ none)).mono hT1)⟩
    | false =>
      rw [if_neg (by simp)] at hR
      by_cases hwr : (wr && ro) = true
      · rw [if_pos hwr] at hR
        subst hR
        simp only [mapRet]
        simp only [Bool.and_eq_true] at hwr
        obtain ⟨hw1, hw2⟩ := hwr
        subst hw1
        subst hw2
        clear h hok hok' hl hll hn hv hd hs hx hm ht0 ht1 hE hp hp0 hp1 HGr
        go_enter Try.func44, Try.ntmps44
        go_wp2_with (first
          | (go_at_call 111; refine (gMade_yes X B _ c0).mono ?_; rintro e w' ⟨rfl, rfl⟩)
          | (go_at_call 112; refine HV.out.mono ?_; rintro e w' ⟨rfl, rfl⟩)
          | (go_at_call 113; refine HD.out.mono ?_; rintro e w' ⟨rfl, rfl⟩)
          | (go_at_call 114; refine HS.out.mono ?_; rintro e w' ⟨rfl, rfl⟩)
          | (go_at_call 115; refine HH.out.mono ?_; rintro e w1 ⟨rfl, g1⟩; have G1 := hid g1; clear g1)
          | (go_at_call 116; (with_reducible refine (HE.out _ G1.out).mono ?_); rintro e w2 ⟨rfl, h2⟩; have H2 := hid h2; clear h2)
          | fail)
        go_ret2
        exact ⟨rfl, GR.first H0.out G1.out ((H2.out.grown (World.grownBy_alloc w2 _ none)).mono hT1)⟩
      · rw [if_neg hwr] at hR
        have hor : wr = false ∨ (wr = true ∧ ro = false) := by cases wr <;> cases ro <;> simp_all
        obtain ⟨D, hD⟩ : ∃ D, (s.due l n).granted o p = D := ⟨_, rfl⟩
        rw [hD] at hR
        cases D with
        | none =>
          have hgE : (s.due l n).grE o p = (0, 60) := by unfold Gs.grE; rw [hD]
          rw [hgE] at HGr
          simp only at hR
          subst hR
          simp only [mapRet]
          clear h hok hok' hl hll hn hv hd hs hx hm ht0 ht1 hE hp hp0 hp1 hD hgE hwr
          rcases hor with rfl | ⟨rfl, rfl⟩
          all_goals
            go_enter Try.func44, Try.ntmps44
            go_wp2_with (first
              | (go_at_call 111; refine (gMade_yes X B _ c0).mono ?_; rintro e w' ⟨rfl, rfl⟩)
              | (go_at_call 112; refine HV.out.mono ?_; rintro e w' ⟨rfl, rfl⟩)
              | (go_at_call 113; refine HD.out.mono ?_; rintro e w' ⟨rfl, rfl⟩)
              | (go_at_call 114; refine HS.out.mono ?_; rintro e w' ⟨rfl, rfl⟩)
              | (go_at_call 115; refine HH.out.mono ?_; rintro e w1 ⟨rfl, g1⟩; have G1 := hid g1; clear g1)
              | (go_at_call 116; (with_reducible refine (HE.out _ G1.out).mono ?_); rintro e w2 ⟨rfl, h2⟩; have H2 := hid h2; clear h2)
              | (go_at_call 117; (with_reducible refine (HGr.out _ (H2.out.grown (World.grownBy_alloc w2 _ none))).mono ?_); rintro e w3 ⟨rfl, g3⟩; have H3 := hid ((H2.out.grown (World.grownBy_alloc w2 _ none)).grown g3); have C3 := H3.out.a.a.c0; clear g3)
              | fail)
            go_ret2
            exact ⟨rfl, GR.first H0.out G1.out (H3.out.mono hT1)⟩
        | some m =>
          have hgE : (s.due l n).grE o p = (m, 0) := by unfold Gs.grE; rw [hD]
          rw [hgE] at HGr
          simp only at hR
          obtain ⟨q, hq⟩ : ∃ q, ((s.due l n).M.get m o (kindW wr)).1 = q := ⟨_, rfl⟩
          rw [hq] at hR
          have HGt := hid (fun w2 {w1 : World} (h2 : GR w1 X B G pm np (s.due l n) T V Gv S l (n + 1) w2) => Get_any B m o (kindW wr) w2.drew (s.due l n).M K h2.a.a.m.drew hok' hK)
          rw [hq] at HGt
          by_cases hq0 : q = 0
          · subst hq0
            rw [if_pos rfl] at hR
            have hA := hR
            subst hR
            simp only [mapRet]
            clear h hok hok' hl hll hn hv hd hs hx hm ht0 ht1 hE hp hp0 hp1 hD hgE hwr hq hA
            have HF := hid (fit2_of hc0 hc1 hx16)
            have HT := hid hT
            rcases hor with rfl | ⟨rfl, rfl⟩
            all_goals
              go_enter Try.func44, Try.ntmps44
              go_wp2_with (first
                | (go_at_call 111; refine (gMade_yes X B _ c0).mono ?_; rintro e w' ⟨rfl, rfl⟩)
                | (go_at_call 112; refine HV.out.mono ?_; rintro e w' ⟨rfl, rfl⟩)
                | (go_at_call 113; refine HD.out.mono ?_; rintro e w' ⟨rfl, rfl⟩)
                | (go_at_call 114; refine HS.out.mono ?_; rintro e w' ⟨rfl, rfl⟩)
                | (go_at_call 115; refine HH.out.mono ?_; rintro e w1 ⟨rfl, g1⟩; have G1 := hid g1; clear g1)
                | (go_at_call 116; (with_reducible refine (HE.out _ G1.out).mono ?_); rintro e w2 ⟨rfl, h2⟩; have H2 := hid h2; clear h2)
                | (go_at_call 117; (with_reducible refine (HGr.out _ (H2.out.grown (World.grownBy_alloc w2 _ none))).mono ?_); rintro e w3 ⟨rfl, g3⟩; have H3 := hid ((H2.out.grown (World.grownBy_alloc w2 _ none)).grown g3); have C3 := H3.out.a.a.c0; clear g3)
                | fail)
              go_wp2_with fail
              go_region_held3 (fun w' => w'.cell? ⟨X, 0, none⟩ = some (.pointer (some ⟨B, 0, none⟩))) (first | exact (by assumption) | go_keep)
                (first
                  | (go_at_call 118; (with_reducible refine (gKind _ _).mono ?_); rintro e w' ⟨rfl, rfl⟩)
                  | (go_at_call 75; (with_reducible refine (HGt.out _ H3.out).mono ?_); rintro e w5 ⟨rfl, h5, g5⟩; have H5 := hid (H3.out.mach h5 ((grownBy_drew _ _).trans g5)); have C5 := H5.out.a.a.c0; have C17 := H5.out.a.a.c17; have HMp := hid H5.out.a.a.mp; clear h5 g5))
              go_wp2_with (at_mapUpdate; refine wpList_mapUpdate_kmap _ rfl _ _ _ 116 rfl 198 key_ks Try.underlying116 mpd0.val G T _ rfl HMp.out HT.out (c, (x : Int)) rfl HF.out _ rfl ?_; intro w6 h6 g6; have H6 := hid (H5.out.lives (c, (x : Int)) ⟨x, c, o, r, m, _⟩ h6 g6); clear h6 g6)
              go_ret2
              exact ⟨rfl, GR.first H0.out G1.out H6.out⟩
          · rw [if_neg hq0] at hR
            have hA := hR
            subst hR
            simp only [mapRet]
            have hf : ((s.due l n).M.get m o (kindW wr)).2 = (s.due l n).M := Mach.get_fail (by rw [hq]; exact hq0)
            rw [hf] at HGt
            have hb : (q != 0) = true := by simpa using hq0
            clear h hok hok' hl hll hn hv hd hs hx hm ht0 ht1 hE hp hp0 hp1 hD hgE hwr hq hA hf hq0
            rcases hor with rfl | ⟨rfl, rfl⟩
            all_goals
              go_enter Try.func44, Try.ntmps44
              go_wp2_with (first
                | (go_at_call 111; refine (gMade_yes X B _ c0).mono ?_; rintro e w' ⟨rfl, rfl⟩)
                | (go_at_call 112; refine HV.out.mono ?_; rintro e w' ⟨rfl, rfl⟩)
                | (go_at_call 113; refine HD.out.mono ?_; rintro e w' ⟨rfl, rfl⟩)
                | (go_at_call 114; refine HS.out.mono ?_; rintro e w' ⟨rfl, rfl⟩)
                | (go_at_call 115; refine HH.out.mono ?_; rintro e w1 ⟨rfl, g1⟩; have G1 := hid g1; clear g1)
                | (go_at_call 116; (with_reducible refine (HE.out _ G1.out).mono ?_); rintro e w2 ⟨rfl, h2⟩; have H2 := hid h2; clear h2)
                | (go_at_call 117; (with_reducible refine (HGr.out _ (H2.out.grown (World.grownBy_alloc w2 _ none))).mono ?_); rintro e w3 ⟨rfl, g3⟩; have H3 := hid ((H2.out.grown (World.grownBy_alloc w2 _ none)).grown g3); have C3 := H3.out.a.a.c0; clear g3)
                | fail)
              go_wp2_with fail
              go_region_held3 (fun w' => w'.cell? ⟨X, 0, none⟩ = some (.pointer (some ⟨B, 0, none⟩))) (first | exact (by assumption) | go_keep)
                (first
                  | (go_at_call 118; (with_reducible refine (gKind _ _).mono ?_); rintro e w' ⟨rfl, rfl⟩)
                  | (go_at_call 75; (with_reducible refine (HGt.out _ H3.out).mono ?_); rintro e w5 ⟨rfl, h5, g5⟩; have H5 := hid (H3.out.mach h5 ((grownBy_drew _ _).trans g5)); have C5 := H5.out.a.a.c0; clear h5 g5))
              go_wp2
              go_ret2
              exact ⟨rfl, GR.first H0.out G1.out (H5.out.mono hT1)⟩
end
end Go.Proofs.Ytaocnknofklmoaa
