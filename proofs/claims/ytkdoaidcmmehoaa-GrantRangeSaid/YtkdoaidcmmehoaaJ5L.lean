/-
  Package grant: Read and Write of a map; Revoke of an entry that a map came of.
-/
import Derived.Test.YtkdoaidcmmehoaaJ2
import Derived.Deep.RegionHeld3
import Derived.Test.YtkdoaidcmmehoaaJ5
set_option linter.unusedSimpArgs false
set_option linter.unusedVariables false
namespace Go.Proofs.Ytkdoaidcmmehoaa
open Go.RowKit KM
set_option maxHeartbeats 1000000
set_option maxRecDepth 100000

def Gs.readG (s : Gs) (l : List PokeV) (n : Nat) (c x off k : Int) : List UInt8 × Int × Gs × Nat :=
  if (s.live c x).2 ≠ 0 then ([], (s.live c x).2, s, n) else
  if inP off k = false then ([], 63, s, n) else
  (((s.due l n).M.read (s.live c x).1.m off k).1, 0, s.due l n, n + 1)
section
variable {w : World} {X B G : Nat} {pm : Nat → Nat × Nat × Nat} {np : Nat} {s : Gs} {T : Nat} {V Gv : Nat} {S : Nat → Prop} {l : List PokeV} {n : Nat}
theorem GR.same (h : GW w X B G pm np s T V Gv S l n) : GR w X B G pm np s T V Gv S l n w := ⟨h, Chg.refl _ _⟩
theorem mpd_row {w W : World} {a : Mpd} {am : Int} {aw : Bool} (hg : (w.alloc (.cells #[.int .i64 a.h, .int .i64 a.c, .int .i64 a.o, .int .i64 a.r, .int .i64 am, .bool aw] 198)).grownBy W none) : W.cell? ⟨w.heap.size, 4, none⟩ = some (.int .i64 am) ∧ W.cell? ⟨w.heap.size, 5, none⟩ = some (.bool aw) :=
  ⟨hg.cell (by simp [go_sem]) (by simp), hg.cell (by simp [go_sem]) (by simp)⟩
theorem gRead (h : GW w X B G pm np s T V Gv S l n) {K : Int} (hok : s.M.ok K) (hl : ∀ p ∈ l, p.fits) (hll : l.length ≤ 64) (hn : (n : Int) < 9223372036854775807) (c x off k : Int) (hxw : (Lit.int .i64 x).wf = true) (ho : off ≤ 9223372036854775807) (hlv : ∀ a, s.live c x = (a, 0) → 0 ≤ a.m ∧ a.m < s.M.n) (R : List UInt8 × Int × Gs × Nat) (hR : s.readG l n c x off k = R) :
    Calls Try.prog 47 #[.pointer (some ⟨X, 0, none⟩), .pointer (some ⟨V, 0, none⟩), .int .i64 c, .int .i64 x, .int .i64 off, .int .i64 k] w fun e w' =>
      ∃ q cp, e = .returned (.tuple #[.slice q R.1.length cp, .int .i64 R.2.1]) ∧ KeptBytes w' (fun k => w.heap.size ≤ k) q R.1 ∧ GR w X B G pm np R.2.2.1 T V Gv S l R.2.2.2 w' := by
  subst hR
  unfold Gs.readG
  have HL := hid (gLive h.a c x hxw)
  obtain ⟨⟨a, q⟩, hl0⟩ : ∃ y, s.live c x = y := ⟨_, rfl⟩
  rw [hl0] at HL hlv ⊢
  simp only [Mpd.val] at HL
  simp only
  have H := hid h
  obtain ⟨f, hv⟩ := h.v
  have HV := hid (gIsView_yes V Gv B S l n l.length f w hv)
  by_cases hq : q = 0
  · subst hq
    obtain ⟨hm0, hm1⟩ := hlv a rfl
    rw [if_neg (by simp)]
    obtain ⟨am, hm⟩ : ∃ am, a.m = am := ⟨_, rfl⟩
    obtain ⟨aw, hw⟩ : ∃ aw, a.wr = aw := ⟨_, rfl⟩
    rw [hm, hw] at HL
    rw [hm] at hm0 hm1 ⊢
    have HPg := hid (fun w' => gPageP am w')
    have HWi := hid (fun w' => gWithin am 0 256 off k w' (by omega) (by omega) (by omega) (by omega) ho)
    cases hi : inP off k with
    | false =>
      rw [if_pos rfl]
      have hi' : off < 0 ∨ k < 0 ∨ 256 - off < k := by
        simp only [inP, Bool.and_eq_false_iff, decide_eq_false_iff_not] at hi; omega
      rw [EndV.at_no hi'] at HWi
      clear h hok hl hll hn hlv hl0 hv hi hi' hm hw hm0 hm1 hxw ho
      go_enter Try.func47, Try.ntmps47
      go_wp2_with (first
        | (go_at_call 112; (with_reducible refine HV.out.mono ?_); rintro e w' ⟨rfl, rfl⟩)
        | (go_at_call 120; (with_reducible refine HL.out.mono ?_); rintro e w1 ⟨rfl, g1⟩; have G2 := hid (g1.trans (World.grownBy_alloc w1 (.cells #[.int .i64 a.h, .int .i64 a.c, .int .i64 a.o, .int .i64 a.r, .int .i64 am, .bool aw] 198) none)); obtain ⟨z4, z5⟩ := mpd_row (a := a) (am := am) (aw := aw) (World.grownBy.refl (w1.alloc (.cells #[.int .i64 a.h, .int .i64 a.c, .int .i64 a.o, .int .i64 a.r, .int .i64 am, .bool aw] 198)) none); clear g1)
        | (go_at_call 121; (with_reducible refine (HPg.out _).mono ?_); rintro e w3 ⟨rfl, g3⟩; have G3 := hid (G2.out.trans g3); clear g3)
        | (go_at_call 122; (with_reducible refine (HWi.out _).mono ?_); rintro e w4 ⟨rfl, g4⟩; have G4 := hid (G3.out.trans g4); clear g4))
      go_ret2
      exact ⟨none, 0, rfl, .inl rfl, (GR.same H.out).grown G4.out⟩
    | true =>
      rw [if_neg (by simp)]
      obtain ⟨h0, h1, h2⟩ := inP_iff.1 hi
      rw [EndV.at_yes h0 h1 h2, Int.zero_add] at HWi
      obtain ⟨bs, hbs⟩ : ∃ bs, ((s.due l n).M.read am off k).1 = bs := ⟨_, rfl⟩
      have HR := hid (fun w2 (h2 : GW w2 X B G pm np s T V Gv S l n) => (show Calls Try.prog 86 #[.pointer (some ⟨V, 0, none⟩), .int .i64 am, .int .i64 off, .int .i64 k] w2 fun e w' => ∃ v, e = .returned (.tuple #[v, .int .i64 0]) ∧ FreshB w2 bs v w' ∧ VRead w2 V Gv B S l n l.length s.M w' by
        obtain ⟨f, hv⟩ := h2.v
        refine (vRead V Gv B S l n l.length f am off k w2 s.M K hv h2.a.m hok hl (by omega) hll (by omega)).mono fun e w' ⟨v, he, h1, h3⟩ => ⟨v, ?_, ?_, h3⟩
        · rw [he, read_good (by rw [Mach.is_iff, Mach.rews_n]; exact ⟨hm0, hm1⟩) hi]
        · rw [← hbs]; exact h1))
      rw [hbs]
      clear h hok hl hll hn hlv hl0 hv hi hm hw hm0 hm1 hxw ho h0 h1 h2 hbs
      go_enter Try.func47, Try.ntmps47
      go_wp2_with (first
        | (go_at_call 112; (with_reducible refine HV.out.mono ?_); rintro e w' ⟨rfl, rfl⟩)
        | (go_at_call 120; (with_reducible refine HL.out.mono ?_); rintro e w1 ⟨rfl, g1⟩; have G2 := hid (g1.trans (World.grownBy_alloc w1 (.cells #[.int .i64 a.h, .int .i64 a.c, .int .i64 a.o, .int .i64 a.r, .int .i64 am, .bool aw] 198) none)); obtain ⟨z4, z5⟩ := mpd_row (a := a) (am := am) (aw := aw) (World.grownBy.refl (w1.alloc (.cells #[.int .i64 a.h, .int .i64 a.c, .int .i64 a.o, .int .i64 a.r, .int .i64 am, .bool aw] 198)) none); have Z4 := hid z4; clear g1)
        | (go_at_call 121; (with_reducible refine (HPg.out _).mono ?_); rintro e w3 ⟨rfl, g3⟩; have G3 := hid (G2.out.trans g3); have Z3 := hid (g3.cell Z4.out (by simp)); clear g3)
        | (go_at_call 122; (with_reducible refine (HWi.out _).mono ?_); rintro e w4 ⟨rfl, g4⟩; have G4 := hid (G3.out.trans g4); have y4 := g4.cell Z3.out (by simp); have H4 := hid (H.out.grown (G3.out.trans g4)); clear g4)
        | (go_at_call 86; (with_reducible refine (HR.out _ H4.out).mono ?_); rintro e w5 ⟨v, rfl, ⟨q, cp, rfl, hq⟩, hr⟩; have H5 := hid (⟨H4.out.read hr, (Chg.of0 (S := avfoot X B G pm np V Gv) G4.out).trans (GW.readChg (X := X) (B := B) (G := G) (pm := pm) (np := np) hr) fun _ e => .inl e⟩ : GR w X B G pm np (s.due l n) T V Gv S l (n + 1) w5); have HB := hid (KeptBytes.wide hq (S' := fun k => w.heap.size ≤ k) fun k hk => Nat.le_trans G4.out.size hk.1); clear hr hq)
        | fail)
      go_ret2
      exact ⟨_, _, rfl, HB.out, H5.out⟩
  · rw [if_pos hq]
    have hb : (q != 0) = true := by simpa using hq
    clear h hok hl hll hn hlv hl0 hv hq hxw ho
    go_enter Try.func47, Try.ntmps47
    go_wp2_with (first
      | (go_at_call 112; (with_reducible refine HV.out.mono ?_); rintro e w' ⟨rfl, rfl⟩)
      | (go_at_call 120; (with_reducible refine HL.out.mono ?_); rintro e w1 ⟨rfl, g1⟩; have G1 := hid g1; clear g1))
    go_ret2
    exact ⟨none, 0, rfl, .inl rfl, (GR.same H.out).grown (G1.out.trans (World.grownBy_alloc _ _ none))⟩
theorem GL.grownBy {s' : Gs} {T' : Nat} {w' : World} (h : GL w X B G pm np s' T' w') : ∀ k, k < w.heap.size → ¬ gfoot X B G pm np k → w'.heap[k]? = w.heap[k]? := fun k hk hf => h.c.block k hk hf
theorem gWrite (h : GA w X B G pm np s T) {K : Int} (hok : s.M.ok K) (c x off : Int) (hxw : (Lit.int .i64 x).wf = true) (ho : off ≤ 9223372036854775807) (pa : Option Addr) (cap : Nat) (b : List UInt8) (hbl : b.length ≤ 9223372036854775807) (hb : ∀ w', w.grownBy w' none → IsBytes w' B (.slice pa b.length cap) b) :
    Calls Try.prog 48 #[.pointer (some ⟨X, 0, none⟩), .int .i64 c, .int .i64 x, .int .i64 off, .slice pa b.length cap] w fun e w' => e = .returned (.int .i64 (s.write c x off b).1) ∧ GL w X B G pm np (s.write c x off b).2 T w' := by
  unfold Gs.write
  have HL := hid (gLive h c x hxw)
  obtain ⟨⟨a, q⟩, hl0⟩ : ∃ y, s.live c x = y := ⟨_, rfl⟩
  rw [hl0] at HL ⊢
  simp only [Mpd.val] at HL
  simp only
  have H := hid h
  by_cases hq : q = 0
  · subst hq
    rw [if_neg (by simp)]
    obtain ⟨am, hm⟩ : ∃ am, a.m = am := ⟨_, rfl⟩
    obtain ⟨aw, hw⟩ : ∃ aw, a.wr = aw := ⟨_, rfl⟩
    rw [hm, hw] at HL ⊢
    cases aw with
    | false =>
      rw [if_pos rfl]
      clear h hok hl0 hm hw hxw ho hb hbl
      go_enter Try.func48, Try.ntmps48
      go_wp2_with (go_at_call 120; (with_reducible refine HL.out.mono ?_); rintro e w1 ⟨rfl, g1⟩; have G2 := hid (g1.trans (World.grownBy_alloc w1 (.cells #[.int .i64 a.h, .int .i64 a.c, .int .i64 a.o, .int .i64 a.r, .int .i64 am, .bool false] 198) none)); obtain ⟨z4, z5⟩ := mpd_row (a := a) (am := am) (aw := false) (World.grownBy.refl (w1.alloc (.cells #[.int .i64 a.h, .int .i64 a.c, .int .i64 a.o, .int .i64 a.r, .int .i64 am, .bool false] 198)) none); clear g1)
      go_ret
      exact ⟨rfl, (GL.same H.out).grown G2.out⟩
    | true =>
      rw [if_neg (by simp)]
      have HPg := hid (fun w' => gPageP am w')
      have HWi := hid (fun w' => gWithin am 0 256 off b.length w' (by omega) (by omega) (by omega) (by omega) ho)
      cases hi : inP off b.length with
      | false =>
        rw [if_pos rfl]
        have hi' : off < 0 ∨ (b.length : Int) < 0 ∨ 256 - off < b.length := by
          simp only [inP, Bool.and_eq_false_iff, decide_eq_false_iff_not] at hi; omega
        rw [EndV.at_no hi'] at HWi
        clear h hok hl0 hi hi' hm hw hxw ho hb hbl
        go_enter Try.func48, Try.ntmps48
        go_wp2_with (first
          | (go_at_call 120; (with_reducible refine HL.out.mono ?_); rintro e w1 ⟨rfl, g1⟩; have G2 := hid (g1.trans (World.grownBy_alloc w1 (.cells #[.int .i64 a.h, .int .i64 a.c, .int .i64 a.o, .int .i64 a.r, .int .i64 am, .bool true] 198) none)); obtain ⟨z4, z5⟩ := mpd_row (a := a) (am := am) (aw := true) (World.grownBy.refl (w1.alloc (.cells #[.int .i64 a.h, .int .i64 a.c, .int .i64 a.o, .int .i64 a.r, .int .i64 am, .bool true] 198)) none); clear g1)
          | (go_at_call 121; (with_reducible refine (HPg.out _).mono ?_); rintro e w3 ⟨rfl, g3⟩; have G3 := hid (G2.out.trans g3); clear g3)
          | (go_at_call 122; (with_reducible refine (HWi.out _).mono ?_); rintro e w4 ⟨rfl, g4⟩; have G4 := hid (G3.out.trans g4); clear g4))
        go_ret
        exact ⟨rfl, (GL.same H.out).grown G4.out⟩
      | true =>
        rw [if_neg (by simp)]
        obtain ⟨h0, h1, h2⟩ := inP_iff.1 hi
        rw [EndV.at_yes h0 h1 h2, Int.zero_add] at HWi
        have HW := hid (fun w2 (hg : w.grownBy w2 none) (hp : PM w2 B s.M) => Write_any B am off (.slice pa b.length cap) b w2 s.M K hp hok ho (hb w2 hg) hbl)
        obtain ⟨R, hR⟩ : ∃ R, s.M.write am off b = R := ⟨_, rfl⟩
        rw [hR] at HW ⊢
        clear h hok hl0 hi hm hw hxw ho hb hbl h0 h1 h2 hR
        go_enter Try.func48, Try.ntmps48
        go_wp2_with (first
          | (go_at_call 120; (with_reducible refine HL.out.mono ?_); rintro e w1 ⟨rfl, g1⟩; have G2 := hid (g1.trans (World.grownBy_alloc w1 (.cells #[.int .i64 a.h, .int .i64 a.c, .int .i64 a.o, .int .i64 a.r, .int .i64 am, .bool true] 198) none)); obtain ⟨z4, z5⟩ := mpd_row (a := a) (am := am) (aw := true) (World.grownBy.refl (w1.alloc (.cells #[.int .i64 a.h, .int .i64 a.c, .int .i64 a.o, .int .i64 a.r, .int .i64 am, .bool true] 198)) none); have Z4 := hid z4; have HB1 := hid (show B ≠ w1.heap.size from fun e => by have := (H.out.grown g1).m.lt; omega); clear g1)
          | (go_at_call 121; (with_reducible refine (HPg.out _).mono ?_); rintro e w3 ⟨rfl, g3⟩; have G3 := hid (G2.out.trans g3); have Z3 := hid (g3.cell Z4.out (by simp)); clear g3)
          | (go_at_call 122; (with_reducible refine (HWi.out _).mono ?_); rintro e w4 ⟨rfl, g4⟩; have G4 := hid (G3.out.trans g4); have H4 := hid (H.out.grown (G3.out.trans g4)); have Z5 := hid (g4.cell Z3.out (by simp)); clear g4))
        have c0 : w4.drew.cell? ⟨X, 0, none⟩ = some (.pointer (some ⟨B, 0, none⟩)) := H4.out.c0
        have q4 : w4.drew.cell? ⟨w1.heap.size, 4, none⟩ = some (.int .i64 am) := Z5.out
        have hX := H4.out.top.lt
        clear z4 z5
        go_region_held3 (fun w' => w'.cell? ⟨X, 0, none⟩ = some (.pointer (some ⟨B, 0, none⟩)) ∧ w'.cell? ⟨w1.heap.size, 4, none⟩ = some (.int .i64 am)) (first | exact ⟨by assumption, by assumption⟩ | go_keep)
          (first
            | (go_at_call 18; (with_reducible refine (HW.out _ (G4.out.trans (grownBy_drew w4 none)) H4.out.m.drew).mono ?_); rintro e w6 ⟨rfl, h6, g6⟩; have H6 := hid (((GL.same H.out).grown G4.out).mach h6 ((grownBy_drew w4 _).trans g6)); have k0 := H6.out.a.c0; have k4 := g6.cell q4 (fun e => HB1.out (Option.some.inj e).symm); clear h6 g6))
        go_wp2
        go_ret
        exact ⟨rfl, H6.out⟩
  · rw [if_pos hq]
    have hbq : (q != 0) = true := by simpa using hq
    clear h hok hl0 hq hxw ho hb hbl
    go_enter Try.func48, Try.ntmps48
    go_wp2_with (go_at_call 120; (with_reducible refine HL.out.mono ?_); rintro e w1 ⟨rfl, g1⟩; have G1 := hid g1; clear g1)
    go_ret
    exact ⟨rfl, (GL.same H.out).grown (G1.out.trans (World.grownBy_alloc _ _ none))⟩
end
end Go.Proofs.Ytkdoaidcmmehoaa

/-
  Package grant: Revoke of an entry that a map came of.
-/
set_option linter.unusedSimpArgs false
set_option linter.unusedVariables false
namespace Go.Proofs.Ytkdoaidcmmehoaa
open Go.RowKit KM
set_option maxHeartbeats 1000000
set_option maxRecDepth 100000

section
variable {w : World} {X B G : Nat} {pm : Nat → Nat × Nat × Nat} {np : Nat} {s : Gs} {T : Nat}
theorem gRevoke_busy (h : GA w X B G pm np s T) (hlv : ∀ c k a, s.g.mp (c, k) = some a → fit2 (c, k)) (o r : Int) (hs : s.g.slot o r = true) (kb : Int × Int) (ab : Mpd) (hkb : s.g.mp kb = some ab) (hao : ab.o = o) (har : ab.r = r) :
    Calls Try.prog 45 #[.pointer (some ⟨X, 0, none⟩), .int .i64 o, .int .i64 r] w fun e w' => e = .returned (.int .i64 9) ∧ w.grownBy w' none := by
  have c0 := h.c0
  have c17 := h.c17
  have HMp := hid (show KMap Try.prog 200 key2 mpd0.val w G T (mpF s.g) from h.mp)
  have HS := hid (gSlot h o r)
  rw [hs] at HS
  have HKb := hid hkb
  have HFb := hid (hlv kb.1 kb.2 ab hkb)
  have HAo := hid hao
  have HAr := hid har
  clear h hs hkb hao har
  go_enter Try.func45, Try.ntmps45
  go_wp2_with (first
    | (go_at_call 111; (with_reducible refine (gMade_yes X B _ c0).mono ?_); rintro e w1 ⟨rfl, rfl⟩)
    | (go_at_call 114; (with_reducible refine HS.out.mono ?_); rintro e w1 ⟨rfl, rfl⟩)
    | (at_range; refine wpList_range_kmap _ rfl _ 116 rfl 198 key_ks Try.underlying116 mpd0.val G T _ rfl HMp.out ?_; intro w0 hrg0 hg0 hs0; have HRg := hid hrg0; have HG := hid hg0; clear hrg0 hg0 hs0))
  go_frame
  clear c0 c17
  go_loopw [] (fun wr => ∃ (left : Int × Int → Bool), left kb = true ∧ KRange Try.prog 200 key2 mpd0.val wr G w.heap.size T (mpF s.g) left ∧ w.grownBy wr none) (fun wr => wr.rangeLeft G w.heap.size)
  case atStart => exact ⟨_, (by rw [mpF_some HKb.out]; rfl), HRg.out, HG.out⟩
  case round =>
    obtain ⟨left, hlk, hrg, hgw⟩ := hrel
    have HGw := hid hgw
    have HLk := hid hlk
    clear hgw hlk
    go_wp2_with (at_next; refine wpList_next_kmap _ rfl _ rfl key_ks mpd0.val G w.heap.size T _ left rfl hrg ?_ ?_)
    · intro hl0
      have := hl0 kb.1 kb.2 HFb.out
      rw [HLk.out] at this
      cases this
    · intro c k v w1 hwx hlx hfx hrg1 hlt hg1 hs1 hen
      cases ha : s.g.mp (c, k) with
      | none => unfold mpF at hfx; rw [ha] at hfx; cases hfx
      | some a =>
        rw [mpF_some ha] at hfx
        obtain rfl : v = .agg #[.int .i64 a.h, .int .i64 a.c, .int .i64 a.o, .int .i64 a.r, .int .i64 a.m, .bool a.wr] := (Option.some.inj hfx).symm
        have HG1 := hid (HGw.out.andThen hg1 (fun j hj => by cases hj; exact .inl (Nat.le_refl _)))
        obtain ⟨hR1, hR2⟩ := hrg1.alloc (.cells #[.int .i64 a.h, .int .i64 a.c, .int .i64 a.o, .int .i64 a.r, .int .i64 a.m, .bool a.wr] 198)
        have HR1 := hid hR1
        have HLt := hid (show (w1.alloc (.cells #[.int .i64 a.h, .int .i64 a.c, .int .i64 a.o, .int .i64 a.r, .int .i64 a.m, .bool a.wr] 198)).rangeLeft G w.heap.size < wr.rangeLeft G w.heap.size by rw [hR2]; exact hlt)
        have HA := hid ha
        clear hlx hfx hrg1 hlt hg1 hs1 hwx hrg hR1 hR2 ha
        cases h1 : (a.o == o) with
        | true =>
          cases h2 : (a.r == r) with
          | true =>
            go_wp2
            go_ret
            exact ⟨rfl, HG1.out.trans (World.grownBy_alloc _ _ none)⟩
          | false =>
            have hne := hid (show kb ≠ (c, k) from fun e => by
              have h3 := HKb.out
              rw [e, HA.out] at h3
              cases h3
              rw [HAr.out] at h2
              simp at h2)
            go_wp2
            go_roundw
            case rel => exact ⟨fun g => left g && decide (g ≠ (c, k)), by show (left kb && decide (kb ≠ (c, k))) = true; rw [HLk.out, Bool.true_and]; exact decide_eq_true hne.out, by have h := HR1.out; simpa using h, HG1.out.trans (World.grownBy_alloc _ _ none)⟩
            case measure => exact HLt.out
        | false =>
          have hne := hid (show kb ≠ (c, k) from fun e => by
            have h3 := HKb.out
            rw [e, HA.out] at h3
            cases h3
            rw [HAo.out] at h1
            simp at h1)
          go_wp2
          go_roundw
          case rel => exact ⟨fun g => left g && decide (g ≠ (c, k)), by show (left kb && decide (kb ≠ (c, k))) = true; rw [HLk.out, Bool.true_and]; exact decide_eq_true hne.out, by have h := HR1.out; simpa using h, HG1.out.trans (World.grownBy_alloc _ _ none)⟩
          case measure => exact HLt.out
end
end Go.Proofs.Ytkdoaidcmmehoaa

/-
  GrantLive on plain data. No walk here.
-/
set_option linter.unusedSimpArgs false
set_option linter.unusedVariables false
namespace Go.Proofs.Ytkdoaidcmmehoaa
open Go.RowKit KM
set_option maxRecDepth 100000

def gL : GV := ⟨1, false, false, 2, 3, 0, 256⟩
def eL : Ent := ⟨1, 5, gL, 0⟩
theorem entV_gL : entV (pkL gL) 1 2 = some gL := by kernel_rfl
/-- ahead of the map -/
structure L1 (s : Gs) (bs : List UInt8) : Prop where
  ok : s.M.ok 3
  n : s.M.n = 13
  o7 : (s.M.fr 7).owner = 1
  c7 : (s.M.fr 7).cnt = 0
  t7 : (s.M.fr 7).tot = 0
  by7 : (s.M.fr 7).part 11 bs.length = bs
  en : (s.M.fr 4).part 40 8 = pkL gL
  mem : s.g.mem 1 = some (4, 1)
  p : (s.P 1).getE 3 = (7, 0)
  mp : ∀ k, s.g.mp k = none
theorem part_laid_at (f : Fr) (o : Nat) (l : List UInt8) : (f.laid o l).part o l.length = l := by
  unfold Fr.part Fr.laid
  apply List.ext_getElem
  · simp
  · intro i h1 h2
    simp at h1
    simp [h1, List.getD, List.getElem?_eq_getElem h1]
theorem fr_write_same (M : Mach) (i off : Nat) (l : List UInt8) (hi : (i : Int) < M.n) (ho : (M.fr i).owner ≠ -1) (hl : off + l.length ≤ 256) : (M.write i off l).2.fr i = (M.fr i).laid off l := by
  unfold Mach.write
  rw [if_neg (by rw [Mach.is_yes (by omega) hi]; simp), if_neg (by rw [inP_yes (by omega) (by omega) (by omega)]; simp), Int.toNat_natCast, Int.toNat_natCast, if_neg ho]
  exact Mach.upd_same _ _ _
theorem fr_write_tot (M : Mach) (i off : Int) (l : List UInt8) (j : Nat) : ((M.write i off l).2.fr j).tot = (M.fr j).tot ∧ ((M.write i off l).2.fr j).cnt = (M.fr j).cnt := by
  by_cases h : j = i.toNat
  · subst h
    unfold Mach.write
    split; · exact ⟨rfl, rfl⟩
    split; · exact ⟨rfl, rfl⟩
    split; · exact ⟨rfl, rfl⟩
    simp only [Mach.upd_same]
    exact ⟨rfl, rfl⟩
  · rw [fr_write_other _ _ _ _ _ h]; exact ⟨rfl, rfl⟩
theorem L1.start (bs : List UInt8) (hb : bs.length ≤ 200) : L1 ((layS (bst 3) eL).setM ((layS (bst 3) eL).M.write 7 11 bs).2) bs where
  ok := Mach.write_ok (layM_ok (bst_ok 3) eL) _ _ _
  n := (Mach.vwrite_n _ _ _ _).trans (by kernel_rfl)
  o7 := (fr_write_keeps _ _ _ _ _).1.trans (by kernel_rfl)
  c7 := (fr_write_tot _ _ _ _ _).2.trans (by kernel_rfl)
  t7 := (fr_write_tot _ _ _ _ _).1.trans (by kernel_rfl)
  by7 := by
    show ((((layS (bst 3) eL).M.write 7 11 bs).2).fr 7).part 11 bs.length = bs
    rw [show (((layS (bst 3) eL).M.write 7 11 bs).2).fr 7 = _ from fr_write_same _ 7 11 bs (by rw [show (layS (bst 3) eL).M.n = 13 by kernel_rfl]; omega) (by rw [show ((layS (bst 3) eL).M.fr 7).owner = 1 by kernel_rfl]; omega) (by omega)]
    exact part_laid_at _ _ _
  en := by
    show ((((layS (bst 3) eL).M.write 7 11 bs).2).fr 4).part 40 8 = pkL gL
    rw [fr_write_other _ _ _ _ _ (by decide)]
    kernel_rfl
  mem := by kernel_rfl
  p := by kernel_rfl
  mp := fun k => by
    show (bst 3).g.mp k = none
    rw [bst_g3]; rfl
/-- while the map lives -/
structure LS (s : Gs) (wr : Bool) : Prop where
  ok : s.M.ok 4
  n : s.M.n = 13
  o7 : (s.M.fr 7).owner = 1
  t7 : (s.M.fr 7).tot = 1
  mp : ∀ k, s.g.mp k = if k = (2, 0) then some ⟨0, 2, 1, 5, 7, wr⟩ else none
def mapL (s : Gs) (wr : Bool) : Gs := ⟨(s.M.get 7 1 (kindW wr)).2, s.P, s.g.setMp (2, ((0 : Nat) : Int)) (some ⟨((0 : Nat) : Int), 2, ((1 : Nat) : Int), ((5 : Nat) : Int), 7, wr⟩)⟩
section
variable {s : Gs} {bs : List UInt8} {wr : Bool}
theorem L1.entB (h : L1 s bs) : s.entB ((1 : Nat) : Int) ((5 : Nat) : Int) = pkL gL := by
  have ht : s.table ((1 : Nat) : Int) = 4 := by unfold Gs.table; rw [Int.toNat_natCast, h.mem]
  unfold Gs.entB
  rw [ht, read_good (by rw [Mach.is_iff, h.n]; omega) (inP_yes (by omega) (by omega) (by omega))]
  exact h.en
theorem L1.granted (h : L1 s bs) : s.granted ((1 : Nat) : Int) 3 = some 7 := by
  have ho : s.owns ((1 : Nat) : Int) 7 = true := by
    unfold Gs.owns
    rw [Mach.is_yes (by omega) (by rw [h.n]; omega), show (7 : Int).toNat = 7 from rfl, h.o7]; rfl
  unfold Gs.granted
  rw [Int.toNat_natCast, h.mem]
  simp only [h.p, ho, and_true, if_true]
theorem L1.get (h : L1 s bs) (wr : Bool) : (s.M.get 7 1 (kindW wr)).1 = 0 ∧ (s.M.get 7 1 (kindW wr)).2 = s.M.upd 7 ((s.M.fr 7).taken (kindW wr)) := by
  have hi : s.M.is 7 = true := Mach.is_yes (by omega) (by rw [h.n]; omega)
  have hkk : kindW wr = 0 ∨ kindW wr = 1 := by unfold kindW; split <;> simp
  unfold Mach.get Mach.take
  rw [if_neg (by rw [hi]; simp), if_neg (by omega), show (7 : Int).toNat = 7 from rfl, if_neg (by rw [h.o7]; omega), if_neg (by rw [h.o7]; simp), if_neg (by rintro ⟨_, e, _⟩; exact e h.c7)]
  exact ⟨rfl, rfl⟩
theorem L1.mapE (h : L1 s bs) (wr : Bool) : s.mapE (s.entB ((1 : Nat) : Int) ((5 : Nat) : Int)) 2 ((1 : Nat) : Int) ((5 : Nat) : Int) wr 0 = ((((0 : Nat) : Int)), (0 : Int), mapL s wr) := by
  rw [h.entB]
  unfold Gs.mapE
  rw [entV_gL]
  have e1 : ¬ (gL.sub = true) := by decide
  have e2 : ¬ ((wr && gL.ro) = true) := by cases wr <;> decide
  simp only
  rw [if_neg e1, if_neg e2, show gL.gpfn = 3 from rfl, h.granted]
  show (if (s.M.get 7 1 (kindW wr)).1 = 0 then _ else _) = _
  rw [if_pos (h.get wr).1]
  rfl
theorem taken_same (f : Fr) (k : Int) : (f.taken k).owner = f.owner ∧ (f.taken k).tot = f.tot + 1 ∧ (f.taken k).bs = f.bs := by unfold Fr.taken; split <;> exact ⟨rfl, rfl, rfl⟩
theorem L1.map (h : L1 s bs) (wr : Bool) : LS (mapL s wr) wr ∧ (mapL s wr).g.mem 1 = some (4, 1) ∧ ((mapL s wr).M.fr 7).part 11 bs.length = bs := by
  obtain ⟨t1, t2, t3⟩ := taken_same (s.M.fr 7) (kindW wr)
  refine ⟨⟨?_, ?_, ?_, ?_, fun k => ?_⟩, h.mem, ?_⟩
  · exact Mach.get_ok h.ok 7 1 (kindW wr)
  · show (s.M.get 7 1 (kindW wr)).2.n = 13
    rw [Mach.get_n]; exact h.n
  · show ((s.M.get 7 1 (kindW wr)).2.fr 7).owner = 1
    rw [(h.get wr).2, Mach.upd_same, t1]; exact h.o7
  · show ((s.M.get 7 1 (kindW wr)).2.fr 7).tot = 1
    rw [(h.get wr).2, Mach.upd_same, t2, h.t7]; rfl
  · show (if k = (2, ((0 : Nat) : Int)) then _ else s.g.mp k) = _
    rw [h.mp]
    rfl
  · show ((s.M.get 7 1 (kindW wr)).2.fr 7).part 11 bs.length = bs
    rw [(h.get wr).2, Mach.upd_same]
    unfold Fr.part
    rw [t3]
    exact h.by7
/-- a write that keeps who owns what -/
theorem LS.write (h : LS s wr) (i off : Int) (l : List UInt8) : LS (s.setM (s.M.write i off l).2) wr :=
  ⟨Mach.write_ok h.ok _ _ _, (Mach.vwrite_n _ _ _ _).trans h.n, (fr_write_keeps _ _ _ _ _).1.trans h.o7, (fr_write_tot _ _ _ _ _).1.trans h.t7, h.mp⟩
theorem put_other (M : Mach) (i k : Int) (j : Nat) (h : j ≠ i.toNat) : (M.put i k).2.fr j = M.fr j := by
  unfold Mach.put Mach.drop
  split; · rfl
  split; · rfl
  split; · rfl
  exact Mach.upd_other _ _ _ _ h
theorem LS.leave (h : LS s wr) (hm : s.g.mem 1 = some (4, 1)) : LS (s.leave 1).2 wr ∧ (s.leave 1).2.M.fr 7 = s.M.fr 7 := by
  have e : s.leave 1 = (0, ⟨(s.M.put 4 1).2, s.P, s.g.setMem 1 none⟩) := by unfold Gs.leave; rw [if_neg (by decide), show (1 : Int).toNat = 1 from rfl, hm]
  rw [e]
  have hf : (s.M.put 4 1).2.fr 7 = s.M.fr 7 := put_other _ _ _ _ (by decide)
  exact ⟨⟨Mach.put_ok h.ok _ _, (Mach.put_n _ _ _).trans h.n, by show ((s.M.put 4 1).2.fr 7).owner = 1; rw [hf]; exact h.o7, by show ((s.M.put 4 1).2.fr 7).tot = 1; rw [hf]; exact h.t7, h.mp⟩, hf⟩
theorem LS.live (h : LS s wr) : s.live 2 0 = (⟨0, 2, 1, 5, 7, wr⟩, 0) := by unfold Gs.live; rw [if_neg (by decide), h.mp, if_pos rfl]
theorem LS.read (h : LS s wr) (hb : (s.M.fr 7).part 11 bs.length = bs) (hl : bs.length ≤ 200) (n : Nat) : s.readG [] n 2 0 11 bs.length = (bs, 0, s, n + 1) := by
  unfold Gs.readG
  rw [h.live, if_neg (by simp), if_neg (by rw [inP_yes (by omega) (by omega) (by omega)]; simp)]
  simp only
  rw [s.due_nil rfl, read_good (by rw [Mach.is_iff, h.n]; omega) (inP_yes (by omega) (by omega) (by omega))]
  show ((s.M.fr 7).part 11 ((bs.length : Int)).toNat, _, _, _) = _
  rw [Int.toNat_natCast, hb]
theorem LS.writeG (h : LS s wr) (hl : bs.length ≤ 200) : (s.write 2 0 0 bs).1 = (if wr = true then 0 else 62) ∧ LS (s.write 2 0 0 bs).2 wr := by
  unfold Gs.write
  rw [h.live]
  simp only
  rw [if_neg (by simp)]
  cases wr with
  | false => rw [if_pos rfl]; exact ⟨rfl, h⟩
  | true =>
    rw [if_neg (by simp), if_neg (by rw [inP_yes (by omega) (by omega) (by omega)]; simp)]
    refine ⟨?_, h.write _ _ _⟩
    show (s.M.write 7 0 bs).1 = _
    unfold Mach.write
    rw [if_neg (by rw [Mach.is_yes (by omega) (by rw [h.n]; omega)]; simp), if_neg (by rw [inP_yes (by omega) (by omega) (by omega)]; simp), show (7 : Int).toNat = 7 from rfl, if_neg (by rw [h.o7]; omega)]
    rfl
theorem LS.free (h : LS s wr) : s.M.free 7 = (9, s.M) := by
  unfold Mach.free
  rw [if_neg (by rw [Mach.is_yes (by omega) (by rw [h.n]; omega)]; simp), show (7 : Int).toNat = 7 from rfl, if_neg (by rw [h.o7]; omega), if_pos (by rw [h.t7]; omega)]
theorem LS.foreign (h : LS s wr) : s.g.foreign 1 = 1 := by
  unfold Gst.foreign
  have e : allKeys.filter (fun k => match s.g.mp k with | some a => a.o == 1 | none => false) = allKeys.filter fun k => decide (k = (2, 0)) := by
    refine List.filter_congr fun k hk => ?_
    rw [h.mp]
    by_cases e : k = (2, 0)
    · simp [e]
    · simp [e]
  exact (congrArg List.length e).trans (by decide +kernel)
/-- behind the unmap -/
structure NS (s : Gs) : Prop where
  ok : s.M.ok 4
  mp : ∀ k, s.g.mp k = none
theorem LS.unmap (h : LS s wr) : (s.unmap 2 0).1 = 0 ∧ NS (s.unmap 2 0).2 := by
  unfold Gs.unmap
  rw [h.live, if_pos rfl]
  refine ⟨rfl, Mach.put_ok h.ok _ _, fun k => ?_⟩
  show (if k = (2, 0) then none else s.g.mp k) = none
  rw [h.mp]
  split <;> rfl
theorem NS.live (h : NS s) : s.live 2 0 = (mpd0, 6) := by unfold Gs.live; rw [if_neg (by decide), h.mp]
theorem NS.unmap (h : NS s) : s.unmap 2 0 = (6, s) := by unfold Gs.unmap; rw [h.live, if_neg (by decide)]
theorem NS.read (h : NS s) (n : Nat) (off k : Int) : s.readG [] n 2 0 off k = ([], 6, s, n) := by unfold Gs.readG; rw [h.live, if_pos (by decide)]
theorem NS.write (h : NS s) (bs : List UInt8) : s.write 2 0 0 bs = (6, s) := by unfold Gs.write; rw [h.live, if_pos (by decide)]
theorem NS.foreign (h : NS s) : s.g.foreign 1 = 0 := by
  unfold Gst.foreign
  rw [List.length_eq_zero_iff, List.filter_eq_nil_iff]
  intro k _
  rw [h.mp]
  simp
end
end Go.Proofs.Ytkdoaidcmmehoaa

/-
  GrantLive: each call of the law as a contract on both the memory and the plain state. No walk here.
-/
set_option linter.unusedSimpArgs false
set_option linter.unusedVariables false
namespace Go.Proofs.Ytkdoaidcmmehoaa
open Go.RowKit KM
set_option maxHeartbeats 1000000
set_option maxRecDepth 100000

section
variable {w0 w w' : World} {t X B G : Nat} {pm : Nat → Nat × Nat × Nat} {s s' : Gs} {T T' : Nat} {V Gv : Nat} {S : Nat → Prop} {n n' : Nat} {wr : Bool} {bs : List UInt8}
/-- bytes that came in, to be written into the machine -/
theorem InBytes.isB {pa : Option Addr} {l : List UInt8} (h : InBytes w0 pa l) (cap : Nat) {B : Nat} (hB : w0.heap.size ≤ B) {w' : World} (hg : w0.grownBy w' none) : IsBytes w' B (.slice pa l.length cap) l :=
  (InBytes.is (cap := cap) h B hB).grown (⟨hg.os, hg.tape, hg.output, hg.size, fun k hk _ => hg.block k hk (by simp)⟩)
theorem WT.fB (h : WT w0 w t X B G pm s T) : w0.heap.size ≤ B := h.far B (.inr (.inl rfl))
theorem WT.writeM (h : WT w0 w t X B G pm s T) {K : Int} (hok : s.M.ok K) (i off : Int) (ho : off ≤ 9223372036854775807) {pa : Option Addr} {l : List UInt8} (cap : Nat) (hl : l.length ≤ 9223372036854775807) (hb : InBytes w0 pa l) :
    Calls Try.prog 18 #[.pointer (some ⟨B, 0, none⟩), .int .i64 i, .int .i64 off, .slice pa l.length cap] w fun e w' => e = .returned (.int .i64 (s.M.write i off l).1) ∧ WT w0 w' t X B G pm (s.setM (s.M.write i off l).2) T :=
  (Write_any B i off _ l w s.M K h.a.m hok ho (hb.isB cap h.fB h.g) hl).mono fun e w' ⟨he, hm, hg⟩ => ⟨he, h.mach hm hg⟩
theorem WV.writeM (h : WV w0 w t X B G pm s T V Gv S n) {K : Int} (hok : s.M.ok K) (i off : Int) (ho : off ≤ 9223372036854775807) {pa : Option Addr} {l : List UInt8} (cap : Nat) (hl : l.length ≤ 9223372036854775807) (hb : InBytes w0 pa l) :
    Calls Try.prog 18 #[.pointer (some ⟨B, 0, none⟩), .int .i64 i, .int .i64 off, .slice pa l.length cap] w fun e w' => e = .returned (.int .i64 (s.M.write i off l).1) ∧ WV w0 w' t X B G pm (s.setM (s.M.write i off l).2) T V Gv S n :=
  (Write_any B i off _ l w s.M K h.wt.a.m hok ho (hb.isB cap h.wt.fB h.wt.g) hl).mono fun e w' ⟨he, hm, hg⟩ => ⟨he, h.mach hm hg⟩
theorem WV.mapLive (h : WV w0 w t X B G pm s T V Gv S n) (hs : L1 s bs) (hT : T < maxLen) (hn : (n : Int) < 9223372036854775807) (wr : Bool) :
    Calls Try.prog 44 #[.pointer (some ⟨X, 0, none⟩), .pointer (some ⟨V, 0, none⟩), .int .i64 2, .int .i64 1, .int .i64 5, .bool wr] w fun e w' => e = .returned (.tuple #[.int .i64 0, .int .i64 0]) ∧ WV w0 w' t X B G pm (mapL s wr) (T + 1) V Gv S (n + 1) := by
  have h1 := gMap_rd h.a hs.ok (by omega) hT (fun p hp => by cases hp) (by simp) hn 2 1 5 wr (by decide) (by omega) (by omega) 4 1 hs.mem (by omega) (by rw [hs.n]; omega) (by omega) 0 (Gst.free_at (by omega) (fun j hj => by omega) (by rw [hs.mp]; rfl)) ((((0 : Nat) : Int)), (0 : Int), mapL s wr) (by rw [due_none]; exact hs.mapE wr)
  exact h1.mono fun e w' ⟨he, hr⟩ => ⟨he, h.gr hr⟩
theorem WV.revokeL (h : WV w0 w t X B G pm s T V Gv S n) (hs : LS s wr) (hm : s.g.mem 1 = some (4, 1)) :
    Calls Try.prog 45 #[.pointer (some ⟨X, 0, none⟩), .int .i64 1, .int .i64 5] w fun e w' => e = .returned (.int .i64 9) ∧ WV w0 w' t X B G pm s T V Gv S n := by
  have hsl : s.g.slot 1 5 = true := Gst.slot_yes.2 ⟨⟨⟨by omega, by omega⟩, ⟨_, hm⟩⟩, by omega, by omega⟩
  have hkb : s.g.mp (2, 0) = some ⟨0, 2, 1, 5, 7, wr⟩ := by rw [hs.mp, if_pos rfl]
  refine (gRevoke_busy h.wt.a (fun c k a e => ?_) 1 5 hsl (2, 0) _ hkb rfl rfl).mono fun e w' ⟨he, hg⟩ => ⟨he, h.grown hg⟩
  rw [hs.mp] at e
  split at e
  · rename_i e2; rw [e2]; exact ⟨WalkArith.wf_i64 (by simp), WalkArith.wf_i64 (by simp)⟩
  · cases e
theorem WV.leaveL (h : WV w0 w t X B G pm s T V Gv S n) (hs : LS s wr) : Calls Try.prog 46 #[.pointer (some ⟨X, 0, none⟩), .int .i64 1] w fun e w' => e = .returned (.int .i64 (s.leave 1).1) ∧ WV w0 w' t X B G pm (s.leave 1).2 T V Gv S n :=
  (gLeave h.wt.a hs.ok (by omega) 1).mono fun e w' ⟨he, hl⟩ => ⟨he, h.left hl⟩
theorem WV.readL (h : WV w0 w t X B G pm s T V Gv S n) (hs : LS s wr) (hb : (s.M.fr 7).part 11 bs.length = bs) (hl : bs.length ≤ 200) (hn : (n : Int) < 9223372036854775807) :
    Calls Try.prog 47 #[.pointer (some ⟨X, 0, none⟩), .pointer (some ⟨V, 0, none⟩), .int .i64 2, .int .i64 0, .int .i64 11, .int .i64 bs.length] w fun e w' => ∃ q cp, e = .returned (.tuple #[.slice q bs.length cp, .int .i64 0]) ∧ KeptBytes w' (fun k => w.heap.size ≤ k) q bs ∧ WV w0 w' t X B G pm s T V Gv S (n + 1) := by
  have h1 := gRead h.a hs.ok (fun p hp => by cases hp) (by simp) hn 2 0 11 bs.length (WalkArith.wf_i64 (by omega)) (by omega) (fun a e => by rw [hs.live] at e; cases e; rw [hs.n]; simp) _ (hs.read hb hl n)
  exact h1.mono fun e w' ⟨q, cp, he, hk, hr⟩ => ⟨q, cp, he, hk, h.gr hr⟩
theorem WV.writeL (h : WV w0 w t X B G pm s T V Gv S n) (hs : LS s wr) {pa : Option Addr} (cap : Nat) (hl : bs.length ≤ 200) (hb : InBytes w0 pa bs) {kc : Int} (hkc : (if wr = true then (0 : Int) else 62) = kc) :
    Calls Try.prog 48 #[.pointer (some ⟨X, 0, none⟩), .int .i64 2, .int .i64 0, .int .i64 0, .slice pa bs.length cap] w fun e w' => e = .returned (.int .i64 kc) ∧ WV w0 w' t X B G pm (s.write 2 0 0 bs).2 T V Gv S n ∧ Chg (gfoot X B G pm 3) w w' := by
  have h1 := gWrite h.wt.a hs.ok 2 0 0 (WalkArith.wf_i64 (by omega)) (by omega) pa cap bs (by omega) (fun w' hg => hb.isB cap h.wt.fB (h.wt.g.trans hg))
  rw [(hs.writeG hl).1, hkc] at h1
  exact h1.mono fun e w' ⟨he, hr⟩ => ⟨he, h.left hr, hr.c⟩
theorem WV.freeL (h : WV w0 w t X B G pm s T V Gv S n) (hs : LS s wr) : Calls Try.prog 49 #[.pointer (some ⟨B, 0, none⟩), .int .i64 7] w fun e w' => e = .returned (.int .i64 9) ∧ WV w0 w' t X B G pm s T V Gv S n := by
  have h1 := Free_any B 7 w s.M 4 h.wt.a.m hs.ok
  rw [hs.free] at h1
  exact h1.mono fun e w' ⟨he, hm, hg⟩ => ⟨he, h.mach hm hg⟩
theorem WV.foreignL (h : WV w0 w t X B G pm s T V Gv S n) (hs : LS s wr) : Calls Try.prog 50 #[.pointer (some ⟨X, 0, none⟩), .int .i64 1] w fun e w' => e = .returned (.int .i64 1) ∧ WV w0 w' t X B G pm s T V Gv S n := by
  have h1 := gForeign h.wt.a (fun c k a e => by
    rw [hs.mp] at e
    split at e
    · rename_i e2; cases e2; omega
    · cases e) 1
  rw [hs.foreign] at h1
  exact h1.mono fun e w' ⟨he, hg⟩ => ⟨he, h.grown hg⟩
theorem WV.unmapL (h : WV w0 w t X B G pm s T V Gv S n) (hs : LS s wr) : Calls Try.prog 51 #[.pointer (some ⟨X, 0, none⟩), .int .i64 2, .int .i64 0] w fun e w' => e = .returned (.int .i64 0) ∧ WV w0 w' t X B G pm (s.unmap 2 0).2 T V Gv S n := by
  have h1 := gUnmap h.wt.a hs.ok (by omega) 2 0 (WalkArith.wf_i64 (by omega))
  rw [hs.unmap.1] at h1
  exact h1.mono fun e w' ⟨he, hr⟩ => ⟨he, h.left hr⟩
theorem WV.unmapN (h : WV w0 w t X B G pm s T V Gv S n) (hs : NS s) : Calls Try.prog 51 #[.pointer (some ⟨X, 0, none⟩), .int .i64 2, .int .i64 0] w fun e w' => e = .returned (.int .i64 6) ∧ WV w0 w' t X B G pm s T V Gv S n := by
  have h1 := gUnmap h.wt.a hs.ok (by omega) 2 0 (WalkArith.wf_i64 (by omega))
  rw [hs.unmap] at h1
  exact h1.mono fun e w' ⟨he, hr⟩ => ⟨he, h.left hr⟩
theorem WV.foreignN (h : WV w0 w t X B G pm s T V Gv S n) (hs : NS s) : Calls Try.prog 50 #[.pointer (some ⟨X, 0, none⟩), .int .i64 1] w fun e w' => e = .returned (.int .i64 0) ∧ WV w0 w' t X B G pm s T V Gv S n := by
  have h1 := gForeign h.wt.a (fun c k a e => by rw [hs.mp] at e; cases e) 1
  rw [hs.foreign] at h1
  exact h1.mono fun e w' ⟨he, hg⟩ => ⟨he, h.grown hg⟩
theorem WV.readN (h : WV w0 w t X B G pm s T V Gv S n) (hs : NS s) (hn : (n : Int) < 9223372036854775807) :
    Calls Try.prog 47 #[.pointer (some ⟨X, 0, none⟩), .pointer (some ⟨V, 0, none⟩), .int .i64 2, .int .i64 0, .int .i64 0, .int .i64 1] w fun e w' => ∃ q cp, e = .returned (.tuple #[.slice q 0 cp, .int .i64 6]) ∧ WV w0 w' t X B G pm s T V Gv S n := by
  have h1 := gRead h.a hs.ok (fun p hp => by cases hp) (by simp) hn 2 0 0 1 (WalkArith.wf_i64 (by omega)) (by omega) (fun a e => by rw [hs.live] at e; cases e) _ (hs.read n 0 1)
  exact h1.mono fun e w' ⟨q, cp, he, hk, hr⟩ => ⟨q, cp, he, h.gr hr⟩
theorem WV.writeN (h : WV w0 w t X B G pm s T V Gv S n) (hs : NS s) {pa : Option Addr} (cap : Nat) (hl : bs.length ≤ 200) (hb : InBytes w0 pa bs) :
    Calls Try.prog 48 #[.pointer (some ⟨X, 0, none⟩), .int .i64 2, .int .i64 0, .int .i64 0, .slice pa bs.length cap] w fun e w' => e = .returned (.int .i64 6) ∧ WV w0 w' t X B G pm s T V Gv S n := by
  have h1 := gWrite h.wt.a hs.ok 2 0 0 (WalkArith.wf_i64 (by omega)) (by omega) pa cap bs (by omega) (fun w' hg => hb.isB cap h.wt.fB (h.wt.g.trans hg))
  rw [hs.write] at h1
  exact h1.mono fun e w' ⟨he, hr⟩ => ⟨he, h.left hr⟩
end
end Go.Proofs.Ytkdoaidcmmehoaa
