/-
  Package tenementref05: update where owner and type fit.
-/
import Derived.Test.YtemeihamkdpmoaaK27
set_option linter.unusedSimpArgs false
set_option linter.unusedVariables false
namespace Go.Proofs.Ytemeihamkdpmoaa
open Go.RowKit
set_option maxHeartbeats 4000000

/-- the first bytes of an entry, as the text makes them: the rest is n divided -/
def le4k (n : Nat) (k : Nat) : List UInt8 := (le4 n).take k
def divk (n : Nat) : Nat → Nat
  | 0 => n
  | k + 1 => divk n k / 256
theorem le4k_succ (n : Nat) (hn : n < 4294967296) (k : Nat) (hk : k < 4) : bcells (le4k n (k + 1)) = bcells (le4k n k) ++ [.int .u8 ((divk n k : Int) % 256)] := by
  have h : k = 0 ∨ k = 1 ∨ k = 2 ∨ k = 3 := by omega
  have e0 : ((UInt8.ofNat (n % 256)).toNat : Int) = (n : Int) % 256 := by rw [UInt8.toNat_ofNat']; omega
  have e1 : ((UInt8.ofNat (n / 256 % 256)).toNat : Int) = ((n / 256 : Nat) : Int) % 256 := by rw [UInt8.toNat_ofNat']; omega
  have e2 : ((UInt8.ofNat (n / 65536 % 256)).toNat : Int) = ((n / 256 / 256 : Nat) : Int) % 256 := by rw [UInt8.toNat_ofNat']; omega
  have e3 : ((UInt8.ofNat (n / 16777216 % 256)).toNat : Int) = ((n / 256 / 256 / 256 : Nat) : Int) % 256 := by rw [UInt8.toNat_ofNat']; omega
  rcases h with rfl | rfl | rfl | rfl
  · simp only [le4k, le4, bcells, divk, List.take, List.map, List.nil_append, e0]
  · simp only [le4k, le4, bcells, divk, List.take, List.map, List.cons_append, List.nil_append, e1]
  · simp only [le4k, le4, bcells, divk, List.take, List.map, List.cons_append, List.nil_append, e2]
  · simp only [le4k, le4, bcells, divk, List.take, List.map, List.cons_append, List.nil_append, e3]
theorem divk_lt (n : Nat) (hn : n < 4294967296) (k : Nat) : divk n k < 4294967296 := by
  induction k with
  | zero => exact hn
  | succ k ih => unfold divk; omega
theorem info_u8' : (Try.prog.info? 5).map (fun i => (i.zero, i.size, i.bytes)) = some (some (.int .u8 0), 1, 1) := by kernel_rfl
theorem YM.hereL {w b Y : Nat} {M : Mach} {W : World} {L : Lay} (hL : RM W b M L) (hy : W.cell? ⟨Y, 0, none⟩ = some (.pointer (some ⟨b, 0, none⟩))) (hY : ¬ L.foot b Y) : YM W W b Y (L.foot b) M :=
  ⟨⟨L, hL, fun _ h => .inl h⟩, hy, Chg.refl _ _, hY, World.block_lt_of_cell? _ _ hy⟩
theorem own_apart {W : World} {base b : Nat} {L : Lay} {l : List UInt8} {pa : Option Addr} {n c : Nat} (h : W.ownsRow base 5 1 (.slice pa n c) l.length (bcells l)) (hL : ∀ k, L.foot b k → k < base) : Apart W L b pa l := fun k hk => by
  obtain ⟨m, hm⟩ : ∃ m, l.length = m + 1 := ⟨l.length - 1, by omega⟩
  rw [hm] at h
  obtain ⟨g, c', e, hg, hr⟩ := ownsRow_row h
  cases e
  refine ⟨g, 0, rfl, fun hf => by have := hL g hf; omega, ?_⟩
  rw [Nat.zero_add, hr.cell (by omega)]
  simp [bcells, List.getD, List.getElem?_eq_getElem hk]
theorem Apart.grown {W W' : World} {L : Lay} {b : Nat} {pa : Option Addr} {l : List UInt8} (h : Apart W L b pa l) (hg : W.grownBy W' none) : Apart W' L b pa l := fun k hk => by
  obtain ⟨sb, so, e, h1, h2⟩ := h k hk
  exact ⟨sb, so, e, h1, hg.cell h2 (by simp)⟩
theorem rWrite4 (b : Nat) (i off : Int) (pa : Option Addr) (cap n : Nat) (w : World) (M : Mach) (L : Lay) (h : RM w b M L) (hl : Apart w L b pa (le4 n)) :
    Calls Try.prog 70 #[.pointer (some ⟨b, 0, none⟩), .int .i64 i, .int .i64 off, .slice pa 4 cap] w (RLeft b L w (M.write i off (le4 n)).1 (M.write i off (le4 n)).2) :=
  rWrite b i off pa cap (le4 n) w M L h (by show 4 ≤ _; omega) hl
set_option maxRecDepth 100000 in
theorem yupdate_core (b Y lv K d t i n : Nat) (c : Int) (w : World) (S : Nat → Prop) (M M1 M3 : Mach) (h : YM w w b Y S M) (hd : d < 8) (ht : (t : Int) < M.n) (hx : i < 64) (hn : n < 4294967296) (ho : (M.fr t).owner = d)
    (hlv : (lv = 1 ∧ K = 2) ∨ (lv = 2 ∧ K = 3)) (hty : (M.fr t).ty = K) (hs1 : MSame M M1) (hcM : c ≠ 0 → M1 = M)
    (hte : YCall 125 #[.pointer (some ⟨Y, 0, none⟩), .int .i64 d, .int .i64 lv, .int .u32 n] b Y M (.returned (.int .i64 c)) M1)
    (hle : c = 0 → YCall 126 #[.pointer (some ⟨Y, 0, none⟩), .int .i64 lv, .int .u32 (M.word t i : Nat)] b Y (M1.write t (4 * i : Nat) (le4 n)).2 (.returned (.tuple #[])) M3) :
    Calls Try.prog 111 #[.pointer (some ⟨Y, 0, none⟩), .int .i64 d, .agg #[.int .i64 t, .int .i64 i, .int .u32 n]] w fun e w' => e = .returned (.int .i64 c) ∧ YM w w' b Y S (if c = 0 then M3 else M) := by
  obtain ⟨Mr, hMr⟩ : ∃ Mr, (if c = 0 then M3 else M) = Mr := ⟨_, rfl⟩
  have HR0 := hid (show c = 0 → Mr = M3 from fun e => by rw [← hMr, if_pos e])
  have HRN := hid (show c ≠ 0 → Mr = M1 from fun e => by rw [← hMr, if_neg e, hcM e])
  rw [hMr]
  clear hMr hcM
  obtain ⟨W0, hW, hg0, b0, b1, b2⟩ := box3 w (.int .i64 t) (.int .i64 i) (.int .u32 n) 107
  obtain ⟨L0, hLw, hf0⟩ := h.r
  have HF0 := hid hf0
  have HBox := hid (show ¬ L0.foot b w.heap.size from fun e => Nat.lt_irrefl _ (hLw.lt e))
  have HnY := hid (show ¬ L0.foot b Y from fun e => (hf0 Y e).elim h.yS fun e => by have := h.yl; omega)
  have hh := h.more hg0
  have H0 := hid hh
  have y0 := H0.out.y
  have hL0 := hLw.grown hg0
  have HL0 := hid hL0
  have HG0 := hid hg0
  have hi : M.is t = true := Mach.is_yes (by omega) ht
  have hd0 : (0 : Int) ≤ d := by omega
  have hd8 : (d : Int) < 8 := by omega
  have h0 : (0 : Int) ≤ i := by omega
  have h64 : (i : Int) < 64 := by omega
  have hLn := hL0.hn
  have htl : t < L0.n := by omega
  have htl' : (t : Int) < L0.n := by omega
  have z0 := hL0.slF; have z1 := hL0.owner htl; have z2 := hL0.ty htl; have z3 := hL0.cnt htl; have z4 := hL0.tot htl
  rw [ho] at z1
  rw [hty] at z2
  generalize (M.fr t).cnt = cn at *
  generalize (M.fr t).tot = to at *
  have d1 : decide ((i : Int) < 0) = false := by simp; try omega
  have d2 : decide (64 ≤ (i : Int)) = false := by simp; try omega
  have HT := hid hte; have HLE := hid hle; have HS1 := hid hs1; have HTt := hid ht; have HNn := hid hn; have HXi := hid hx
  have HWd := hid (show M1.word t i = M.word t i from Mach.word_bs (hs1.bs t) i)
  obtain ⟨i0, hi0, hz0, hz1, hz2⟩ := info_parts info_u8'
  have Hi := hid hi0; have Hz0 := hid hz0; have Hz1 := hid hz1; have Hz2 := hid hz2
  generalize M.word t i = old at *
  clear h hh hL0 hf0 hLn ht hte hle hs1 ho hty hg0 hLw hi0 hz0 hz1 hz2
  rcases hlv with ⟨rfl, rfl⟩ | ⟨rfl, rfl⟩
  · go_enter Try.func111, Try.ntmps111
    go_wp2
    go_region_held3 (fun w' => w'.cell? ⟨Y, 0, none⟩ = some (.pointer (some ⟨b, 0, none⟩)) ∧ w'.cell? ⟨w.heap.size, 0, none⟩ = some (.int .i64 t) ∧ w'.cell? ⟨w.heap.size, 1, none⟩ = some (.int .i64 i)) (first | exact ⟨by assumption, by assumption, by assumption⟩ | go_keep)
      (first
      | (go_at_call 104; refine (rDomain_yes _ _ hd0 hd8).mono ?_; rintro e w1 ⟨rfl, rfl⟩)
      | (go_at_call 77; refine (yIs _ _ _ M L0 (HL0.out.grown (grownBy_drew W0 none))).mono ?_; rintro e w1 ⟨rfl, rfl⟩; rw [hi]))
    go_wp2
    have ga := World.grownBy_alloc W0 (.cells #[.int .i64 0, .int .i64 0, .int .i64 0, .int .i64 0] 93) none
    have u0 := ga.cell y0 (by simp); have u1 := ga.cell b0 (by simp); have u2 := ga.cell z0 (by simp); have u3 := ga.cell z1 (by simp); have u4 := ga.cell z2 (by simp); have u5 := ga.cell z3 (by simp); have u6 := ga.cell z4 (by simp)
    have r4 := row4z W0
    have v0 := r4.cell (k := 0) (by omega); have v1 := r4.cell (k := 1) (by omega); have v2 := r4.cell (k := 2) (by omega); have v3 := r4.cell (k := 3) (by omega); have vz := r4.frozen
    clear r4 ga
    go_region
    clear u0 u1 u2 u3 u4 u5 u6 v0 v1 v2 v3 vz
    obtain ⟨W3, hW3⟩ : ∃ W3, (W0.alloc (.cells #[.int .i64 d, .int .i64 2, .int .i64 cn, .int .i64 to] 93)).drew.drew = W3 := ⟨_, rfl⟩
    have g3 : W0.grownBy W3 none := by rw [← hW3]; exact (World.grownBy_alloc _ _ none).trans ((grownBy_drew _ none).trans (grownBy_drew _ none))
    have f0 : W3.cell? ⟨W0.heap.size, 0, none⟩ = some (.int .i64 d) := by rw [← hW3]; simp [go_sem]
    have f1 : W3.cell? ⟨W0.heap.size, 1, none⟩ = some (.int .i64 2) := by rw [← hW3]; simp [go_sem]
    rw [hW3]
    clear hW3
    have H3 := hid (H0.out.more g3)
    have y3 := H3.out.y; have c0 := g3.cell b0 (by simp); have c1 := g3.cell b1 (by simp); have c2 := g3.cell b2 (by simp)
    have HY3 := hid (YM.hereL (w := 0) (HL0.out.grown g3) y3 HnY.out)
    have HZ := hid (show w.heap.size < W3.heap.size by have := g3.size; have := HG0.out.size; have := World.block_lt_of_cell? _ _ b0; simp only at this; omega)
    clear z0 z1 z2 z3 z4 b0 b1 b2 y0 g3
    by_cases hc : c = 0
    · subst hc
      go_wp2_with (go_at_call 125; refine (HT.out _ _ HY3.out).mono ?_; rintro e w4 ⟨rfl, h4⟩; have H4 := hid (H3.out.step HF0.out h4); obtain ⟨L4, hL4, hf4⟩ := h4.r; have HL4 := hid hL4; have HF4 := hid hf4; have y4 := h4.y; have n0 := h4.c.cell c0 HBox.out; have n1 := h4.c.cell c1 HBox.out; have n2 := h4.c.cell c2 HBox.out; clear h4 hL4 hf4)
      clear y3 c0 c1 c2 f0 f1
      have hwk : IntKind.i64.wrap ((i : Int) * 4) = (i : Int) * 4 := by simp only [IntKind.wrap_i64]; omega
      have hwk2 : IntKind.i64.wrap (4 * (i : Int)) = 4 * (i : Int) := by simp only [IntKind.wrap_i64]; omega
      have HA := hid (fun (wd : World) (hL : RM wd b M1 L4) => (show Calls Try.prog 26 #[.pointer (some ⟨b, 0, none⟩), .int .i64 t, .int .i64 i] wd fun e w' => e = .returned (.tuple #[.int .u32 (old : Nat), .int .i64 0]) ∧ wd = w' from by
        have hh := rAt_yes b t i wd M1 L4 hL (by have := hL.hn; have := HS1.out.n; have := HTt.out; omega) HXi.out
        rw [← HWd.out]
        exact hh))
      go_quiet (first | (go_at_call 26; refine Calls.quiet_of_same (v := .tuple #[.int .u32 (old : Nat), .int .i64 0]) ((HA.out _ (HL4.out.grown (grownBy_drewN _ _ _))).mono ?_); rintro e w' ⟨rfl, rfl⟩; exact ⟨rfl, rfl⟩))
      obtain ⟨wB, hwB⟩ : ∃ x, w4.drewN nq = x := ⟨_, rfl⟩
      have gB : w4.grownBy wB none := hwB ▸ grownBy_drewN w4 nq none
      rw [hwB]
      have HB := hid (H4.out.more gB); have HLB := hid (HL4.out.grown gB)
      have HQ0 := hid (gB.cell n0 (by simp)); have HQ1 := hid (gB.cell n1 (by simp)); have q2 := gB.cell n2 (by simp)
      have HF4S := hid (show ∀ k, L4.foot b k → S k ∨ w.heap.size ≤ k from fun k hk => (HF4.out k hk).elim (HF0.out k) fun e => .inr (by have := HZ.out; omega))
      have HB4 := hid (show ¬ L4.foot b w.heap.size from fun e => (HF4.out _ e).elim HBox.out fun e => by have := HZ.out; omega)
      clear hwB y4 n0 n1 n2 HA gB
      go_wp2
      clear q2
      go_loopw [12, 13, 14] (fun x v k wr => ∃ j : Nat, k = .int .i64 j ∧ j ≤ 4 ∧ x = .int .u32 (divk n j : Nat) ∧ wr.ownsRow wB.heap.size 5 1 v j (bcells (le4k n j)) ∧ wB.grownBy wr none) (fun _ _ k _ => 4 - (intOf k).toNat)
      case atStart => exact ⟨0, rfl, by omega, rfl, by simpa [le4k, bcells] using World.ownsRow_nil _ _ _ _, World.grownBy.refl _ _⟩
      case round =>
        obtain ⟨j, rfl, hj, rfl, hown, hg⟩ := hrel
        have hj0 : (0 : Int) ≤ j := by omega
        obtain ⟨pv, cv, rfl⟩ := ownsRow_slice hown
        by_cases hj4 : j < 4
        · have hj4' : (j : Int) < 4 := by omega
          have HOw := hid hown; have HGr := hid hg
          have HS := hid (le4k_succ n HNn.out j hj4)
          have HDv := hid (show divk n (j + 1) = divk n j / 256 from rfl)
          have hdl := divk_lt n HNn.out j
          generalize divk n j = x at *
          clear hown hg
          go_wp2_with (at_builtin; refine wpList_append_own _ rfl _ _ 31 rfl wB.heap.size 5 i0 (.int .u8 0) 1 1 Try.underlying31 Hi.out Hz0.out Hz1.out Hz2.out rfl (by decide) _ _ _ rfl (HOw.out.alloc _) ⟨wr.heap.size, 0, none⟩ 1 1 [.int .u8 ((x : Int) % 256)] rfl rfl (cell_one_new _ _ _) (by simp [Value.oneCell']) (by unfold maxLen; omega) (by omega) (by have := HGr.out.size; simp; omega) ?_; intro v' w5 hown' hgrow hnil; clear hnil; obtain ⟨g', cap', rfl⟩ := ownsRow_succ hown'; have HO5 := hid hown'; have HG5 := hid ((HGr.out.trans (World.grownBy_alloc wr _ none)).andThen hgrow (fun j hj => .inl (HOw.out.lt j hj).1)); clear hown' hgrow)
          go_roundw
          case rel => exact ⟨j + 1, by go_num, by omega, by rw [HDv.out]; go_num, by rw [HS.out]; exact HO5.out, HG5.out⟩
          case measure => simp [intOf]; omega
        · obtain rfl : j = 4 := by omega
          have hge : (4 : Int) ≤ ((4 : Nat) : Int) := by omega
          have HAp := hid ((own_apart (l := le4 n) hown (fun k hk => HLB.out.lt hk)).grown (grownBy_drew wr none))
          have H5 := hid ((HB.out.more hg).more (grownBy_drew wr none)); have HL5 := hid ((HLB.out.grown hg).grown (grownBy_drew wr none))
          have yc := (HB.out.more hg).y; have r0 := hg.cell HQ0.out (by simp); have r1 := hg.cell HQ1.out (by simp)
          have hof : ((4 * i : Nat) : Int) = 4 * (i : Int) := by omega
          rw [hof] at HLE
          have HLf := hid (HLE.out (by trivial))
          clear hown hg HLE hof
          go_wp2
          go_region_held3 (fun w' => w'.cell? ⟨Y, 0, none⟩ = some (.pointer (some ⟨b, 0, none⟩)) ∧ w'.cell? ⟨w.heap.size, 0, none⟩ = some (.int .i64 t) ∧ w'.cell? ⟨w.heap.size, 1, none⟩ = some (.int .i64 i)) (first | exact ⟨by assumption, by assumption, by assumption⟩ | go_keep)
            (first
              | (go_at_call 70; refine (rWrite4 b t _ _ cv n _ M1 L4 HL5.out HAp.out).mono ?_; rintro e w6 ⟨rfl, L6, h6, _, c6, f6⟩; have H6 := hid (H5.out.put HF4S.out h6 c6 f6); have y6 := H6.out.y; have s0 := c6.cell ((grownBy_drew wr none).cell r0 (by simp)) HB4.out; have s1 := c6.cell ((grownBy_drew wr none).cell r1 (by simp)) HB4.out; clear h6 c6 f6))
          all_goals go_wp2_with (go_at_call 126; obtain ⟨S1, hs1, hs2⟩ := H6.out.here; refine (HLf.out _ S1 hs1).mono ?_; rintro e w7 ⟨rfl, h7⟩; have H7 := hid (H6.out.step hs2 h7); clear hs1 hs2 h7)
          all_goals go_ret
          all_goals
            have h8 := H7.out
            rw [← HR0.out (by trivial)] at h8
            exact ⟨rfl, h8⟩
    · have hcb : (c != 0) = true := by simp [hc]
      go_wp2_with (go_at_call 125; refine (HT.out _ _ HY3.out).mono ?_; rintro e w4 ⟨rfl, h4⟩; have H4 := hid (H3.out.step HF0.out h4); clear h4)
      go_ret
      have h8 := H4.out
      rw [← HRN.out hc] at h8
      exact ⟨rfl, h8⟩
  · go_enter Try.func111, Try.ntmps111
    go_wp2
    go_region_held3 (fun w' => w'.cell? ⟨Y, 0, none⟩ = some (.pointer (some ⟨b, 0, none⟩)) ∧ w'.cell? ⟨w.heap.size, 0, none⟩ = some (.int .i64 t) ∧ w'.cell? ⟨w.heap.size, 1, none⟩ = some (.int .i64 i)) (first | exact ⟨by assumption, by assumption, by assumption⟩ | go_keep)
      (first
      | (go_at_call 104; refine (rDomain_yes _ _ hd0 hd8).mono ?_; rintro e w1 ⟨rfl, rfl⟩)
      | (go_at_call 77; refine (yIs _ _ _ M L0 (HL0.out.grown (grownBy_drew W0 none))).mono ?_; rintro e w1 ⟨rfl, rfl⟩; rw [hi]))
    go_wp2
    have ga := World.grownBy_alloc W0 (.cells #[.int .i64 0, .int .i64 0, .int .i64 0, .int .i64 0] 93) none
    have u0 := ga.cell y0 (by simp); have u1 := ga.cell b0 (by simp); have u2 := ga.cell z0 (by simp); have u3 := ga.cell z1 (by simp); have u4 := ga.cell z2 (by simp); have u5 := ga.cell z3 (by simp); have u6 := ga.cell z4 (by simp)
    have r4 := row4z W0
    have v0 := r4.cell (k := 0) (by omega); have v1 := r4.cell (k := 1) (by omega); have v2 := r4.cell (k := 2) (by omega); have v3 := r4.cell (k := 3) (by omega); have vz := r4.frozen
    clear r4 ga
    go_region
    clear u0 u1 u2 u3 u4 u5 u6 v0 v1 v2 v3 vz
    obtain ⟨W3, hW3⟩ : ∃ W3, (W0.alloc (.cells #[.int .i64 d, .int .i64 3, .int .i64 cn, .int .i64 to] 93)).drew.drew = W3 := ⟨_, rfl⟩
    have g3 : W0.grownBy W3 none := by rw [← hW3]; exact (World.grownBy_alloc _ _ none).trans ((grownBy_drew _ none).trans (grownBy_drew _ none))
    have f0 : W3.cell? ⟨W0.heap.size, 0, none⟩ = some (.int .i64 d) := by rw [← hW3]; simp [go_sem]
    have f1 : W3.cell? ⟨W0.heap.size, 1, none⟩ = some (.int .i64 3) := by rw [← hW3]; simp [go_sem]
    rw [hW3]
    clear hW3
    have H3 := hid (H0.out.more g3)
    have y3 := H3.out.y; have c0 := g3.cell b0 (by simp); have c1 := g3.cell b1 (by simp); have c2 := g3.cell b2 (by simp)
    have HY3 := hid (YM.hereL (w := 0) (HL0.out.grown g3) y3 HnY.out)
    have HZ := hid (show w.heap.size < W3.heap.size by have := g3.size; have := HG0.out.size; have := World.block_lt_of_cell? _ _ b0; simp only at this; omega)
    clear z0 z1 z2 z3 z4 b0 b1 b2 y0 g3
    by_cases hc : c = 0
    · subst hc
      go_wp2_with (go_at_call 125; refine (HT.out _ _ HY3.out).mono ?_; rintro e w4 ⟨rfl, h4⟩; have H4 := hid (H3.out.step HF0.out h4); obtain ⟨L4, hL4, hf4⟩ := h4.r; have HL4 := hid hL4; have HF4 := hid hf4; have y4 := h4.y; have n0 := h4.c.cell c0 HBox.out; have n1 := h4.c.cell c1 HBox.out; have n2 := h4.c.cell c2 HBox.out; clear h4 hL4 hf4)
      clear y3 c0 c1 c2 f0 f1
      have hwk : IntKind.i64.wrap ((i : Int) * 4) = (i : Int) * 4 := by simp only [IntKind.wrap_i64]; omega
      have hwk2 : IntKind.i64.wrap (4 * (i : Int)) = 4 * (i : Int) := by simp only [IntKind.wrap_i64]; omega
      have HA := hid (fun (wd : World) (hL : RM wd b M1 L4) => (show Calls Try.prog 26 #[.pointer (some ⟨b, 0, none⟩), .int .i64 t, .int .i64 i] wd fun e w' => e = .returned (.tuple #[.int .u32 (old : Nat), .int .i64 0]) ∧ wd = w' from by
        have hh := rAt_yes b t i wd M1 L4 hL (by have := hL.hn; have := HS1.out.n; have := HTt.out; omega) HXi.out
        rw [← HWd.out]
        exact hh))
      go_quiet (first | (go_at_call 26; refine Calls.quiet_of_same (v := .tuple #[.int .u32 (old : Nat), .int .i64 0]) ((HA.out _ (HL4.out.grown (grownBy_drewN _ _ _))).mono ?_); rintro e w' ⟨rfl, rfl⟩; exact ⟨rfl, rfl⟩))
      obtain ⟨wB, hwB⟩ : ∃ x, w4.drewN nq = x := ⟨_, rfl⟩
      have gB : w4.grownBy wB none := hwB ▸ grownBy_drewN w4 nq none
      rw [hwB]
      have HB := hid (H4.out.more gB); have HLB := hid (HL4.out.grown gB)
      have HQ0 := hid (gB.cell n0 (by simp)); have HQ1 := hid (gB.cell n1 (by simp)); have q2 := gB.cell n2 (by simp)
      have HF4S := hid (show ∀ k, L4.foot b k → S k ∨ w.heap.size ≤ k from fun k hk => (HF4.out k hk).elim (HF0.out k) fun e => .inr (by have := HZ.out; omega))
      have HB4 := hid (show ¬ L4.foot b w.heap.size from fun e => (HF4.out _ e).elim HBox.out fun e => by have := HZ.out; omega)
      clear hwB y4 n0 n1 n2 HA gB
      go_wp2
      clear q2
      go_loopw [12, 13, 14] (fun x v k wr => ∃ j : Nat, k = .int .i64 j ∧ j ≤ 4 ∧ x = .int .u32 (divk n j : Nat) ∧ wr.ownsRow wB.heap.size 5 1 v j (bcells (le4k n j)) ∧ wB.grownBy wr none) (fun _ _ k _ => 4 - (intOf k).toNat)
      case atStart => exact ⟨0, rfl, by omega, rfl, by simpa [le4k, bcells] using World.ownsRow_nil _ _ _ _, World.grownBy.refl _ _⟩
      case round =>
        obtain ⟨j, rfl, hj, rfl, hown, hg⟩ := hrel
        have hj0 : (0 : Int) ≤ j := by omega
        obtain ⟨pv, cv, rfl⟩ := ownsRow_slice hown
        by_cases hj4 : j < 4
        · have hj4' : (j : Int) < 4 := by omega
          have HOw := hid hown; have HGr := hid hg
          have HS := hid (le4k_succ n HNn.out j hj4)
          have HDv := hid (show divk n (j + 1) = divk n j / 256 from rfl)
          have hdl := divk_lt n HNn.out j
          generalize divk n j = x at *
          clear hown hg
          go_wp2_with (at_builtin; refine wpList_append_own _ rfl _ _ 31 rfl wB.heap.size 5 i0 (.int .u8 0) 1 1 Try.underlying31 Hi.out Hz0.out Hz1.out Hz2.out rfl (by decide) _ _ _ rfl (HOw.out.alloc _) ⟨wr.heap.size, 0, none⟩ 1 1 [.int .u8 ((x : Int) % 256)] rfl rfl (cell_one_new _ _ _) (by simp [Value.oneCell']) (by unfold maxLen; omega) (by omega) (by have := HGr.out.size; simp; omega) ?_; intro v' w5 hown' hgrow hnil; clear hnil; obtain ⟨g', cap', rfl⟩ := ownsRow_succ hown'; have HO5 := hid hown'; have HG5 := hid ((HGr.out.trans (World.grownBy_alloc wr _ none)).andThen hgrow (fun j hj => .inl (HOw.out.lt j hj).1)); clear hown' hgrow)
          go_roundw
          case rel => exact ⟨j + 1, by go_num, by omega, by rw [HDv.out]; go_num, by rw [HS.out]; exact HO5.out, HG5.out⟩
          case measure => simp [intOf]; omega
        · obtain rfl : j = 4 := by omega
          have hge : (4 : Int) ≤ ((4 : Nat) : Int) := by omega
          have HAp := hid ((own_apart (l := le4 n) hown (fun k hk => HLB.out.lt hk)).grown (grownBy_drew wr none))
          have H5 := hid ((HB.out.more hg).more (grownBy_drew wr none)); have HL5 := hid ((HLB.out.grown hg).grown (grownBy_drew wr none))
          have yc := (HB.out.more hg).y; have r0 := hg.cell HQ0.out (by simp); have r1 := hg.cell HQ1.out (by simp)
          have hof : ((4 * i : Nat) : Int) = 4 * (i : Int) := by omega
          rw [hof] at HLE
          have HLf := hid (HLE.out (by trivial))
          clear hown hg HLE hof
          go_wp2
          go_region_held3 (fun w' => w'.cell? ⟨Y, 0, none⟩ = some (.pointer (some ⟨b, 0, none⟩)) ∧ w'.cell? ⟨w.heap.size, 0, none⟩ = some (.int .i64 t) ∧ w'.cell? ⟨w.heap.size, 1, none⟩ = some (.int .i64 i)) (first | exact ⟨by assumption, by assumption, by assumption⟩ | go_keep)
            (first
              | (go_at_call 70; refine (rWrite4 b t _ _ cv n _ M1 L4 HL5.out HAp.out).mono ?_; rintro e w6 ⟨rfl, L6, h6, _, c6, f6⟩; have H6 := hid (H5.out.put HF4S.out h6 c6 f6); have y6 := H6.out.y; have s0 := c6.cell ((grownBy_drew wr none).cell r0 (by simp)) HB4.out; have s1 := c6.cell ((grownBy_drew wr none).cell r1 (by simp)) HB4.out; clear h6 c6 f6))
          all_goals go_wp2_with (go_at_call 126; obtain ⟨S1, hs1, hs2⟩ := H6.out.here; refine (HLf.out _ S1 hs1).mono ?_; rintro e w7 ⟨rfl, h7⟩; have H7 := hid (H6.out.step hs2 h7); clear hs1 hs2 h7)
          all_goals go_ret
          all_goals
            have h8 := H7.out
            rw [← HR0.out (by trivial)] at h8
            exact ⟨rfl, h8⟩
    · have hcb : (c != 0) = true := by simp [hc]
      go_wp2_with (go_at_call 125; refine (HT.out _ _ HY3.out).mono ?_; rintro e w4 ⟨rfl, h4⟩; have H4 := hid (H3.out.step HF0.out h4); clear h4)
      go_ret
      have h8 := H4.out
      rw [← HRN.out hc] at h8
      exact ⟨rfl, h8⟩
end Go.Proofs.Ytemeihamkdpmoaa
