/-
  RingTurns: for every list of turns the law returns true, and what was there stays. No condition.
-/
import Derived.Test.YtgnihllnjaagcaaRgOne
import Derived.Test.YtgnihllnjaagcaaRgU
import Derived.Test.YtgnihllnjaagcaaVOpen
import Derived.Test.YtgnihllnjaagcaaVStr
import Derived.Test.YtgnihllnjaagcaaLift
import Derived.ProofKit
import Derived.OpenShut
import Derived.Deep.Cut
import Derived.Deep.CutRange
import Derived.Deep.RegionWith
import Derived.Deep.RegionHeld
import Derived.Deep.RegionHeld3
import Derived.Deep.DeepCutAuto
import Derived.Deep.CutBlock
set_option linter.unusedSimpArgs false
set_option linter.unusedVariables false
namespace Go.Proofs.Ytgnihllnjaagcaa.lawRgTurns
open Go.ChangeShapes Go.WideShapes Go.ChangeAt Go.RowKit
set_option maxHeartbeats 40000000

theorem vNew0 (B : Nat) (w : World) (M : Mach) (hM : PM w B M) (hn1 : 1 ≤ M.n) : Calls Try.prog 20 #[.pointer (some ⟨B, 0, none⟩), .slice none 0 0] w fun e w' => e = .returned (.tuple #[.pointer (some ⟨w.heap.size + 1, 0, none⟩), .int .i64 0]) ∧
    (∃ f, VV w' (w.heap.size + 1) w.heap.size B (fun k => w.heap.size + 2 ≤ k ∧ k < w'.heap.size) [] 0 0 f) ∧ w.grownBy w' none :=
  vNew B none 0 [] w M hM hn1 (by simp) (fun j hj => by simp at hj)
theorem lay_nil (bs : Nat → UInt8) (o : Nat) : lay bs o [] = bs := funext fun k => lay_out (by simp; omega)
theorem slot_bytes {w : World} {gs B n : Nat} {l : List UInt8} (h : Row w gs 5 n (fun k => .int .u8 (l.getD k 0).toNat)) (hl : l.length = n) (hne : gs ≠ B) (c : Nat) : IsBytes w B (.slice (some ⟨gs, 0, none⟩) n c) l := row_bytes h hl hne
theorem slot_string {w : World} {gs n id c : Nat} (h : Row w gs 5 n (fun k => .int .u8 ((slotV n id).getD k 0).toNat)) (W : World) (hg : w.grownBy W none) : (convert 31 9 (.slice (some ⟨gs, 0, none⟩) n c)).run Try.prog W = .ok (.string ⟨(slotV n id).toArray⟩) W :=
  vconv_row W gs 0 n c _ (slotV_len _ _) fun q hq => by rw [Nat.zero_add]; exact hg.cell (h.cell hq) (by simp)
theorem sSlotP (n : Nat) (hn : n ≤ 256) (p : Nat) (w : World) : Calls Try.prog 43 #[.int .i64 n, .int .u8 ((p : Int) % 256)] w fun e w' => ∃ g, w.heap.size ≤ g ∧ e = .returned (.slice (some ⟨g, 0, none⟩) n n) ∧ Row w' g 5 n (fun k => .int .u8 ((slotV n (p % 256)).getD k 0).toNat) ∧ w.grownBy w' none := by
  have h := sSlot n (p % 256) w hn (by omega)
  rw [show ((p % 256 : Nat) : Int) = (p : Int) % 256 by omega] at h
  exact h
theorem sSlot16 (p : Nat) (w : World) : Calls Try.prog 43 #[.int .i64 16, .int .u8 ((p : Int) % 256)] w fun e w' => ∃ g, w.heap.size ≤ g ∧ e = .returned (.slice (some ⟨g, 0, none⟩) 16 16) ∧ Row w' g 5 16 (fun k => .int .u8 ((slotV 16 (p % 256)).getD k 0).toNat) ∧ w.grownBy w' none := sSlotP 16 (by omega) p w
theorem sSlot8 (p : Nat) (w : World) : Calls Try.prog 43 #[.int .i64 8, .int .u8 ((p : Int) % 256)] w fun e w' => ∃ g, w.heap.size ≤ g ∧ e = .returned (.slice (some ⟨g, 0, none⟩) 8 8) ∧ Row w' g 5 8 (fun k => .int .u8 ((slotV 8 (p % 256)).getD k 0).toNat) ∧ w.grownBy w' none := sSlotP 8 (by omega) p w
theorem kept_slot {w : World} {S : Nat → Prop} {n id : Nat} {q : Option Addr} (h : KeptBytes w S q (slotV n id)) (c : Nat) (W : World) (hg : w.grownBy W none) : (convert 31 9 (.slice q n c)).run Try.prog W = .ok (.string ⟨(slotV n id).toArray⟩) W := by
  have := kept_string h c W hg
  rwa [slotV_len] at this
theorem wrap8 (n : Int) : IntKind.u8.wrap n = n % 256 := by simp [IntKind.wrap, IntKind.bits, IntKind.signed]
theorem kept_ans {w w8 w9 : World} {n0 m B K : Nat} {n id : Nat} {q : Option Addr} (h : KeptBytes w (fun k => n0 ≤ k ∧ k < m) q (slotV n id)) (c : Nat) (ho : ∀ k, n0 ≤ k → ¬ (k = B ∨ k = K)) (hg : w.grownBy w8 none) (hc : Chg (fun k => k = B ∨ k = K) w8 w9) : (convert 31 9 (.slice q n c)).run Try.prog w9 = .ok (.string ⟨(slotV n id).toArray⟩) w9 :=
  kept_slot ((h.chg (S' := fun _ => False) (Chg.of0 hg) (fun _ _ e => e)).chg hc fun k hk => ho k hk.1) c w9 (World.grownBy.refl _ _)
set_option maxRecDepth 100000 in
theorem walk (pa : Option Addr) (cap : Nat) (l : List UInt8) (w : World) (hin : InBytes w pa l) (hl : l.length ≤ 140737488355328) :
    Calls Try.prog 8 #[.slice pa l.length cap] w fun e w' => e = .returned (.bool true) ∧ w.grownBy w' none := by
  have HB := hid (rgBegin none 0 [] w (.inl rfl) (by simp) (by simp))
  rw [rgStart_eq [], show pg256 [] = [] from rfl, lay_nil] at HB
  have HIn := hid hin
  clear hin
  go_enter Try.func8, Try.ntmps8
  go_wp2_with (first
    | (go_at_call 28; refine HB.out.mono ?_; rintro e w1 ⟨B, b, L, rfl, h1⟩; have H1 := hid h1; have hB1 := h1.m.lt; have hB0 := h1.farB; have hg1 := h1.grown.size; clear h1)
    | (go_at_call 20; refine (vNew0 B _ _ H1.out.m (rgM_ok _).n1).mono ?_; rintro e w2 ⟨rfl, ⟨f2, hv2⟩, g2⟩; have HV2 := hid hv2; have H2 := hid (H1.out.more g2); have hg2 := g2.size; have hl2 := hv2.foot_lt (.inl rfl); clear hv2 g2)
    | (go_at_call 41; refine (fOpen B _ _ 0 H2.out.m (rgM_ok _)).mono ?_; rintro e w3 ⟨F, rfl, hF, hf3, g3⟩; have HV3 := hid (HV2.out.grown g3); have HF3 := hid hf3; have H3 := hid (H2.out.more g3); have hg3 := g3.size; clear hf3 g3)
    | (go_at_call 29; refine (rgNew_yes 0 _ (by omega) (by omega)).mono ?_; rintro e w4 ⟨rfl, hk4, g4⟩; have HK4 := hid hk4; have HV4 := hid (HV3.out.grown g4); have HF4 := hid (HF3.out.grown g4 (by simp)); have H4 := hid (H3.out.more g4); clear hk4 g4))
  have HS0 := hid (show SF w w4 B (w1.heap.size + 1) w1.heap.size w3.heap.size F (fun k => w1.heap.size + 2 ≤ k ∧ k < w2.heap.size) (fun _ => 0) 0 0 0 0 0 0 from
    ⟨⟨H4.out.m, ⟨f2, HV4.out⟩, HK4.out, ⟨by rintro (e | e | e); (omega); (omega); (have := e.2; omega), by omega⟩, ⟨by omega, by omega, hB0, by omega⟩, H4.out.grown⟩, HF4.out, Pg.zero, by omega, by rintro (e | e | e); (omega); (omega); (have := e.2; omega), by omega⟩)
  obtain ⟨V, hV⟩ : ∃ V, w1.heap.size + 1 = V := ⟨_, rfl⟩
  obtain ⟨G, hG⟩ : ∃ G, w1.heap.size = G := ⟨_, rfl⟩
  obtain ⟨K, hK⟩ : ∃ K, w3.heap.size = K := ⟨_, rfl⟩
  obtain ⟨S, hS⟩ : ∃ S : Nat → Prop, (fun k => w1.heap.size + 2 ≤ k ∧ k < w2.heap.size) = S := ⟨_, rfl⟩
  rw [hS, hV, hK, hG] at HS0
  rw [hV, hK]
  clear H1 H2 H3 H4 HV2 HV3 HV4 HF3 HF4 HK4 hK hV hG hS HB hB1 hB0 hg1 hg2 hg3 hF hl2
  have hlI : (0 : Int) ≤ l.length := by omega
  go_loopw [12, 13, 14, 15] (fun a b c x wr => ∃ (i p d s n : Nat) (bs : Nat → UInt8), a = .int .i64 p ∧ b = .int .i64 d ∧ c = .int .i64 d ∧ x = .int .i64 i ∧ i ≤ l.length ∧ p ≤ 16 * i ∧ n ≤ 17 * i ∧ SF w wr B V G K F S bs p d d d s n) (fun _ _ _ x _ => l.length - (intOf x).toNat)
  case atStart => exact ⟨0, 0, 0, 0, 0, _, rfl, rfl, rfl, rfl, by omega, by omega, by omega, HS0.out⟩
  case round =>
    clear HS0
    obtain ⟨i, p, d, s, n, bs, rfl, rfl, rfl, rfl, hi, hp, hn, hs⟩ := hrel
    have HS := hid hs
    clear hs
    have hi0 : (0 : Int) ≤ i := by omega
    by_cases hil : i < l.length
    · have hil' : (i : Int) < l.length := by omega
      obtain ⟨pb, po, rfl, hc⟩ := HIn.out.at hil
      obtain ⟨x, hx⟩ : ∃ x : Nat, (l.getD i 0).toNat = x := ⟨_, rfl⟩
      have hx8 : x < 256 := hx ▸ UInt8.toNat_lt _
      rw [hx] at hc
      have HC := hid hc
      have hc0 := HS.out.g.cell hc (by simp)
      clear hx hc
      obtain ⟨y, hy⟩ : ∃ y : Nat, x % 16 = y := ⟨_, rfl⟩
      obtain ⟨z, hz⟩ : ∃ z : Nat, x / 16 = z := ⟨_, rfl⟩
      have hy16 : y < 16 := by omega
      have hz16 : z < 16 := by omega
      have y1 : (x : Int) % 16 = y := by omega
      have y2 : (x : Int).tmod 16 = y := by rw [Int.tmod_eq_emod_of_nonneg (by omega)]; omega
      have y3 : IntKind.i64.wrap (y : Int) = y := IntWalk.i64_in _ (by omega)
      have z1 : (x : Int) / 16 = z := by omega
      have z2 : (x : Int).tdiv 16 = z := by rw [Int.tdiv_eq_ediv_of_nonneg (by omega)]; omega
      have z3 : IntKind.i64.wrap (z : Int) = z := IntWalk.i64_in _ (by omega)
      clear hy hz hc0
      go_upto_block 2 with fail
      go_cut [12] (fun v wx => ∃ (p' : Nat) (bs' : Nat → UInt8), v = .int .i64 p' ∧ p' ≤ 16 * i + 16 ∧ SF w wx B V G K F S bs' p' d d d s n)
      case first =>
        as_aux_lemma =>
          clear z1 z2 z3
          go_wp2_with fail
          go_loopw [12, 16] (fun v k wr => ∃ (k' p' : Nat) (bs' : Nat → UInt8), v = .int .i64 p' ∧ k = .int .i64 k' ∧ k' ≤ y ∧ p' ≤ 16 * i + k' ∧ SF w wr B V G K F S bs' p' d d d s n) (fun _ k _ => y - (intOf k).toNat)
          case atStart => exact ⟨0, p, bs, rfl, rfl, by omega, by omega, HS.out⟩
          case round =>
            clear HS
            obtain ⟨k, p', bs', rfl, rfl, hk, hp', hs⟩ := hrel
            have HS := hid hs
            have hc0 := hs.g.cell HC.out (by simp)
            have HO := hid hs.ord
            have hpo : d ≤ p' := by have := hs.ord; omega
            clear hs
            have hk0 : (0 : Int) ≤ k := by omega
            have w1 : IntKind.i64.wrap ((p' : Int) - d) = (p' : Int) - d := IntWalk.i64_in _ (by omega)
            by_cases hky : k < y
            · have hky' : (k : Int) < y := by omega
              by_cases hp8 : p' < d + 8
              · have w2 : (p' : Int) - d < 8 := by omega
                go_wp2_with (first
                  | (go_at_call 43; refine (sSlot16 p' _).mono ?_; rintro e w5 ⟨gs, hgs, rfl, hr5, g5⟩; have HR5 := hid hr5; have HGs := hid (HS.out.newB hgs); have HS5 := hid (HS.out.more g5); clear hgs hr5 g5)
                  | (go_at_call 42; refine (cPut_yes w _ B V G K F S bs' p' d d d s n HS5.out gs (slot_bytes HR5.out (slotV_len _ _) HGs.out 16) hp8).mono ?_; rintro e w6 ⟨rfl, bs6, hs6⟩; have HS6 := hid hs6; clear hs6))
                go_roundw
                case rel => first
                  | exact ⟨k + 1, p' + 1, bs6, by go_num, by go_num, by omega, by omega, HS6.out⟩
                  | (repeat apply Exists.intro
                     exact ⟨⟨k + 1, p' + 1, bs6, by go_num, by go_num, by omega, by omega, HS6.out⟩, rfl⟩)
                case measure => simp [intOf]; omega
              · have w2 : ¬ (p' : Int) - d < 8 := by omega
                have w3 : p' = d + 8 := by have := HO.out; omega
                have W3 := hid w3
                clear w3
                go_wp2_with (first
                  | (go_at_call 43; refine (sSlot16 p' _).mono ?_; rintro e w5 ⟨gs, hgs, rfl, hr5, g5⟩; have HS5 := hid (HS.out.more g5); clear hgs hr5 g5)
                  | (go_at_call 42; refine (cPut_full w _ B V G K F S bs' p' d d d s n HS5.out gs W3.out).mono ?_; rintro e w6 ⟨rfl, hs6⟩; have HS6 := hid hs6; clear hs6))
                go_roundw
                case rel => first
                  | exact ⟨k + 1, p', bs', rfl, by go_num, by omega, by omega, HS6.out⟩
                  | (repeat apply Exists.intro
                     exact ⟨⟨k + 1, p', bs', rfl, by go_num, by omega, by omega, HS6.out⟩, rfl⟩)
                case measure => simp [intOf]; omega
            · have hky' : ¬ (k : Int) < y := by omega
              go_wp2_with fail
              all_goals go_meet
              case rel => exact ⟨p', bs', rfl, by omega, HS.out⟩
      case rest =>
        clear HS
        obtain ⟨p, bs, rfl, hp, hs⟩ := hcut
        have HS := hid hs
        clear hs
        go_upto_block 4 with (go_at_call 44; refine (cLook w _ B V G K F S bs p d d s n HS.out (by omega)).mono ?_; rintro e w5 ⟨⟨v5, rfl⟩, hs5⟩; have HS5 := hid hs5; clear hs5)
        go_cut [13] (fun v wx => ∃ (d' n' : Nat) (bs' : Nat → UInt8), v = .int .i64 d' ∧ n' ≤ 17 * i + 17 ∧ SF w wx B V G K F S bs' p d' d' d p n')
        case first =>
          as_aux_lemma =>
            clear y1 y2 y3 HS
            go_wp2_with fail
            go_loopw [13, 18] (fun v k wr => ∃ (k' d' n' : Nat) (bs' : Nat → UInt8), v = .int .i64 d' ∧ k = .int .i64 k' ∧ k' ≤ z ∧ n' ≤ 17 * i + 1 + k' ∧ SF w wr B V G K F S bs' p d' d' d p n') (fun _ k _ => z - (intOf k).toNat)
            case atStart => exact ⟨0, d, n + 1, bs, rfl, rfl, by omega, by omega, HS5.out⟩
            case round =>
              clear HS5
              obtain ⟨k, d', n', bs', rfl, rfl, hk, hn', hs⟩ := hrel
              have HS := hid hs
              have hc0 := hs.g.cell HC.out (by simp)
              have HO := hid hs.ord
              have hdp : d' ≤ p := by have := hs.ord; omega
              clear hs
              have hk0 : (0 : Int) ≤ k := by omega
              by_cases hkz : k < z
              · have hkz' : (k : Int) < z := by omega
                by_cases hd8 : d' < p
                · have w2 : (d' : Int) < p := by omega
                  go_upto_region 31 with (go_at_call 45; refine (cTake w _ B V G K F S bs' p d' d p n' HS.out (by omega) hd8).mono ?_; rintro e w6 ⟨q, c, rfl, hk6, hs6⟩; have HS6 := hid hs6; have HK6 := hid hk6; clear hs6 hk6)
                  have HOld := hid (show ∀ k, wr.heap.size ≤ k → ¬ (k = B ∨ k = K) from fun k hk e => by have h1 := HS.out.sv.m.lt; have h2 := HS.out.sv.k.lt; omega)
                  have kcA := kept_slot HK6.out c w6.drew (grownBy_drew w6 none)
                  refine wp_region_held_drew (S := (fun W => (convert 31 9 (.slice q 16 c)).run Try.prog W = .ok (.string ⟨(slotV 16 (d' % 256)).toArray⟩) W)) (by kernel_rfl) kcA (fun hH6 => ?_)
                  clear kcA
                  refine wpAnyH_take (i := 0) (v := .slice q 16 c) (by simp only [List.getElem?_toArray, List.getElem?_cons_zero, List.getElem?_cons_succ]; rfl) (by kernel_rfl) (by kernel_rfl) (by kernel_rfl) (by intro _ _ _ h; exact h) (Or.inl ⟨by rfl, fun w hSw => by clear hSw; go_simp⟩) hH6 ?_
                  try dsimp only [Act.put]
                  try simp only [List.setIfInBounds_toArray, List.set_cons_zero, List.set_cons_succ]
                  refine wpAnyH_take (i := 1) (v := (.string ⟨(slotV 16 (d' % 256)).toArray⟩)) (by simp only [List.getElem?_toArray, List.getElem?_cons_zero, List.getElem?_cons_succ]; rfl) (by kernel_rfl) (by kernel_rfl) (by kernel_rfl) (by intro _ _ _ h; exact h) (Or.inl ⟨by rfl, fun w hSw => by have h2 : (convert 31 9 (.slice q 16 c)).run Try.prog w = .ok (.string ⟨(slotV 16 (d' % 256)).toArray⟩) w := hSw; clear hSw; go_simp⟩) hH6 ?_
                  try dsimp only [Act.put]
                  try simp only [List.setIfInBounds_toArray, List.set_cons_zero, List.set_cons_succ]
                  refine wpAnyH_take (i := 2) (v := .int .i64 d') (by simp only [List.getElem?_toArray, List.getElem?_cons_zero, List.getElem?_cons_succ]; rfl) (by kernel_rfl) (by kernel_rfl) (by kernel_rfl) (by intro _ _ _ h; exact h) (Or.inl ⟨by rfl, fun w hSw => by clear hSw; go_simp⟩) hH6 ?_
                  try dsimp only [Act.put]
                  try simp only [List.setIfInBounds_toArray, List.set_cons_zero, List.set_cons_succ]
                  refine wpAnyH_take (i := 3) (v := .int .u8 ((d' : Int) % 256)) (by simp only [List.getElem?_toArray, List.getElem?_cons_zero, List.getElem?_cons_succ]; rfl) (by kernel_rfl) (by kernel_rfl) (by kernel_rfl) (by intro _ _ _ h; exact h) (Or.inl ⟨by rfl, fun w hSw => by clear hSw; go_simp; exact wrap8 _⟩) hH6 ?_
                  try dsimp only [Act.put]
                  try simp only [List.setIfInBounds_toArray, List.set_cons_zero, List.set_cons_succ]
                  refine wpAnyH_ready (rs := [4]) (by kernel_rfl) (by simp) ?_
                  refine AllReadyH.cons rfl (fun K0 hK0 => ?_) AllReadyH.nil
                  go_simp
                  refine (sSlot16 d' _).mono ?_
                  rintro e w7 ⟨gs, hgs, rfl, hr7, g7⟩
                  have G7 := hid ((grownBy_drew w6 none).trans g7)
                  have HS7 := hid (HS6.out.more G7.out)
                  have HKc := hid (slot_string (c := 16) hr7 w7 (World.grownBy.refl _ _))
                  clear hgs hr7 g7
                  refine hK0.out _ _ (kept_slot HK6.out c w7 G7.out) (fun hH7 => ?_)
                  clear hH6
                  clear hK0 K0
                  try dsimp only [Act.put]
                  try simp only [List.setIfInBounds_toArray, List.set_cons_zero, List.set_cons_succ]
                  have kcC := HKc.out
                  refine wpAnyH_ready (rs := [5]) (by kernel_rfl) (by simp) ?_
                  refine AllReadyH.cons rfl (fun K0 hK0 => ?_) AllReadyH.nil
                  go_simp
                  refine hK0.out _ _ hH7 (fun hH7 => ?_)
                  clear hK0 K0
                  try dsimp only [Act.put]
                  try simp only [List.setIfInBounds_toArray, List.set_cons_zero, List.set_cons_succ]
                  clear kcC
                  refine wpAnyH_take (i := 6) (v := .bool false) (by simp only [List.getElem?_toArray, List.getElem?_cons_zero, List.getElem?_cons_succ]; rfl) (by kernel_rfl) (by kernel_rfl) (by kernel_rfl) (by intro _ _ _ h; exact h) (Or.inl ⟨by rfl, fun w hSw => by clear hSw; go_simp⟩) hH7 ?_
                  try dsimp only [Act.put]
                  try simp only [List.setIfInBounds_toArray, List.set_cons_zero, List.set_cons_succ]
                  refine wpAnyH_take (i := 7) (v := .bool false) (by simp only [List.getElem?_toArray, List.getElem?_cons_zero, List.getElem?_cons_succ]; rfl) (by kernel_rfl) (by kernel_rfl) (by kernel_rfl) (by intro _ _ _ h; exact h) (Or.inl ⟨by rfl, fun w hSw => by clear hSw; go_simp⟩) hH7 ?_
                  try dsimp only [Act.put]
                  try simp only [List.setIfInBounds_toArray, List.set_cons_zero, List.set_cons_succ]
                  refine wpAnyH_take (i := 8) (v := .pointer (some ⟨K, 0, none⟩)) (by simp only [List.getElem?_toArray, List.getElem?_cons_zero, List.getElem?_cons_succ]; rfl) (by kernel_rfl) (by kernel_rfl) (by kernel_rfl) (by intro _ _ _ h; exact h) (Or.inl ⟨by rfl, fun w hSw => by clear hSw; go_simp⟩) hH7 ?_
                  try dsimp only [Act.put]
                  try simp only [List.setIfInBounds_toArray, List.set_cons_zero, List.set_cons_succ]
                  refine wpAnyH_take (i := 9) (v := .pointer (some ⟨V, 0, none⟩)) (by simp only [List.getElem?_toArray, List.getElem?_cons_zero, List.getElem?_cons_succ]; rfl) (by kernel_rfl) (by kernel_rfl) (by kernel_rfl) (by intro _ _ _ h; exact h) (Or.inl ⟨by rfl, fun w hSw => by clear hSw; go_simp⟩) hH7 ?_
                  try dsimp only [Act.put]
                  try simp only [List.setIfInBounds_toArray, List.set_cons_zero, List.set_cons_succ]
                  refine wpAnyH_take (i := 10) (v := .int .i64 d') (by simp only [List.getElem?_toArray, List.getElem?_cons_zero, List.getElem?_cons_succ]; rfl) (by kernel_rfl) (by kernel_rfl) (by kernel_rfl) (by intro _ _ _ h; exact h) (Or.inl ⟨by rfl, fun w hSw => by clear hSw; go_simp⟩) hH7 ?_
                  try dsimp only [Act.put]
                  try simp only [List.setIfInBounds_toArray, List.set_cons_zero, List.set_cons_succ]
                  refine wpAnyH_take (i := 11) (v := .int .u8 ((d' : Int) % 256)) (by simp only [List.getElem?_toArray, List.getElem?_cons_zero, List.getElem?_cons_succ]; rfl) (by kernel_rfl) (by kernel_rfl) (by kernel_rfl) (by intro _ _ _ h; exact h) (Or.inl ⟨by rfl, fun w hSw => by clear hSw; go_simp; exact wrap8 _⟩) hH7 ?_
                  try dsimp only [Act.put]
                  try simp only [List.setIfInBounds_toArray, List.set_cons_zero, List.set_cons_succ]
                  refine wpAnyH_ready (rs := [12]) (by kernel_rfl) (by simp) ?_
                  refine AllReadyH.cons rfl (fun K0 hK0 => ?_) AllReadyH.nil
                  go_simp
                  refine (sSlot8 d' _).mono ?_
                  rintro e w8 ⟨gs8, hgs8, rfl, hr8, g8⟩
                  have HR8 := hid hr8
                  have HGs8 := hid (HS7.out.newB hgs8)
                  have HS8 := hid (HS7.out.more g8)
                  have G8 := hid (G7.out.trans g8)
                  clear hgs8 hr8 g8
                  refine hK0.out _ _ (kept_slot HK6.out c w8 G8.out) (fun hH8 => ?_)
                  clear hH7
                  clear hK0 K0
                  try dsimp only [Act.put]
                  try simp only [List.setIfInBounds_toArray, List.set_cons_zero, List.set_cons_succ]
                  refine wpAnyH_ready (rs := [13]) (by kernel_rfl) (by simp) ?_
                  refine AllReadyH.cons rfl (fun K0 hK0 => ?_) AllReadyH.nil
                  go_simp
                  refine (cAnswer w _ B V G K F S bs' p d' d p (n' + 1) HS8.out gs8 (slot_bytes HR8.out (slotV_len _ _) HGs8.out 8)).mono ?_
                  rintro e w9 ⟨rfl, ⟨bs9, hs9⟩, hc9⟩
                  have HS9 := hid hs9
                  have HC9 := hid hc9
                  clear hs9 hc9
                  refine hK0.out _ _ (kept_ans HK6.out c HOld.out G8.out HC9.out) (fun hH9 => ?_)
                  clear hH8
                  clear hK0 K0
                  try dsimp only [Act.put]
                  try simp only [List.setIfInBounds_toArray, List.set_cons_zero, List.set_cons_succ]
                  refine wpAnyH_take (i := 14) (v := .bool false) (by simp only [List.getElem?_toArray, List.getElem?_cons_zero, List.getElem?_cons_succ]; rfl) (by kernel_rfl) (by kernel_rfl) (by kernel_rfl) (by intro _ _ _ h; exact h) (Or.inl ⟨by rfl, fun w hSw => by clear hSw; go_simp⟩) hH9 ?_
                  try dsimp only [Act.put]
                  try simp only [List.setIfInBounds_toArray, List.set_cons_zero, List.set_cons_succ]
                  refine wpAnyH_take (i := 15) (v := .bool false) (by simp only [List.getElem?_toArray, List.getElem?_cons_zero, List.getElem?_cons_succ]; rfl) (by kernel_rfl) (by kernel_rfl) (by kernel_rfl) (by intro _ _ _ h; exact h) (Or.inl ⟨by rfl, fun w hSw => by clear hSw; go_simp⟩) hH9 ?_
                  try dsimp only [Act.put]
                  try simp only [List.setIfInBounds_toArray, List.set_cons_zero, List.set_cons_succ]
                  refine wpAnyH_done (by kernel_rfl) ?_ _
                  all_goals go_wp2_with fail
                  all_goals go_roundw
                  case rel => first
                    | exact ⟨k + 1, d' + 1, n' + 1, bs9, by go_num, by go_num, by omega, by omega, HS9.out⟩
                    | (repeat apply Exists.intro
                       exact ⟨⟨k + 1, d' + 1, n' + 1, bs9, by go_num, by go_num, by omega, by omega, HS9.out⟩, rfl⟩)
                  case measure => simp [intOf]; omega
                · have w2 : ¬ (d' : Int) < p := by omega
                  have w3 : d' = p := by omega
                  subst w3
                  clear w2
                  have w2 : ¬ (d' : Int) < d' := by omega
                  go_wp2_with (go_at_call 45; refine (cTake_no w _ B V G K F S bs' d' d' d n' HS.out).mono ?_; rintro e w6 ⟨rfl, hs6⟩; have HS6 := hid hs6; clear hs6)
                  all_goals go_meet
                  case rel => exact ⟨d', n', bs', rfl, by omega, HS6.out⟩
              · have hkz' : ¬ (k : Int) < z := by omega
                go_wp2_with fail
                all_goals go_meet
                case rel => exact ⟨d', n', bs', rfl, by omega, HS.out⟩
        case rest =>
          clear HS5
          obtain ⟨e, n, bs, rfl, hn, hs⟩ := hcut
          have HS := hid hs
          have HO := hid hs.ord
          have hep : e ≤ p := by have := hs.ord; omega
          have hde : d ≤ e := by have := hs.ord; omega
          clear hs y1 y2 y3 z1 z2 z3 hy16 hz16
          go_upto_block 6 with fail
          go_cut [14] (fun v wx => v = .int .i64 e ∧ SF w wx B V G K F S bs p e e e p n)
          case first =>
            as_aux_lemma =>
              go_wp2_with fail
              go_loopw [14] (fun v wr => ∃ (o : Nat), v = .int .i64 o ∧ o ≤ e ∧ SF w wr B V G K F S bs p e e o p n) (fun v _ => e - (intOf v).toNat)
              case atStart => exact ⟨d, rfl, hde, HS.out⟩
              case round =>
                clear HS
                obtain ⟨o, rfl, ho, hs⟩ := hrel
                have HS := hid hs
                clear hs
                have ho0 : (0 : Int) ≤ o := by omega
                by_cases hoe : o < e
                · have w2 : (o : Int) < e := by omega
                  go_upto_region 36 with (go_at_call 47; refine (cGet w _ B V G K F S bs p e e o p n HS.out hoe).mono ?_; rintro e' w6 ⟨q, c, rfl, hk6, hs6⟩; have HS6 := hid hs6; have HK6 := hid hk6; clear hs6 hk6)
                  have kcA := kept_slot HK6.out c w6.drew (grownBy_drew w6 none)
                  refine wp_region_held_drew (S := (fun W => (convert 31 9 (.slice q 8 c)).run Try.prog W = .ok (.string ⟨(slotV 8 (o % 256)).toArray⟩) W)) (by kernel_rfl) kcA (fun hH6 => ?_)
                  clear kcA
                  refine wpAnyH_take (i := 0) (v := .int .i64 0) (by simp only [List.getElem?_toArray, List.getElem?_cons_zero, List.getElem?_cons_succ]; rfl) (by kernel_rfl) (by kernel_rfl) (by kernel_rfl) (by intro _ _ _ h; exact h) (Or.inl ⟨by rfl, fun w hSw => by clear hSw; go_simp⟩) hH6 ?_
                  try dsimp only [Act.put]
                  try simp only [List.setIfInBounds_toArray, List.set_cons_zero, List.set_cons_succ]
                  refine wpAnyH_take (i := 1) (v := .bool false) (by simp only [List.getElem?_toArray, List.getElem?_cons_zero, List.getElem?_cons_succ]; rfl) (by kernel_rfl) (by kernel_rfl) (by kernel_rfl) (by intro _ _ _ h; exact h) (Or.inl ⟨by rfl, fun w hSw => by clear hSw; go_simp⟩) hH6 ?_
                  try dsimp only [Act.put]
                  try simp only [List.setIfInBounds_toArray, List.set_cons_zero, List.set_cons_succ]
                  refine wpAnyH_take (i := 2) (v := .bool false) (by simp only [List.getElem?_toArray, List.getElem?_cons_zero, List.getElem?_cons_succ]; rfl) (by kernel_rfl) (by kernel_rfl) (by kernel_rfl) (by intro _ _ _ h; exact h) (Or.inl ⟨by rfl, fun w hSw => by clear hSw; go_simp⟩) hH6 ?_
                  try dsimp only [Act.put]
                  try simp only [List.setIfInBounds_toArray, List.set_cons_zero, List.set_cons_succ]
                  refine wpAnyH_take (i := 3) (v := .slice q 8 c) (by simp only [List.getElem?_toArray, List.getElem?_cons_zero, List.getElem?_cons_succ]; rfl) (by kernel_rfl) (by kernel_rfl) (by kernel_rfl) (by intro _ _ _ h; exact h) (Or.inl ⟨by rfl, fun w hSw => by clear hSw; go_simp⟩) hH6 ?_
                  try dsimp only [Act.put]
                  try simp only [List.setIfInBounds_toArray, List.set_cons_zero, List.set_cons_succ]
                  refine wpAnyH_take (i := 4) (v := (.string ⟨(slotV 8 (o % 256)).toArray⟩)) (by simp only [List.getElem?_toArray, List.getElem?_cons_zero, List.getElem?_cons_succ]; rfl) (by kernel_rfl) (by kernel_rfl) (by kernel_rfl) (by intro _ _ _ h; exact h) (Or.inl ⟨by rfl, fun w hSw => by have h2 : (convert 31 9 (.slice q 8 c)).run Try.prog w = .ok (.string ⟨(slotV 8 (o % 256)).toArray⟩) w := hSw; clear hSw; go_simp⟩) hH6 ?_
                  try dsimp only [Act.put]
                  try simp only [List.setIfInBounds_toArray, List.set_cons_zero, List.set_cons_succ]
                  refine wpAnyH_take (i := 5) (v := .int .i64 o) (by simp only [List.getElem?_toArray, List.getElem?_cons_zero, List.getElem?_cons_succ]; rfl) (by kernel_rfl) (by kernel_rfl) (by kernel_rfl) (by intro _ _ _ h; exact h) (Or.inl ⟨by rfl, fun w hSw => by clear hSw; go_simp⟩) hH6 ?_
                  try dsimp only [Act.put]
                  try simp only [List.setIfInBounds_toArray, List.set_cons_zero, List.set_cons_succ]
                  refine wpAnyH_take (i := 6) (v := .int .u8 ((o : Int) % 256)) (by simp only [List.getElem?_toArray, List.getElem?_cons_zero, List.getElem?_cons_succ]; rfl) (by kernel_rfl) (by kernel_rfl) (by kernel_rfl) (by intro _ _ _ h; exact h) (Or.inl ⟨by rfl, fun w hSw => by clear hSw; go_simp; exact wrap8 _⟩) hH6 ?_
                  try dsimp only [Act.put]
                  try simp only [List.setIfInBounds_toArray, List.set_cons_zero, List.set_cons_succ]
                  refine wpAnyH_ready (rs := [7]) (by kernel_rfl) (by simp) ?_
                  refine AllReadyH.cons rfl (fun K0 hK0 => ?_) AllReadyH.nil
                  go_simp
                  refine (sSlot8 o _).mono ?_
                  rintro e w7 ⟨gs, hgs, rfl, hr7, g7⟩
                  have G7 := hid ((grownBy_drew w6 none).trans g7)
                  have HS7 := hid (HS6.out.more G7.out)
                  have HKc := hid (slot_string (c := 8) hr7 w7 (World.grownBy.refl _ _))
                  clear hgs hr7 g7
                  refine hK0.out _ _ (kept_slot HK6.out c w7 G7.out) (fun hH7 => ?_)
                  clear hH6
                  clear hK0 K0
                  try dsimp only [Act.put]
                  try simp only [List.setIfInBounds_toArray, List.set_cons_zero, List.set_cons_succ]
                  have kcC := HKc.out
                  refine wpAnyH_ready (rs := [8]) (by kernel_rfl) (by simp) ?_
                  refine AllReadyH.cons rfl (fun K0 hK0 => ?_) AllReadyH.nil
                  go_simp
                  refine hK0.out _ _ hH7 (fun hH7 => ?_)
                  clear hK0 K0
                  try dsimp only [Act.put]
                  try simp only [List.setIfInBounds_toArray, List.set_cons_zero, List.set_cons_succ]
                  clear kcC
                  refine wpAnyH_take (i := 9) (v := .bool false) (by simp only [List.getElem?_toArray, List.getElem?_cons_zero, List.getElem?_cons_succ]; rfl) (by kernel_rfl) (by kernel_rfl) (by kernel_rfl) (by intro _ _ _ h; exact h) (Or.inl ⟨by rfl, fun w hSw => by clear hSw; go_simp⟩) hH7 ?_
                  try dsimp only [Act.put]
                  try simp only [List.setIfInBounds_toArray, List.set_cons_zero, List.set_cons_succ]
                  refine wpAnyH_take (i := 10) (v := .bool false) (by simp only [List.getElem?_toArray, List.getElem?_cons_zero, List.getElem?_cons_succ]; rfl) (by kernel_rfl) (by kernel_rfl) (by kernel_rfl) (by intro _ _ _ h; exact h) (Or.inl ⟨by rfl, fun w hSw => by clear hSw; go_simp⟩) hH7 ?_
                  try dsimp only [Act.put]
                  try simp only [List.setIfInBounds_toArray, List.set_cons_zero, List.set_cons_succ]
                  refine wpAnyH_done (by kernel_rfl) ?_ _
                  all_goals go_wp2_with fail
                  all_goals go_roundw
                  case rel => first
                    | exact ⟨o + 1, by go_num, by omega, HS7.out⟩
                    | (repeat apply Exists.intro
                       exact ⟨⟨o + 1, by go_num, by omega, HS7.out⟩, rfl⟩)
                  case measure => simp [intOf]; omega
                · have w2 : ¬ (o : Int) < e := by omega
                  have w3 : o = e := by omega
                  subst w3
                  go_wp2_with fail
                  all_goals go_meet
                  case rel => exact ⟨rfl, HS.out⟩
          case rest =>
            clear HS
            obtain ⟨rfl, hs⟩ := hcut
            have HS := hid hs
            clear hs
            have w1 : IntKind.i64.wrap ((p : Int) - e) = (p : Int) - e := IntWalk.i64_in _ (by omega)
            have w4 : IntKind.i64.wrap (8 - ((p : Int) - e)) = 8 - ((p : Int) - e) := IntWalk.i64_in _ (by omega)
            by_cases hq : e = p
            · as_aux_lemma =>
                have w2 : ((e : Int) == (p : Int)) = true := by simp [hq]
                have HQ := hid hq
                clear hq
                go_wp2_with (first
                  | (go_at_call 47; refine (cGet_none w _ B V G K F S bs p e e e p n HS.out HQ.out).mono ?_; rintro e' w6 ⟨rfl, hs6⟩; have HS6 := hid hs6; clear hs6)
                  | (go_at_call 48; refine (cRoom w _ B V G K F S bs p e e e p n HS6.out).mono ?_; rintro e' w7 ⟨rfl, g7⟩; have HS7 := hid (HS6.out.more g7); clear g7))
                all_goals go_roundw
                case rel => first
                  | exact ⟨i + 1, p, e, p, n, bs, rfl, rfl, rfl, by go_num, by omega, by omega, by omega, HS7.out⟩
                  | (repeat apply Exists.intro
                     exact ⟨⟨i + 1, p, e, p, n, bs, rfl, rfl, rfl, by go_num, by omega, by omega, by omega, HS7.out⟩, rfl⟩)
                case measure => simp [intOf]; omega
            · as_aux_lemma =>
                have w2 : ((e : Int) == (p : Int)) = false := by simp; omega
                have w3 : ¬ (e : Int) = p := by omega
                have hlt : e < p := by omega
                clear hq
                go_wp2_with (first
                  | (go_at_call 47; refine (cGet_short w _ B V G K F S bs p e e e p n HS.out hlt rfl).mono ?_; rintro e' w6 ⟨rfl, hs6⟩; have HS6 := hid hs6; clear hs6)
                  | (go_at_call 48; refine (cRoom w _ B V G K F S bs p e e e p n HS6.out).mono ?_; rintro e' w7 ⟨rfl, g7⟩; have HS7 := hid (HS6.out.more g7); clear g7))
                all_goals go_roundw
                case rel => first
                  | exact ⟨i + 1, p, e, p, n, bs, rfl, rfl, rfl, by go_num, by omega, by omega, by omega, HS7.out⟩
                  | (repeat apply Exists.intro
                     exact ⟨⟨i + 1, p, e, p, n, bs, rfl, rfl, rfl, by go_num, by omega, by omega, by omega, HS7.out⟩, rfl⟩)
                case measure => simp [intOf]; omega
    · as_aux_lemma =>
        have hge : ¬ (i : Int) < l.length := by omega
        have w1 : IntKind.i64.wrap ((p : Int) - d) = (p : Int) - d := IntWalk.i64_in _ (by have := HS.out.ord; omega)
        have w4 : IntKind.i64.wrap (8 - ((p : Int) - d)) = 8 - ((p : Int) - d) := IntWalk.i64_in _ (by have := HS.out.ord; omega)
        go_wp2_with (go_at_call 48; refine (cRoom w _ B V G K F S bs p d d d s n HS.out).mono ?_; rintro e' w7 ⟨rfl, g7⟩; have HS7 := hid (HS.out.more g7); clear g7)
        all_goals go_ret
        all_goals exact ⟨rfl, HS7.out.g⟩
theorem main {H : Type} {enc : TypeId × Value → H} (v0 : Value) (W : World) (c0 : Flat.Came enc Try.prog W 0 (fun _ => true) true 31 v0) :
    Calls Try.prog 8 #[v0] W fun e w' => e = .returned (.bool true) ∧ W.grownBy w' none := by
  obtain ⟨pa, l, cap, rfl, hin, hl⟩ := came_bytes c0
  exact walk pa cap l W hin (by omega)

theorem own : ownKnob Try.prog.godebug = none := by kernel_rfl
theorem laidOut : laidOutB Try.prog = true := by kernel_rfl

set_option maxRecDepth 100000 in
theorem lifted (os : Os) (started : os.Started) (H : Type) (enc : TypeId × Value → H) :
    ReturnsInHanded {} Try.checked os 8 .any (Rows.ringTurnsSpec.pre6 enc Try.prog Try.f8 Rows.ringTurnsRow.domain false) (Rows.ringTurnsSpec.post enc Try.prog Try.f8 false true false false) := by
  refine returnsInHanded_of_change_sized (C := Try.checked) own started (by kernel_rfl) Try.func8
    (ChangeSpec.witness6 (enc := enc) (C := Try.checked) false ⟨#[], #[.slice none 0 0], []⟩ 8 (by kernel_rfl) (by kernel_rfl) (by kernel_rfl) (by kernel_rfl)) ?_
  intro W base args ds gs before hval0 hW _ hsz0 _
  have hsz : (DataW.weightsEach Try.prog (Try.f8.params.toList ++ Rows.ringTurnsSpec.plain.varTypes Try.prog) (ds ++ gs)).all (· ≤ reachBytes) = true := hsz0
  clear hsz0
  have hval : ∀ (j : Nat) t v, Try.f8.params[j]? = some t → args[j]? = some v → Value.okWide Try.prog W .any base t v := hval0
  have hW' := hW
  obtain ⟨p, q, hA0, hV, rfl, hfz, hnd⟩ := hW
  have hA : DataW.TrodAll enc Try.prog W 0 (fun _ => true) true Try.f8.params.toList args.toList ds p := hA0
  rw [Try.params8] at hA hval hsz
  obtain ⟨v0, vs0, d0, ds0, p0, q0, hargs, rfl, rfl, h0, r0⟩ := trodAll_cons hA
  obtain ⟨rfl, rfl, rfl⟩ := trodAll_nil r0
  obtain rfl : args = #[v0] := by cases args; simp_all
  obtain ⟨rfl, rfl⟩ := trodVars_none hV
  obtain ⟨ps0, ln0, cp0, rfl⟩ := okWide_slice Try.underlying31 (hval 0 31 v0 rfl rfl)
  have k0 := h0
  have lt0 : ∀ x ∈ p0, x.block < W.heap.size := by obtain ⟨m, hm⟩ := k0; exact DataW.trod_lt m _ _ _ hm
  have c0 : Flat.Came enc Try.prog W 0 (fun _ => true) true 31 (.slice ps0 ln0 cp0) := by
    obtain ⟨fuel, hf⟩ := h0
    exact ⟨fuel, _, hf, fun n hn => by
      have := List.all_eq_true.1 hsz n (DataW.weights_mem_each (j := 0) rfl rfl n hn)
      simpa using this⟩
  clear hA0 hval0
  refine (main (.slice ps0 ln0 cp0) W c0).mono fun e W' ⟨he, hg⟩ => ?_
  subst he
  have bel := below_grown' hg
  simp only [List.append_nil, List.nil_append] at hW'
  exact ⟨_, rfl, _, _, _, [], _, [], hW', trodAll_mk1 (shut_bool Try.underlying4 _), (trodAll_cons_mk (Below.trod laidOut (by kernel_rfl) (of_decide_eq_true (by kernel_rfl)) k0 bel lt0) trodAll_mk0), rfl, bel.frame _, fun h => by cases h⟩

theorem proved : Rows.RingTurnsSaid :=
  OpenClaim.holds_of_wide 8 Try.f8 rfl rfl rfl rfl rfl rfl rfl ⟨rfl, rfl, rfl, rfl, rfl⟩ rfl rfl rfl rfl rfl (by kernel_rfl) Try.func8 (by kernel_rfl)
    (of_decide_eq_true (by kernel_rfl)) (by unfold Func.isWrapper; first | (rw [if_pos (by decide +kernel)]; kernel_rfl) | (rw [if_neg (by decide +kernel)]; exact ⟨rfl, rfl⟩))
    (fun os started H enc _ => lifted os started H enc)
#print axioms proved
end Go.Proofs.Ytgnihllnjaagcaa.lawRgTurns
