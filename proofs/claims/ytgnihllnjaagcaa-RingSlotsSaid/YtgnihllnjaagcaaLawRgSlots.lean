/-
  RingSlots: for every page and every number of turns the law returns true, and what was there stays. No condition.
-/
import Derived.Test.YtgnihllnjaagcaaRgOne
import Derived.Test.YtgnihllnjaagcaaRgS
import Derived.Test.YtgnihllnjaagcaaRgT
import Derived.Test.YtgnihllnjaagcaaVOpen
import Derived.Test.YtgnihllnjaagcaaVStr
import Derived.Test.YtgnihllnjaagcaaLift
import Derived.ProofKit
import Derived.OpenShut
import Derived.Deep.Cut
set_option linter.unusedSimpArgs false
set_option linter.unusedVariables false
namespace Go.Proofs.Ytgnihllnjaagcaa.lawRgSlots
open Go.ChangeShapes Go.WideShapes Go.ChangeAt Go.RowKit
set_option maxHeartbeats 4000000

theorem came_cap {H : Type} {enc : TypeId × Value → H} {w : World} {p : Option Addr} {len cap : Nat} (h : Flat.Came enc Try.prog w 0 (fun _ => true) true 31 (.slice p len cap)) : len ≤ cap := by
  obtain ⟨fuel, x, h, _⟩ := h
  rcases Go.Deep.open_slice Try.underlying31 h with ⟨hcs, _⟩ | ⟨a, len', cap', m, n, D, Pl, hcs, _, hl, _⟩
  · simp only [List.cons.injEq, Value.slice.injEq, and_true] at hcs
    omega
  · simp only [List.cons.injEq, Value.slice.injEq, and_true] at hcs
    omega
theorem vNew0 (B : Nat) (w : World) (M : Mach) (hM : PM w B M) (hn1 : 1 ≤ M.n) : Calls Try.prog 20 #[.pointer (some ⟨B, 0, none⟩), .slice none 0 0] w fun e w' => e = .returned (.tuple #[.pointer (some ⟨w.heap.size + 1, 0, none⟩), .int .i64 0]) ∧
    (∃ f, VV w' (w.heap.size + 1) w.heap.size B (fun k => w.heap.size + 2 ≤ k ∧ k < w'.heap.size) [] 0 0 f) ∧ w.grownBy w' none :=
  vNew B none 0 [] w M hM hn1 (by simp) (fun j hj => by simp at hj)
/-- the whole page is read -/
theorem pgRead (B : Nat) (bs : Nat → UInt8) (W : World) (hm : PM W B (rgM bs)) : Calls Try.prog 38 #[.pointer (some ⟨B, 0, none⟩), .int .i64 0, .int .i64 0, .int .i64 256] W fun e w' => ∃ g, e = .returned (.tuple #[.slice (some ⟨g, 0, none⟩) 256 256, .int .i64 0]) ∧ W.heap.size ≤ g ∧ (∀ k, k < 256 → w'.cell? ⟨g, k, none⟩ = some (.int .u8 (bs k).toNat)) ∧ W.grownBy w' none := by
  have h := Read_yes B 0 0 256 W (rgM bs) 0 hm (rgM_ok bs) (by show (0 : Int) < 2; decide) (by omega)
  refine h.mono fun e w' ⟨v, he, hn⟩ => ?_
  have hl : (((rgM bs).fr 0).part 0 256).length = 256 := part_len _ _ _
  rcases hn with ⟨_, h0, _⟩ | ⟨g, hv, hg, hb, hgr⟩
  · rw [h0] at hl; simp at hl
  · rw [hl] at hv
    refine ⟨g, by rw [he, hv], hg, fun k hk => ?_, hgr⟩
    have := bcells_at hb k (by rw [hl]; exact hk)
    rw [this, part_get _ _ _ _ hk, Nat.zero_add]
    rfl
/-- the numbers ahead of turn i -/
def gi (i : Nat) : Rg := ⟨0, i, i, i⟩
theorem gi_ok (i : Nat) (h : i ≤ 65535) : (gi i).ok := ⟨by show (0 : Int) ≤ i; omega, by show (i : Int) ≤ 65535; omega, by show (0 : Int) ≤ i; omega, by show (i : Int) ≤ 65535; omega, by show (0 : Int) ≤ i; omega, by show (i : Int) ≤ 65535; omega, by show IntKind.u16.wrap ((i : Int) - i) ≤ 8; rw [wrap16]; omega, by show IntKind.u16.wrap ((i : Int) - i) ≤ 8; rw [wrap16]; omega⟩
theorem two_cells (W : World) (i : Nat) (hi : i < 65535) : ∃ W1, W.alloc (.cells #[.int .u8 ((((i : Nat) : Int) + 1) % 256), .int .u8 ((((i : Nat) : Int) + 1) / 256)] 5) = W1 ∧ Row W1 W.heap.size 5 2 (fun k => .int .u8 ((two16 ((i + 1 : Nat) : Int)).getD k 0).toNat) ∧ W.grownBy W1 none := by
  refine ⟨_, rfl, ⟨_, heap_alloc_new W _, by simp, fun k hk => ?_⟩, World.grownBy_alloc _ _ none⟩
  have e0 : ((UInt8.ofNat (((i + 1 : Nat) : Int).toNat % 256)).toNat : Int) = ((i : Int) + 1) % 256 := by rw [UInt8.toNat_ofNat']; omega
  have e1 : ((UInt8.ofNat (((i + 1 : Nat) : Int).toNat / 256)).toNat : Int) = ((i : Int) + 1) / 256 := by rw [UInt8.toNat_ofNat']; omega
  match k, hk with
  | 0, _ => show some _ = some (Value.int .u8 ((UInt8.ofNat (((i + 1 : Nat) : Int).toNat % 256)).toNat : Int)); rw [e0]; rfl
  | 1, _ => show some _ = some (Value.int .u8 ((UInt8.ofNat (((i + 1 : Nat) : Int).toNat / 256)).toNat : Int)); rw [e1]; rfl
/-- behind Look, behind Take -/
def gl (i : Nat) : Rg := ⟨0, i, i, (i + 1 : Nat)⟩
def gt (i : Nat) : Rg := ⟨0, (i + 1 : Nat), i, (i + 1 : Nat)⟩
theorem w16 (n : Nat) (h : n < 65536) : IntKind.u16.wrap (n : Int) = n := by rw [wrap16]; omega
theorem ahead1 (i : Nat) (h : i < 65535) : ringAhead ((i + 1 : Nat) : Int) (gi i).tk = (1, false) := by
  have e : IntKind.u16.wrap (((i + 1 : Nat) : Int) - i) = 1 := by rw [wrap16]; omega
  unfold ringAhead
  rw [show (gi i).tk = i from rfl, e]
  rfl
theorem looked (i : Nat) (h : i < 65535) : ({ gi i with sn := IntKind.u16.wrap ((gi i).tk + 1) } : Rg) = gl i := by
  unfold gi gl
  simp only [Rg.mk.injEq, true_and]
  rw [wrap16]; omega
theorem gl_ok (i : Nat) (h : i < 65535) : (gl i).ok := ⟨by show (0 : Int) ≤ i; omega, by show (i : Int) ≤ 65535; omega, by show (0 : Int) ≤ i; omega, by show (i : Int) ≤ 65535; omega, by show (0 : Int) ≤ (i + 1 : Nat); omega, by show ((i + 1 : Nat) : Int) ≤ 65535; omega, by show IntKind.u16.wrap (((i + 1 : Nat) : Int) - i) ≤ 8; rw [wrap16]; omega, by show IntKind.u16.wrap ((i : Int) - i) ≤ 8; rw [wrap16]; omega⟩
theorem gl_can (i : Nat) (h : i < 65535) : (gl i).can = true := by
  have e : (gl i).wait = 1 := by show IntKind.u16.wrap (((i + 1 : Nat) : Int) - i) = 1; rw [wrap16]; omega
  have e2 : (gl i).opn = 0 := by show IntKind.u16.wrap ((i : Int) - i) = 0; rw [wrap16]; omega
  unfold Rg.can; rw [e, e2]; rfl
theorem took (i : Nat) (h : i < 65535) : (gl i).took = gt i := by
  unfold Rg.took gl gt
  simp only [Rg.mk.injEq, true_and, and_true]
  rw [wrap16]; omega
theorem gt_ok (i : Nat) (h : i < 65535) : (gt i).ok := took i h ▸ Rg.took_ok (gl_ok i h) (gl_can i h)
theorem gt_opn (i : Nat) (h : i < 65535) : (gt i).opn ≠ 0 := by
  have e : (gt i).opn = 1 := by show IntKind.u16.wrap (((i + 1 : Nat) : Int) - i) = 1; rw [wrap16]; omega
  rw [e]; decide
theorem laidG (i : Nat) (h : i < 65535) : (gt i).laid = gi (i + 1) := by
  unfold Rg.laid gt gi
  simp only [Rg.mk.injEq, true_and, and_true]
  rw [wrap16]; omega
theorem row_of_own {W : World} {base : Nat} {v : Value} {bs : Nat → UInt8} (h : W.ownsRow base 5 1 v 256 (bcells ((pgFr bs).part 0 256))) : ∃ g c, v = .slice (some ⟨g, 0, none⟩) 256 c ∧ base ≤ g ∧ Row W g 5 256 (fun k => .int .u8 (bs k).toNat) := by
  obtain ⟨g, c, hv, hb, hr⟩ := ownsRow_row (n := 255) h
  refine ⟨g, c, hv, hb, hr.congr fun k hk => ?_⟩
  have hk2 : k < ((pgFr bs).part 0 256).length := by rw [part_len]; omega
  simp only [List.getD, bcells_get, List.getElem?_eq_getElem hk2, Option.map_some, Option.getD_some]
  have := part_get (pgFr bs) 0 256 k (by omega)
  rw [List.getD, List.getElem?_eq_getElem hk2, Option.getD_some] at this
  rw [this, Nat.zero_add]
  rfl
theorem lay_take (bs : Nat → UInt8) (o k : Nat) (l : List UInt8) (hk : k < l.length) (q : Nat) : lay bs o (l.take (k + 1)) q = if q = o + k then l.getD k 0 else lay bs o (l.take k) q := by
  unfold lay
  simp only [List.length_take]
  by_cases e : q = o + k
  · subst e
    rw [if_pos (by omega), if_pos rfl, show o + k - o = k by omega]
    simp [List.getD, hk]
  · rw [if_neg e]
    by_cases h : o ≤ q ∧ q < o + min k l.length
    · rw [if_pos (by omega), if_pos h]
      have : q - o < k := by omega
      simp [List.getD, this, Nat.lt_succ_of_lt this]
    · rw [if_neg (by omega), if_neg h]
theorem pgString (W : World) (g c : Nat) (bs : Nat → UInt8) (h : ∀ k, k < 256 → W.cell? ⟨g, k, none⟩ = some (.int .u8 (bs k).toNat)) : (convert 31 9 (.slice (some ⟨g, 0, none⟩) 256 c)).run Try.prog W = .ok (.string ⟨((pgFr bs).part 0 256).toArray⟩) W :=
  vconv_row W g 0 256 c _ (part_len _ _ _) fun q hq => by
    have := part_get (pgFr bs) 0 256 q hq
    rw [this, Nat.zero_add, h q hq]
    rfl
/-- the page that is wanted -/
theorem wantRow (wr : World) (gw : Nat) (bs1 bs2 : Nat → UInt8) (i a id : Nat) (ha : a < 8) (hi : i < 65535) (hb : lay (lay bs1 (144 + 8 * a) (slotV 8 id)) 2 (two16 ((i + 1 : Nat) : Int)) = bs2) (h : Row wr gw 5 256 (fun q => .int .u8 (lay bs1 (144 + 8 * a) ((slotV 8 id).take 8) q).toNat)) :
    Row ((wr.setCell ⟨gw, 2, none⟩ (.int .u8 (((i : Int) + 1) % 256))).setCell ⟨gw, 3, none⟩ (.int .u8 (((i : Int) + 1) / 256))) gw 5 256 (fun q => .int .u8 (bs2 q).toNat) := by
  have ht : (slotV 8 id).take 8 = slotV 8 id := List.take_of_length_le (by rw [slotV_len]; omega)
  rw [ht] at h
  have e2 : bs2 2 = UInt8.ofNat ((i + 1) % 256) := by
    rw [← hb, lay_in (by omega) (by rw [two16_len]; omega)]
    show UInt8.ofNat (((i + 1 : Nat) : Int).toNat % 256) = _
    rw [Int.toNat_natCast]
  have e3 : bs2 3 = UInt8.ofNat ((i + 1) / 256) := by
    rw [← hb, lay_in (by omega) (by rw [two16_len]; omega)]
    show UInt8.ofNat (((i + 1 : Nat) : Int).toNat / 256) = _
    rw [Int.toNat_natCast]
  have h1 := h.set (k := 2) (v := .int .u8 (((i : Int) + 1) % 256)) (X' := fun q => if q = 2 then .int .u8 (((i : Int) + 1) % 256) else .int .u8 (lay bs1 (144 + 8 * a) (slotV 8 id) q).toNat) (by simp) (fun q _ hq => by simp [hq])
  have h2 := h1.set (k := 3) (v := .int .u8 (((i : Int) + 1) / 256)) (X' := fun q => if q = 3 then .int .u8 (((i : Int) + 1) / 256) else if q = 2 then .int .u8 (((i : Int) + 1) % 256) else .int .u8 (lay bs1 (144 + 8 * a) (slotV 8 id) q).toNat) (by simp) (fun q _ hq => by simp [hq])
  refine h2.congr fun q hq => ?_
  by_cases q3 : q = 3
  · subst q3
    rw [e3, UInt8.toNat_ofNat']
    simp only [if_pos]
    congr 1
    omega
  · by_cases q2 : q = 2
    · subst q2
      rw [e2, UInt8.toNat_ofNat', if_neg q3, if_pos rfl]
      congr 1
      omega
    · rw [if_neg q3, if_neg q2, ← hb, lay_out (by rw [two16_len]; omega)]
set_option maxRecDepth 100000 in
theorem walk (pa : Option Addr) (cap : Nat) (l : List UInt8) (t : Nat) (w : World) (ht : t ≤ 65535) (hin : InBytes w pa l) (hl : l.length ≤ 140737488351232) (hcap : l.length ≤ cap) :
    Calls Try.prog 10 #[.slice pa l.length cap, .int .u16 t] w fun e w' => e = .returned (.bool true) ∧ w.grownBy w' none := by
  have HB := hid (rgBegin pa cap l w hin hl hcap)
  rw [rgStart_eq l] at HB
  obtain ⟨bs0, hbs0⟩ : ∃ bs0, lay (fun _ => 0) 0 (pg256 l) = bs0 := ⟨_, rfl⟩
  rw [hbs0] at HB
  obtain ⟨m, hm⟩ : ∃ m : Nat, t % 600 = m := ⟨_, rfl⟩
  have hm6 : m < 600 := by omega
  have hmi : (t : Int) % 600 = (m : Int) := by omega
  clear hin hl hcap hbs0 hm
  go_enter Try.func10, Try.ntmps10
  go_wp2_with (first
    | (go_at_call 28; refine HB.out.mono ?_; rintro e w1 ⟨B, b, L, rfl, h1⟩; have H1 := hid h1; have hB1 := h1.m.lt; have hB0 := h1.farB; clear h1)
    | (go_at_call 29; refine (rgNew_yes 0 _ (by omega) (by omega)).mono ?_; rintro e w2 ⟨rfl, hk2, g2⟩; have HK2 := hid hk2; have hk2l := hk2.lt; have H2 := hid (H1.out.more g2); clear hk2 g2)
    | (go_at_call 20; refine (vNew0 B _ _ H2.out.m (rgM_ok bs0).n1).mono ?_; rintro e w3 ⟨rfl, ⟨f3, hv3⟩, g3⟩; have HV3 := hid hv3; have HK3 := hid (HK2.out.grown g3 (by simp)); have H3 := hid (H2.out.more g3); clear hv3 g3))
  have HS0 := hid (show SV w w3 B (w2.heap.size + 1) w2.heap.size w1.heap.size (fun k => w2.heap.size + 2 ≤ k ∧ k < w3.heap.size) bs0 (gi 0) 0 from
    ⟨H3.out.m, ⟨f3, HV3.out⟩, HK3.out, ⟨by rintro (e | e | e); (omega); (omega); (have := e.1; omega), by omega⟩, ⟨by have := H2.out.grown.size; omega, H2.out.grown.size, hB0, H1.out.grown.size⟩, H3.out.grown⟩)
  obtain ⟨V, hV⟩ : ∃ V, w2.heap.size + 1 = V := ⟨_, rfl⟩
  obtain ⟨G, hG⟩ : ∃ G, w2.heap.size = G := ⟨_, rfl⟩
  obtain ⟨K, hK⟩ : ∃ K, w1.heap.size = K := ⟨_, rfl⟩
  obtain ⟨S, hS⟩ : ∃ S : Nat → Prop, (fun k => w2.heap.size + 2 ≤ k ∧ k < w3.heap.size) = S := ⟨_, rfl⟩
  rw [hS, hV, hK, hG] at HS0
  rw [hV, hK]
  rw [hmi]
  clear H1 H2 H3 HK2 HK3 HV3 hK hV hG hS HB hB1 hB0 hk2l hmi
  go_loopw [13] (fun x wr => ∃ (i : Nat) (bs : Nat → UInt8), x = .int .i64 i ∧ i ≤ m ∧ SV w wr B V G K S bs (gi i) (2 * i)) (fun x _ => m - (intOf x).toNat)
  case atStart => exact ⟨0, bs0, rfl, by omega, HS0.out⟩
  case round =>
    clear HS0
    obtain ⟨i, bs, rfl, hi, hs⟩ := hrel
    have HS := hid hs
    clear hs
    have hi0 : (0 : Int) ≤ i := by omega
    by_cases hil : i < m
    · as_aux_lemma =>
        have hil' : (i : Int) < m := by omega
        have hi6 : (i : Int) < 600 := by omega
        have hi16 : i < 65535 := by omega
        obtain ⟨W1, hW1, hrow1, g1⟩ := two_cells wr i hi16
        have HS1 := hid (HS.out.more g1)
        obtain ⟨bs1, hbs1⟩ : ∃ bs1, lay bs 0 (two16 ((i + 1 : Nat) : Int)) = bs1 := ⟨_, rfl⟩
        have HW1 := hid (by
          have h := Write_any B 0 0 (.slice (some ⟨wr.heap.size, 0, none⟩) 2 2) (two16 ((i + 1 : Nat) : Int)) W1 (rgM bs) 0 HS1.out.m (rgM_ok bs) (by omega) (row_bytes hrow1 rfl (fun e => by have := HS.out.m.lt; omega)) (by rw [two16_len]; omega)
          have h2 := rgM_write (bs := bs) (o := 0) (l := two16 ((i + 1 : Nat) : Int)) (by rw [two16_len]; omega)
          rw [show ((0 : Nat) : Int) = 0 from rfl, hbs1] at h2
          rw [h2] at h
          exact h : Calls Try.prog 15 #[.pointer (some ⟨B, 0, none⟩), .int .i64 0, .int .i64 0, .slice (some ⟨wr.heap.size, 0, none⟩) 2 2] W1 (Left B W1 0 (rgM bs1)))
        have b0 : bs1 0 = UInt8.ofNat ((i + 1) % 256) := by rw [← hbs1, lay_in (by omega) (by rw [two16_len]; omega)]; show UInt8.ofNat (((i + 1 : Nat) : Int).toNat % 256) = _; rw [Int.toNat_natCast]
        have b1 : bs1 1 = UInt8.ofNat ((i + 1) / 256) := by rw [← hbs1, lay_in (by omega) (by rw [two16_len]; omega)]; show UInt8.ofNat (((i + 1 : Nat) : Int).toNat / 256) = _; rw [Int.toNat_natCast]
        have HRd := hid (fun (W : World) (M2 : Nat → UInt8) (hm : PM W B (rgM M2)) => pgRead B M2 W hm)
        have HLk := hid (fun (W : World) (h : SV w W B V G K S bs1 (gi i) (2 * i)) => (by
          have h2 := svLook w W B V G K S bs1 (gi i) (2 * i) h (gi_ok i (by omega)) rfl (i + 1) (by omega) b0 b1 (by omega)
          rw [ahead1 i hi16, looked i hi16] at h2
          exact h2 : Calls Try.prog 44 #[.pointer (some ⟨K, 0, none⟩), .pointer (some ⟨V, 0, none⟩)] W fun e w' => e = .returned (.tuple #[.int .i64 1, .bool false, .int .i64 0]) ∧ SV w w' B V G K S bs1 (gl i) (2 * i + 1) ∧ Chg (fun k => k = V ∨ k = G ∨ k = B ∨ k = K) W w'))
        have HTk := hid (fun (W : World) (h : SV w W B V G K S bs1 (gl i) (2 * i + 1)) => (by
          have h2 := svTake w W B V G K S bs1 (gl i) (2 * i + 1) h (gl_ok i hi16) rfl (by omega) (gl_can i hi16)
          rw [took i hi16] at h2
          exact h2 : Calls Try.prog 45 #[.pointer (some ⟨K, 0, none⟩), .pointer (some ⟨V, 0, none⟩)] W fun e w' => ∃ v, e = .returned (.tuple #[v, .int .i64 0]) ∧ FreshB W ((pgFr bs1).part (16 + 16 * (i % 8)) 16) v w' ∧ SV w w' B V G K S bs1 (gt i) (2 * i + 2) ∧ Chg (fun k => k = V ∨ k = G ∨ k = B ∨ k = K) W w'))
        clear hrow1 hbs1 b0 b1
        go_wp2_with (first
          | (go_at_call 15; refine HW1.out.mono ?_; rintro e w4 ⟨rfl, hm4, g4⟩; have HS4 := hid (HS1.out.mach hm4 g4); clear hm4 g4)
          | (go_at_call 38; refine (HRd.out _ bs1 HS4.out.m).mono ?_; rintro e w5 ⟨go, rfl, hgo, hc5, g5⟩; have HS5 := hid (HS4.out.more g5); have HC5 := hid hc5; have HGo := hid (HS4.out.off hgo); have G5 := hid g5.size; clear hgo hc5 g5)
          | (go_at_call 44; refine (HLk.out _ HS5.out).mono ?_; rintro e w6 ⟨rfl, hs6, hc6⟩; have HS6 := hid hs6; have HC6 := hid (fun k (hk : k < 256) => hc6.cell (HC5.out k hk) HGo.out); clear hs6 hc6)
          | (go_at_call 45; refine (HTk.out _ HS6.out).mono ?_; rintro e w7 ⟨v7, rfl, ⟨q7, c7, rfl, hk7⟩, hs7, hc7⟩; have HS7 := hid hs7; have HK7 := hid hk7; have HC7 := hid (fun k (hk : k < 256) => hc7.cell (HC6.out k hk) HGo.out); clear hk7 hs7 hc7))
        rw [part_len]
        have kc1 := fun n => kept_string HK7.out c7 (w7.drewN n) (grownBy_drewN w7 n none)
        rw [part_len] at kc1
        obtain ⟨a, ha⟩ : ∃ a : Nat, i % 8 = a := ⟨_, rfl⟩
        have ha8 : (a : Int) < 8 := by omega
        have ha0 : (0 : Int) ≤ a := by omega
        have hmod : (i : Int).tmod 8 = (a : Int) := by rw [Int.tmod_eq_emod_of_nonneg hi0]; omega
        have x1 : IntKind.i64.wrap (16 * (a : Int)) = 16 * (a : Int) := IntWalk.i64_in _ (by omega)
        have x2 : IntKind.i64.wrap (16 + 16 * (a : Int)) = 16 + 16 * (a : Int) := IntWalk.i64_in _ (by omega)
        have x3 : IntKind.i64.wrap (32 + 16 * (a : Int)) = 32 + 16 * (a : Int) := IntWalk.i64_in _ (by omega)
        have x4 : IntKind.i64.wrap (a : Int) = (a : Int) := IntWalk.i64_in _ (by omega)
        have y1 : (0 : Int) ≤ 16 + 16 * (a : Int) := by omega
        have y2 : 16 + 16 * (a : Int) ≤ 32 + 16 * (a : Int) := by omega
        have y3 : 32 + 16 * (a : Int) ≤ 256 := by omega
        have y4 : (16 + 16 * (a : Int)).toNat = 16 + 16 * a := by omega
        have y5 : (32 + 16 * (a : Int)).toNat = 32 + 16 * a := by omega
        have y6 : 32 + 16 * a - (16 + 16 * a) = 16 := by omega
        rw [ha] at kc1
        have kc2 : ∀ n c : Nat, (convert 31 9 (.slice (some ⟨go, 16 + 16 * a, none⟩) 16 c)).run Try.prog (w7.drewN n) = .ok (.string ⟨((pgFr bs1).part (16 + 16 * a) 16).toArray⟩) (w7.drewN n) := fun n c =>
          vconv_row _ go (16 + 16 * a) 16 c _ (part_len _ _ _) fun q hq => by rw [part_get _ _ _ _ hq]; exact HC7.out _ (by omega)
        go_quiet (fail)
        obtain ⟨W8, hW8⟩ : ∃ W8, w7.drewN nq = W8 := ⟨_, rfl⟩
        have g8 : w7.grownBy W8 none := hW8 ▸ grownBy_drewN _ _ none
        have HS8 := hid (HS7.out.more g8)
        have HC8 := hid (fun k (hk : k < 256) => g8.cell (HC7.out k hk) (by simp))
        have G8 := hid g8.size
        rw [hW8]
        clear hW8 g8 kc1 kc2 x1 x2 x3 x4 y1 y2 y3 y4 y5 y6
        obtain ⟨id, hid0⟩ : ∃ id : Nat, i % 256 = id := ⟨_, rfl⟩
        have hid2 : id < 256 := by omega
        have HSl := hid (fun (W : World) => (by
          have h := sSlot 8 id W (by omega) hid2
          rw [show (id : Int) = (i : Int) % 256 by omega] at h
          exact h : Calls Try.prog 43 #[.int .i64 8, .int .u8 ((i : Int) % 256)] W fun e w' => ∃ g, W.heap.size ≤ g ∧ e = .returned (.slice (some ⟨g, 0, none⟩) 8 8) ∧ Row w' g 5 8 (fun k => .int .u8 ((slotV 8 id).getD k 0).toNat) ∧ W.grownBy w' none))
        obtain ⟨bs2, hbs2⟩ : ∃ bs2, lay (lay bs1 (144 + 8 * a) (slotV 8 id)) 2 (two16 ((i + 1 : Nat) : Int)) = bs2 := ⟨_, rfl⟩
        have HAn := hid (fun (W : World) (gs : Nat) (h : SV w W B V G K S bs1 (gt i) (2 * i + 2)) (hb : IsBytes W B (.slice (some ⟨gs, 0, none⟩) 8 8) (slotV 8 id)) => (by
          have h2 := svAnswer w W B V G K S bs1 (gt i) (2 * i + 2) h (gt_ok i hi16) rfl (some ⟨gs, 0, none⟩) 8 (slotV 8 id) (slotV_len _ _) hb (gt_opn i hi16)
          rw [show (gt i).ld.toNat % 8 = a from ha, laidG i hi16, show (gi (i + 1)).ld = ((i + 1 : Nat) : Int) from rfl, hbs2] at h2
          exact h2 : Calls Try.prog 46 #[.pointer (some ⟨K, 0, none⟩), .pointer (some ⟨V, 0, none⟩), .slice (some ⟨gs, 0, none⟩) 8 8] W fun e w' => e = .returned (.int .i64 0) ∧ SV w w' B V G K S bs2 (gi (i + 1)) (2 * i + 2) ∧ Chg (fun k => k = B ∨ k = K) W w'))
        obtain ⟨i0, hi1, hz0, hz1, hz2⟩ := info_parts info_u8
        have Hi := hid hi1; have Hz0 := hid hz0; have Hz1 := hid hz1; have Hz2 := hid hz2
        have HB2 := hid hbs2
        have HPl := hid (part_len (pgFr bs1) 0 256)
        clear hi1 hz0 hz1 hz2 hbs2 hid0
        go_wp2_with (first
          | (go_at_call 43; refine (HSl.out _).mono ?_; rintro e w9 ⟨gs, hgs, rfl, hr9, g9⟩; have HS9 := hid (HS8.out.more g9); have HR9 := hid hr9; have HC9 := hid (fun k (hk : k < 256) => g9.cell (HC8.out k hk) (by simp)); have HGs := hid (HS8.out.off hgs); clear hgs hr9 g9)
          | (go_at_call 46; refine (HAn.out _ gs HS9.out (row_bytes HR9.out (slotV_len _ _) (fun e => HGs.out (.inr (.inr (.inl e)))))).mono ?_; rintro e wa ⟨rfl, hsa, hca⟩; have HSa := hid hsa; have HRa := hid (HR9.out.chg hca (fun e => HGs.out (e.elim (fun e => .inr (.inr (.inl e))) fun e => .inr (.inr (.inr e))))); have HCa := hid (fun k (hk : k < 256) => hca.cell (HC9.out k hk) (fun e => HGo.out (e.elim (fun e => .inr (.inr (.inl e))) fun e => .inr (.inr (.inr e))))); have HGg := hid (World.grownBy_alloc wa (.cells #[] 5) none); have HOn := hid (World.ownsRow_made (base := wa.heap.size) (e := 5) (size := 1) wa #[] 0 (Nat.le_refl _) (by unfold maxLen; omega) (by simp)); have HNw := hid (show ∀ j u, (bcells ((pgFr bs1).part 0 256))[j]? = some u → (wa.alloc (.cells #[] 5)).cell? ((⟨go, 0, none⟩ : Addr).add j) = some u from fun j u hu => by
              rw [bcells_get, Option.map_eq_some_iff] at hu
              obtain ⟨x, hx, rfl⟩ := hu
              obtain ⟨hj, rfl⟩ := List.getElem?_eq_some_iff.1 hx
              rw [part_len] at hj
              have e : (⟨go, 0, none⟩ : Addr).add j = ⟨go, j, none⟩ := by unfold Addr.add; split <;> simp_all
              rw [e, (World.grownBy_alloc wa (.cells #[] 5) none).cell (HCa.out j hj) (by simp)]
              have := part_get (pgFr bs1) 0 256 j hj
              rw [List.getD, hx, Option.getD_some] at this
              rw [this, Nat.zero_add]
              rfl); clear hsa hca)
          | (at_builtin; refine wpList_append_own _ rfl _ _ 31 rfl wa.heap.size 5 i0 (.int .u8 0) 1 1 Try.underlying31 Hi.out Hz0.out Hz1.out Hz2.out rfl (by decide) _ 0 [] rfl HOn.out ⟨go, 0, none⟩ 256 256 (bcells ((pgFr bs1).part 0 256)) rfl (by rw [bcells_len, HPl.out]) HNw.out (bcells_one _) (by unfold maxLen; omega) (by omega) (by simp) ?_; intro v' wb hown' hgrow hnil; clear hnil; simp only [Nat.zero_add, List.nil_append] at hown'; obtain ⟨gw, cw, rfl, hgw, hrw⟩ := row_of_own hown'; have HRw := hid hrw; have HGw := hid hgw; have HGb := hid (HGg.out.andThen hgrow (fun j hj => .inl (HOn.out.lt j hj).1)); clear hown' hgrow hgw hrw))
        have HSb := hid (HSa.out.more HGb.out)
        have HRb := hid (Row.grown HRa.out HGb.out (by simp))
        have HDw := hid (show ∀ q, q = gw → w.heap.size ≤ q ∧ q ≠ B ∧ q ≠ K ∧ ¬ vfoot V G S q from fun q e => by
          subst e
          have h1 := HSa.out.g.size
          have h2 := HSa.out.off HGw.out
          obtain ⟨fv, hfv⟩ := HSa.out.v
          have h3 := HGw.out
          exact ⟨by omega, fun e => h2 (.inr (.inr (.inl e))), fun e => h2 (.inr (.inr (.inr e))), fun e => by have := hfv.foot_lt e; omega⟩)
        have HSw := hid (show gs ≠ gw from fun e => by have h1 := Row.lt HRa.out; have h2 := HGw.out; omega)
        clear HC8 HC7 HC6 HC5 HCa HNw HOn HGg HS9 HS8 HS7 HS6 HS5 HS4 HS1 HW1 HLk HTk HSl HAn HK7
        obtain ⟨wo, how⟩ : ∃ x, x = wr := ⟨_, rfl⟩
        subst how
        have z1 : IntKind.i64.wrap (8 * (a : Int)) = 8 * (a : Int) := IntWalk.i64_in _ (by omega)
        have z2 : IntKind.i64.wrap (144 + 8 * (a : Int)) = 144 + 8 * (a : Int) := IntWalk.i64_in _ (by omega)
        go_loopw [24] (fun x wr => ∃ k : Nat, x = .int .i64 k ∧ k ≤ 8 ∧ Row wr gw 5 256 (fun q => .int .u8 (lay bs1 (144 + 8 * a) ((slotV 8 id).take k) q).toNat) ∧ Row wr gs 5 8 (fun q => .int .u8 ((slotV 8 id).getD q 0).toNat) ∧ SV w wr B V G K S bs2 (gi (i + 1)) (2 * i + 2)) (fun x _ => 8 - (intOf x).toNat)
        case atStart => exact ⟨0, rfl, by omega, HRw.out.congr fun q _ => by rw [List.take_zero, lay_out (by simp; omega)], HRb.out, HSb.out⟩
        case round =>
          clear HSb HRb HRw
          obtain ⟨k, rfl, hk, hrw, hrs, hsv⟩ := hrel
          have HRw := hid hrw; have HRs := hid hrs; have HSv := hid hsv
          clear hsv
          have hk0 : (0 : Int) ≤ k := by omega
          by_cases hk8 : k < 8
          · as_aux_lemma =>
              have hk8' : (k : Int) < 8 := by omega
              have c1 := hrs.cell hk8
              have c2 := hrw.cell (k := 144 + 8 * a + k) (by omega)
              have f2 := hrw.frozen (144 + 8 * a + k)
              have z3 : IntKind.i64.wrap (144 + 8 * (a : Int) + k) = 144 + 8 * (a : Int) + k := IntWalk.i64_in _ (by omega)
              have z4 : (0 : Int) ≤ 144 + 8 * (a : Int) + k := by omega
              have z5 : 144 + 8 * (a : Int) + k < 256 := by omega
              have z6 : (144 + 8 * (a : Int) + k).toNat = 144 + 8 * a + k := by omega
              clear hrw hrs
              go_wp2_with fail
              go_roundw
              case rel =>
                have hg := grownBy_setCell wr gw (144 + 8 * a + k) none (.int .u8 (((slotV 8 id)[k]?.getD 0).toNat : Nat))
                refine ⟨k + 1, by go_num, by omega, HRw.out.set (k := 144 + 8 * a + k) ?_ fun q hq hne => ?_, Row.grown HRs.out hg (by simpa using HSw.out), HSv.out.chg (Chg.of hg fun j e => .inl (Option.some.inj e).symm) HDw.out⟩
                · rw [lay_take _ _ _ _ (by rw [slotV_len]; exact hk8), if_pos rfl]
                  rfl
                · rw [lay_take _ _ _ _ (by rw [slotV_len]; exact hk8), if_neg hne]
              case measure => simp [intOf]; omega
          · as_aux_lemma =>
              obtain rfl : k = 8 := by omega
              have hge : (8 : Int) ≤ ((8 : Nat) : Int) := by omega
              have c2 := hrw.cell (k := 2) (by omega)
              have c3 := hrw.cell (k := 3) (by omega)
              have f2 := hrw.frozen 2
              have f3 := hrw.frozen 3
              obtain ⟨t2, ht2⟩ : ∃ t2 : Nat, ((lay bs1 (144 + 8 * a) (List.take 8 (slotV 8 id)) 2).toNat) = t2 := ⟨_, rfl⟩
              obtain ⟨t3, ht3⟩ : ∃ t3 : Nat, ((lay bs1 (144 + 8 * a) (List.take 8 (slotV 8 id)) 3).toNat) = t3 := ⟨_, rfl⟩
              rw [ht2] at c2
              rw [ht3] at c3
              have HRf := hid (wantRow wr gw bs1 bs2 i a id (by omega) hi16 HB2.out HRw.out)
              have HGf := hid (show wr.grownBy ((wr.setCell ⟨gw, 2, none⟩ (.int .u8 (((i : Int) + 1) % 256))).setCell ⟨gw, 3, none⟩ (.int .u8 (((i : Int) + 1) / 256))) (some gw) from (grownBy_setCell wr gw 2 none _).trans (grownBy_setCell _ gw 3 none _))
              have HSf := hid (HSv.out.chg (Chg.of HGf.out fun j e => .inl (Option.some.inj e).symm) HDw.out)
              clear hrw hrs ht2 ht3
              go_wp2_with (go_at_call 38; refine (HRd.out _ bs2 HSf.out.m).mono ?_; rintro e wz ⟨gz, rfl, hgz, hcz, ggz⟩; have HSz := hid (HSf.out.more ggz); have kc3 := pgString wz gz 256 bs2 hcz; have kc4 := pgString wz gw cw bs2 (fun k hk => ggz.cell (HRf.out.cell hk) (by simp)); clear hgz hcz ggz)
              go_roundw
              case rel => first
                | exact ⟨i + 1, bs2, by go_num, by omega, HSz.out⟩
                | (repeat apply Exists.intro
                   exact ⟨⟨i + 1, bs2, by go_num, by omega, HSz.out⟩, rfl⟩)
              case measure => simp [intOf]; omega
    · as_aux_lemma =>
        obtain rfl : i = m := by omega
        have hge : (i : Int) ≤ i := by omega
        have HAw := hid (fun W => rAwake W)
        have HTk := hid (show Calls Try.prog 33 #[.pointer (some ⟨K, 0, none⟩)] wr (fun e w' => e = .returned (.int .u16 (i : Int)) ∧ wr = w') from rgTaken K (gi i) wr HS.out.k)
        have HLd := hid (show Calls Try.prog 34 #[.pointer (some ⟨K, 0, none⟩)] wr (fun e w' => e = .returned (.int .u16 (i : Int)) ∧ wr = w') from rgLaid K (gi i) wr HS.out.k)
        have w1 : IntKind.i64.wrap (i : Int) = (i : Int) := IntWalk.i64_in _ (by omega)
        go_wp2_with (first
          | (go_at_call 33; refine HTk.out.mono ?_; rintro e w6 ⟨rfl, rfl⟩)
          | (go_at_call 34; refine HLd.out.mono ?_; rintro e w6 ⟨rfl, rfl⟩)
          | (go_at_call 31; refine (HAw.out _).mono ?_; rintro e w8 ⟨rfl, rfl⟩))
        all_goals go_ret
        all_goals exact ⟨rfl, HS.out.g⟩
theorem main {H : Type} {enc : TypeId × Value → H} (v0 v1 : Value) (W : World) (c0 : Flat.Came enc Try.prog W 0 (fun _ => true) true 31 v0) (c1 : Flat.Came enc Try.prog W 0 (fun _ => true) true 70 v1) :
    Calls Try.prog 10 #[v0, v1] W fun e w' => e = .returned (.bool true) ∧ W.grownBy w' none := by
  obtain ⟨pa, l, cap, rfl, hin, hl⟩ := came_bytes c0
  obtain ⟨t, rfl, ht⟩ := c1.int Try.underlying70
  obtain ⟨h0, h1⟩ := bounds_u16 ht
  obtain ⟨k, rfl⟩ := Int.eq_ofNat_of_zero_le h0
  exact walk pa cap l k W (by omega) hin hl (came_cap c0)

theorem own : ownKnob Try.prog.godebug = none := by kernel_rfl
theorem laidOut : laidOutB Try.prog = true := by kernel_rfl

set_option maxRecDepth 100000 in
theorem lifted (os : Os) (started : os.Started) (H : Type) (enc : TypeId × Value → H) :
    ReturnsInHanded {} Try.checked os 10 .any (Rows.ringSlotsSpec.pre6 enc Try.prog Try.f10 Rows.ringSlotsRow.domain false) (Rows.ringSlotsSpec.post enc Try.prog Try.f10 false true false false) := by
  refine returnsInHanded_of_change_sized (C := Try.checked) own started (by kernel_rfl) Try.func10
    (ChangeSpec.witness6 (enc := enc) (C := Try.checked) false ⟨#[], #[.slice none 0 0, .int .u16 0], []⟩ 8 (by kernel_rfl) (by kernel_rfl) (by kernel_rfl) (by kernel_rfl)) ?_
  intro W base args ds gs before hval0 hW _ hsz0 _
  have hsz : (DataW.weightsEach Try.prog (Try.f10.params.toList ++ Rows.ringSlotsSpec.plain.varTypes Try.prog) (ds ++ gs)).all (· ≤ reachBytes) = true := hsz0
  clear hsz0
  have hval : ∀ (j : Nat) t v, Try.f10.params[j]? = some t → args[j]? = some v → Value.okWide Try.prog W .any base t v := hval0
  have hW' := hW
  obtain ⟨p, q, hA0, hV, rfl, hfz, hnd⟩ := hW
  have hA : DataW.TrodAll enc Try.prog W 0 (fun _ => true) true Try.f10.params.toList args.toList ds p := hA0
  rw [Try.params10] at hA hval hsz
  obtain ⟨v0, vs0, d0, ds0, p0, q0, hargs, rfl, rfl, h0, r0⟩ := trodAll_cons hA
  obtain ⟨v1, vs1, d1, ds1, p1, q1, rfl, rfl, rfl, h1, r1⟩ := trodAll_cons r0
  obtain ⟨rfl, rfl, rfl⟩ := trodAll_nil r1
  obtain rfl : args = #[v0, v1] := by cases args; simp_all
  obtain ⟨rfl, rfl⟩ := trodVars_none hV
  obtain ⟨ps0, ln0, cp0, rfl⟩ := okWide_slice Try.underlying31 (hval 0 31 v0 rfl rfl)
  have k0 := h0
  have lt0 : ∀ x ∈ p0, x.block < W.heap.size := by obtain ⟨m, hm⟩ := k0; exact DataW.trod_lt m _ _ _ hm
  have c0 : Flat.Came enc Try.prog W 0 (fun _ => true) true 31 (.slice ps0 ln0 cp0) := by
    obtain ⟨fuel, hf⟩ := h0
    exact ⟨fuel, _, hf, fun n hn => by
      have := List.all_eq_true.1 hsz n (DataW.weights_mem_each (j := 0) rfl rfl n hn)
      simpa using this⟩
  obtain ⟨a1, rfl, rfl, rfl, w1⟩ := open_int Try.underlying70 (hval 1 70 v1 rfl rfl) h1
  have k1 := h1
  have lt1 : ∀ x ∈ ([] : List MemPlace), x.block < W.heap.size := by obtain ⟨m, hm⟩ := k1; exact DataW.trod_lt m _ _ _ hm
  have c1 : Flat.Came enc Try.prog W 0 (fun _ => true) true 70 (.int .u16 a1) := by
    obtain ⟨fuel, hf⟩ := h1
    exact ⟨fuel, _, hf, fun n hn => by
      have := List.all_eq_true.1 hsz n (DataW.weights_mem_each (j := 1) rfl rfl n hn)
      simpa using this⟩
  clear hA0 hval0
  refine (main (.slice ps0 ln0 cp0) (.int .u16 a1) W c0 c1).mono fun e W' ⟨he, hg⟩ => ?_
  subst he
  have bel := below_grown' hg
  simp only [List.append_nil, List.nil_append] at hW'
  exact ⟨_, rfl, _, _, _, [], _, [], hW', trodAll_mk1 (shut_bool Try.underlying4 _), (trodAll_cons_mk (Below.trod laidOut (by kernel_rfl) (of_decide_eq_true (by kernel_rfl)) k0 bel lt0) (trodAll_cons_mk (Below.trod laidOut (by kernel_rfl) (of_decide_eq_true (by kernel_rfl)) k1 bel lt1) trodAll_mk0)), rfl, bel.frame _, fun h => by cases h⟩

theorem proved : Rows.RingSlotsSaid :=
  OpenClaim.holds_of_wide 10 Try.f10 rfl rfl rfl rfl rfl rfl rfl ⟨rfl, rfl, rfl, rfl, rfl⟩ rfl rfl rfl rfl rfl (by kernel_rfl) Try.func10 (by kernel_rfl)
    (of_decide_eq_true (by kernel_rfl)) (by unfold Func.isWrapper; first | (rw [if_pos (by decide +kernel)]; kernel_rfl) | (rw [if_neg (by decide +kernel)]; exact ⟨rfl, rfl⟩))
    (fun os started H enc _ => lifted os started H enc)
#print axioms proved
end Go.Proofs.Ytgnihllnjaagcaa.lawRgSlots
