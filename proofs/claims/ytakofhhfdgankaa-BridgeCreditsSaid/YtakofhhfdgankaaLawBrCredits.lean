/-
  BridgeCredits: for every burst, rate, row of sizes and row of ticks the law returns true, and what was there stays. No condition.
-/
import Derived.Test.YtakofhhfdgankaaBrO
import Derived.Test.YtakofhhfdgankaaOpen
import Derived.Test.YtakofhhfdgankaaLift
import Derived.OpenShut
import Derived.Deep.Cut
set_option linter.unusedSimpArgs false
set_option linter.unusedVariables false
namespace Go.Proofs.Ytakofhhfdgankaa.lawBrCredits
open Go.ChangeShapes Go.WideShapes Go.ChangeAt Go.RowKit Gen Br Bk
set_option maxHeartbeats 4000000

theorem mal_zero (n : Nat) (h2 : 2 ≤ n) (h1 : n ≤ 128) : malF (List.replicate n 0) = false := by
  unfold malF
  have e : ((List.replicate n (0 : UInt8)).getD 1 0).toNat = 0 := by
    simp only [List.getD, List.getElem?_replicate]
    split <;> rfl
  rw [e, List.length_replicate]
  simp <;> omega
set_option maxRecDepth 100000 in
theorem walk (bu ra : Nat) (hbu : bu ≤ 65535) (hra : ra ≤ 65535) (p : Option Addr) (l : List UInt8) (c : Nat) (pt : Option Addr) (t : List Bool) (ct : Nat) (w : World) (hl : BA w p l) (hll : l.length ≤ 140737488351232) (ht : BoA w pt t) :
    Calls Try.prog 8 #[.int .u16 bu, .int .u16 ra, .slice p l.length c, .slice pt t.length ct] w fun e w' => e = .returned (.bool true) ∧ w.grownBy w' none := by
  have HL := hid hl
  have HT := hid ht
  have HLL := hid hll
  have HN := hid (cNew 2 (by omega) (by omega) w)
  clear hl ht hll
  go_enter Try.func8, Try.ntmps8
  go_wp2_with (first
    | (go_at_call 9; refine HN.out.mono ?_; rintro e w1 ⟨b, lab, rfl, h1⟩; have H1 := hid h1; have HR := hid (show Calls Try.prog 22 #[.pointer (some ⟨b, 0, none⟩), .int .i64 0, .int .i64 (bu : Int), .int .i64 (ra : Int)] w1 (fun e w' => e = .returned (.int .i64 0) ∧ Nx w lab w1 b ((Sw.new 2).set 0 { Sd.zero with burst := bu, rate := ra, credit := bu }) 0 w') from by
        have := cRate h1 0 bu ra
        have e1 : (Sw.new 2).rateE 0 bu ra = ((Sw.new 2).set 0 { Sd.zero with burst := bu, rate := ra, credit := bu }, 0) := by
          unfold Sw.rateE
          rw [if_pos (by rfl), if_pos ⟨by simp [isCr] <;> omega, by simp [isCr] <;> omega⟩]
          rfl
        rw [e1] at this
        exact this); clear h1)
    | (go_at_call 22; refine HR.out.mono ?_; rintro e w2 ⟨rfl, lab2, h2, -⟩; have H2 := hid h2; clear h2))
  go_loopw [11, 12] (fun cr i wr => ∃ (j : Nat) (lab : Nat → Nat) (S : Sw), cr = .int .i64 (S.P 0).credit ∧ i = .int .i64 j ∧ j ≤ l.length ∧ BV w lab wr b S j ∧ S.n = 2 ∧ (S.P 0).burst = bu ∧ (S.P 0).rate = ra ∧ (S.P 1).burst = 0) (fun _ i _ => l.length - (intOf i).toNat)
  case atStart => exact ⟨0, lab2, _, rfl, rfl, by omega, H2.out, rfl, rfl, rfl, rfl⟩
  case round =>
    clear H1 HR H2
    obtain ⟨j, lab, S, rfl, rfl, hj, hb, hn, h0b, h0r, h1b⟩ := hrel
    have H := hid hb
    have HC := hid (And.intro hn (And.intro h0b (And.intro h0r h1b)))
    have HLL' := HLL.out
    have hj0 : (0 : Int) ≤ j := by omega
    have hc0 : S.creditE 0 = (S.P 0).credit := S.creditE_at (k := 0) (by omega)
    have hc1 : S.creditE 1 = (S.P 1).credit := S.creditE_at (k := 1) (by omega)
    have hcb1 := (hb.ok.sd 1 (by omega)).cb
    have hcb := (hb.ok.sd 0 (by omega)).cb
    rw [h0b] at hcb
    rw [h1b] at hcb1
    clear hb hn h0b h0r h1b
    by_cases hlt : j < l.length
    · have hlt' : (j : Int) < l.length := by omega
      obtain ⟨lb, lo, rfl⟩ := HL.out.ptr (by omega)
      have cx : wr.cell? ⟨lb, lo + j, none⟩ = some (.int .u8 (l.getD j 0).toNat) := (HL.out.grown H.out.g0).at hlt
      obtain ⟨x, hx⟩ : ∃ x, l.getD j 0 = x := ⟨_, rfl⟩
      rw [hx] at cx
      have hx256 := UInt8.toNat_lt x
      obtain ⟨n, hnx⟩ : ∃ n : Nat, n = 2 + x.toNat % 127 := ⟨_, rfl⟩
      have hn2 : 2 ≤ n := by omega
      have hn1 : n ≤ 128 := by omega
      have hN : (2 : Int) + (x.toNat : Int) % 127 = n := by omega
      obtain ⟨w3, hmk, hown, hg3⟩ := make_z wr n (by omega)
      obtain ⟨pf, cf, epf, hba, -, -⟩ := own_ba (l := List.replicate n 0) (by rw [List.length_replicate]; exact hown)
      rw [List.length_replicate] at epf
      injection epf with e1 e2 e3
      subst e1 e3
      have H3 := hid (H.out.fresh0 hg3)
      have hmal := mal_zero n hn2 hn1
      have HS := hid (cSend H3.out (by omega) 0 (some ⟨wr.heap.size, 0, none⟩) (List.replicate n 0) n hba (fun a e => by cases e; unfold lab0; rw [if_neg (by simp)]; exact not_CP0))
      have es : S.sendE 0 (List.replicate n 0) = S.sendP 0 (List.replicate n 0) := if_pos (Sw.is_mk (k := 0) (by rw [HC.out.1]; omega))
      rw [es, List.length_replicate] at HS
      obtain ⟨S', hS'⟩ : ∃ S', (S.sendP 0 (List.replicate n 0)).1 = S' := ⟨_, rfl⟩
      have hn' : S'.n = 2 := by rw [← hS', Sw.send_n]; exact HC.out.1
      obtain ⟨cr, hcr⟩ : ∃ cr, (S.P 0).credit = cr := ⟨_, rfl⟩
      clear hown hba hg3 hx hnx es
      by_cases hc : cr < n
      · obtain ⟨k1, k2⟩ := S.send_no 0 (List.replicate n 0) hmal (by rw [List.length_replicate, hcr]; exact hc)
        rw [hS'] at HS k2
        rw [k1] at HS
        obtain ⟨hb0, hr0, hk0⟩ := k2 0
        obtain ⟨hb1, -, -⟩ := k2 1
        rw [HC.out.2.1] at hb0
        rw [HC.out.2.2.1] at hr0
        rw [hcr] at hk0
        rw [HC.out.2.2.2] at hb1
        clear k2 k1
        have hc' : (cr : Int) < n := by omega
        have hcn : ¬ ((n : Int) ≤ cr) := by omega
        rw [hcr] at hcb
        go_upto_region 15 with (first
          | (go_at_call 18; refine HS.out.mono ?_; rintro e w4 ⟨rfl, lab4, h4, -⟩; have H4 := hid h4; clear h4))
        have HB' := hid (And.intro hb0 (And.intro hr0 hb1))
        have hcS : S'.creditE 0 = cr := (S'.creditE_at (k := 0) (by rw [hn']; omega)).trans hk0
        by_cases hjt : j < t.length
        · have hjt' : (j : Int) < t.length := by omega
          obtain ⟨tb, to, rfl, ct4⟩ := (HT.out.grown H4.out.g0) j hjt
          obtain ⟨y, hy⟩ : ∃ y, t.getD j false = y := ⟨_, rfl⟩
          rw [hy] at ct4
          clear hy
          cases y with
          | true =>
            have HK := hid (cTick H4.out)
            have hck : S'.tick.creditE 0 = min (cr + ra) bu := by
              refine ((S'.tick).creditE_at (k := 0) (by show 0 < S'.n; rw [hn']; omega)).trans ?_
              show (if 0 < S'.n then (S'.P 0).grow else S'.P 0).credit = _
              rw [if_pos (by rw [hn']; omega)]
              show min ((S'.P 0).credit + (S'.P 0).rate) (S'.P 0).burst = _
              rw [hk0, hb0, hr0]
            have hbk : (S'.tick.P 0).burst = bu ∧ (S'.tick.P 0).rate = ra ∧ (S'.tick.P 1).burst = 0 ∧ (S'.tick.P 0).credit = min (cr + ra) bu := by
              refine ⟨?_, ?_, ?_, ?_⟩
              · show (if 0 < S'.n then (S'.P 0).grow else S'.P 0).burst = _
                rw [if_pos (by rw [hn']; omega)]; exact hb0
              · show (if 0 < S'.n then (S'.P 0).grow else S'.P 0).rate = _
                rw [if_pos (by rw [hn']; omega)]; exact hr0
              · show (if 1 < S'.n then (S'.P 1).grow else S'.P 1).burst = _
                rw [if_pos (by rw [hn']; omega)]; exact hb1
              · show (if 0 < S'.n then (S'.P 0).grow else S'.P 0).credit = _
                rw [if_pos (by rw [hn']; omega)]
                show min ((S'.P 0).credit + (S'.P 0).rate) (S'.P 0).burst = _
                rw [hk0, hb0, hr0]
            have HBK := hid hbk
            clear hbk
            obtain ⟨c2, hc2⟩ : ∃ c2 : Nat, cr + ra = c2 := ⟨_, rfl⟩
            rw [hc2] at hck HBK
            have hc2' : ((cr : Nat) : Int) + ra = c2 := by omega
            have hT := H4.out.ok.T62
            by_cases hle : c2 < bu
            · have em : min c2 bu = c2 := by omega
              rw [em] at hck HBK
              clear hc2 em
              go_wp2_with (first
                | (go_at_call 23; refine HK.out.mono ?_; rintro e w5 ⟨rfl, lab5, h5, -⟩; have H5 := hid h5; have HCr := hid (cCredit h5 0); rw [hck] at HCr; clear h5)
                | (go_at_call 15; refine HCr.out.mono ?_; rintro e w6 ⟨rfl, rfl⟩))
              go_roundw
              case rel => exact ⟨j + 1, lab5, S'.tick, by rw [HBK.out.2.2.2], by go_num, hlt, H5.out, hn', HBK.out.1, HBK.out.2.1, HBK.out.2.2.1⟩
              case measure => simp [intOf]; omega
            · have em : min c2 bu = bu := by omega
              rw [em] at hck HBK
              clear hc2 em
              go_wp2_with (first
                | (go_at_call 23; refine HK.out.mono ?_; rintro e w5 ⟨rfl, lab5, h5, -⟩; have H5 := hid h5; have HCr := hid (cCredit h5 0); rw [hck] at HCr; clear h5)
                | (go_at_call 15; refine HCr.out.mono ?_; rintro e w6 ⟨rfl, rfl⟩))
              go_roundw
              case rel => exact ⟨j + 1, lab5, S'.tick, by rw [HBK.out.2.2.2], by go_num, hlt, H5.out, hn', HBK.out.1, HBK.out.2.1, HBK.out.2.2.1⟩
              case measure => simp [intOf]; omega
          | false =>
            have HCr := hid (cCredit H4.out 0)
            rw [hcS] at HCr
            go_wp2_with (go_at_call 15; refine HCr.out.mono ?_; rintro e w6 ⟨rfl, rfl⟩)
            go_roundw
            case rel => exact ⟨j + 1, lab4, S', by rw [hk0], by go_num, hlt, H4.out, hn', hb0, hr0, hb1⟩
            case measure => simp [intOf]; omega
        · have hjt' : ¬ (j : Int) < t.length := by omega
          have HCr := hid (cCredit H4.out 0)
          rw [hcS] at HCr
          go_wp2_with (go_at_call 15; refine HCr.out.mono ?_; rintro e w6 ⟨rfl, rfl⟩)
          go_roundw
          case rel => exact ⟨j + 1, lab4, S', by rw [hk0], by go_num, hlt, H4.out, hn', hb0, hr0, hb1⟩
          case measure => simp [intOf]; omega
      · obtain ⟨k1, k2⟩ := S.send_yes 0 (List.replicate n 0) hmal (by rw [List.length_replicate, hcr]; exact hc)
        rw [hS'] at HS k2
        rw [k1] at HS
        obtain ⟨hb0, hr0, hk0⟩ := k2 0
        obtain ⟨hb1, -, -⟩ := k2 1
        rw [HC.out.2.1] at hb0
        rw [HC.out.2.2.1] at hr0
        rw [if_pos rfl, hcr, List.length_replicate] at hk0
        rw [HC.out.2.2.2] at hb1
        clear k2 k1
        have hc' : ¬ (cr : Int) < n := by omega
        have hcn : ((n : Int) ≤ cr) := by omega
        rw [hcr] at hcb
        obtain ⟨d, hd⟩ : ∃ d : Nat, cr - n = d := ⟨_, rfl⟩
        rw [hd] at hk0
        have hd' : (cr : Int) - n = d := by omega
        go_upto_region 15 with (first
          | (go_at_call 18; refine HS.out.mono ?_; rintro e w4 ⟨rfl, lab4, h4, -⟩; have H4 := hid h4; clear h4))
        have HB' := hid (And.intro hb0 (And.intro hr0 hb1))
        have hcS : S'.creditE 0 = d := (S'.creditE_at (k := 0) (by rw [hn']; omega)).trans hk0
        by_cases hjt : j < t.length
        · have hjt' : (j : Int) < t.length := by omega
          obtain ⟨tb, to, rfl, ct4⟩ := (HT.out.grown H4.out.g0) j hjt
          obtain ⟨y, hy⟩ : ∃ y, t.getD j false = y := ⟨_, rfl⟩
          rw [hy] at ct4
          clear hy
          cases y with
          | true =>
            have HK := hid (cTick H4.out)
            have hck : S'.tick.creditE 0 = min (d + ra) bu := by
              refine ((S'.tick).creditE_at (k := 0) (by show 0 < S'.n; rw [hn']; omega)).trans ?_
              show (if 0 < S'.n then (S'.P 0).grow else S'.P 0).credit = _
              rw [if_pos (by rw [hn']; omega)]
              show min ((S'.P 0).credit + (S'.P 0).rate) (S'.P 0).burst = _
              rw [hk0, hb0, hr0]
            have hbk : (S'.tick.P 0).burst = bu ∧ (S'.tick.P 0).rate = ra ∧ (S'.tick.P 1).burst = 0 ∧ (S'.tick.P 0).credit = min (d + ra) bu := by
              refine ⟨?_, ?_, ?_, ?_⟩
              · show (if 0 < S'.n then (S'.P 0).grow else S'.P 0).burst = _
                rw [if_pos (by rw [hn']; omega)]; exact hb0
              · show (if 0 < S'.n then (S'.P 0).grow else S'.P 0).rate = _
                rw [if_pos (by rw [hn']; omega)]; exact hr0
              · show (if 1 < S'.n then (S'.P 1).grow else S'.P 1).burst = _
                rw [if_pos (by rw [hn']; omega)]; exact hb1
              · show (if 0 < S'.n then (S'.P 0).grow else S'.P 0).credit = _
                rw [if_pos (by rw [hn']; omega)]
                show min ((S'.P 0).credit + (S'.P 0).rate) (S'.P 0).burst = _
                rw [hk0, hb0, hr0]
            have HBK := hid hbk
            clear hbk
            obtain ⟨c2, hc2⟩ : ∃ c2 : Nat, d + ra = c2 := ⟨_, rfl⟩
            rw [hc2] at hck HBK
            have hc2' : ((d : Nat) : Int) + ra = c2 := by omega
            have hT := H4.out.ok.T62
            by_cases hle : c2 < bu
            · have em : min c2 bu = c2 := by omega
              rw [em] at hck HBK
              clear hc2 em
              go_wp2_with (first
                | (go_at_call 23; refine HK.out.mono ?_; rintro e w5 ⟨rfl, lab5, h5, -⟩; have H5 := hid h5; have HCr := hid (cCredit h5 0); rw [hck] at HCr; clear h5)
                | (go_at_call 15; refine HCr.out.mono ?_; rintro e w6 ⟨rfl, rfl⟩))
              go_roundw
              case rel => exact ⟨j + 1, lab5, S'.tick, by rw [HBK.out.2.2.2], by go_num, hlt, H5.out, hn', HBK.out.1, HBK.out.2.1, HBK.out.2.2.1⟩
              case measure => simp [intOf]; omega
            · have em : min c2 bu = bu := by omega
              rw [em] at hck HBK
              clear hc2 em
              go_wp2_with (first
                | (go_at_call 23; refine HK.out.mono ?_; rintro e w5 ⟨rfl, lab5, h5, -⟩; have H5 := hid h5; have HCr := hid (cCredit h5 0); rw [hck] at HCr; clear h5)
                | (go_at_call 15; refine HCr.out.mono ?_; rintro e w6 ⟨rfl, rfl⟩))
              go_roundw
              case rel => exact ⟨j + 1, lab5, S'.tick, by rw [HBK.out.2.2.2], by go_num, hlt, H5.out, hn', HBK.out.1, HBK.out.2.1, HBK.out.2.2.1⟩
              case measure => simp [intOf]; omega
          | false =>
            have HCr := hid (cCredit H4.out 0)
            rw [hcS] at HCr
            go_wp2_with (go_at_call 15; refine HCr.out.mono ?_; rintro e w6 ⟨rfl, rfl⟩)
            go_roundw
            case rel => exact ⟨j + 1, lab4, S', by rw [hk0], by go_num, hlt, H4.out, hn', hb0, hr0, hb1⟩
            case measure => simp [intOf]; omega
        · have hjt' : ¬ (j : Int) < t.length := by omega
          have HCr := hid (cCredit H4.out 0)
          rw [hcS] at HCr
          go_wp2_with (go_at_call 15; refine HCr.out.mono ?_; rintro e w6 ⟨rfl, rfl⟩)
          go_roundw
          case rel => exact ⟨j + 1, lab4, S', by rw [hk0], by go_num, hlt, H4.out, hn', hb0, hr0, hb1⟩
          case measure => simp [intOf]; omega
    · obtain rfl : j = l.length := by omega
      have hge : ¬ ((l.length : Int) < l.length) := by omega
      have HC0 := hid (cCredit H.out 0)
      have HC1 := hid (cCredit H.out 1)
      rw [hc0] at HC0
      have hz : (S.P 1).credit = 0 := by omega
      rw [hc1, hz] at HC1
      have HRt := hid (cRate H.out 0 65536 65537)
      have er : S.rateE 0 65536 65537 = (S, 1) := by
        unfold Sw.rateE
        have hi : S.is 0 = true := Sw.is_mk (k := 0) (by rw [HC.out.1]; omega)
        rw [if_pos hi, if_neg (by simp [isCr])]
      rw [er] at HRt
      clear er hz
      go_wp2_with (first
        | (go_at_call 15; (with_reducible refine HC0.out.mono ?_); rintro e w6 ⟨rfl, rfl⟩)
        | (go_at_call 15; (with_reducible refine HC1.out.mono ?_); rintro e w6 ⟨rfl, rfl⟩)
        | (go_at_call 22; refine HRt.out.mono ?_; rintro e w7 ⟨rfl, lab7, h7, -⟩; have H7 := hid h7; clear h7))
      go_ret
      exact ⟨rfl, H7.out.g0⟩
theorem main {H : Type} {enc : TypeId × Value → H} (v0 v1 v2 v3 : Value) (W : World) (c0 : Flat.Came enc Try.prog W 0 (fun _ => true) true 63 v0) (c1 : Flat.Came enc Try.prog W 0 (fun _ => true) true 63 v1) (c2 : Flat.Came enc Try.prog W 0 (fun _ => true) true 31 v2) (c3 : Flat.Came enc Try.prog W 0 (fun _ => true) true 64 v3) :
    Calls Try.prog 8 #[v0, v1, v2, v3] W fun e w' => e = .returned (.bool true) ∧ W.grownBy w' none := by
  obtain ⟨a, rfl, ha⟩ := c0.int Try.underlying63
  obtain ⟨b, rfl, hb⟩ := c1.int Try.underlying63
  obtain ⟨p, l, c, rfl, hl, hll, -, -⟩ := came_bytes c2
  obtain ⟨pt, t, ct, rfl, ht, -⟩ := came_bools c3
  have ha := bounds_u16 ha
  have hb := bounds_u16 hb
  have := walk a.toNat b.toNat (by omega) (by omega) p l c pt t ct W hl hll ht
  rw [Int.toNat_of_nonneg ha.1, Int.toNat_of_nonneg hb.1] at this
  exact this

theorem own : ownKnob Try.prog.godebug = none := by kernel_rfl
theorem laidOut : laidOutB Try.prog = true := by kernel_rfl

set_option maxRecDepth 100000 in
theorem lifted (os : Os) (started : os.Started) (H : Type) (enc : TypeId × Value → H) :
    ReturnsInHanded {} Try.checked os 8 .any (Rows.bridgeCreditsSpec.pre6 enc Try.prog Try.f8 Rows.bridgeCreditsRow.domain false) (Rows.bridgeCreditsSpec.post enc Try.prog Try.f8 false true false false) := by
  refine returnsInHanded_of_change_sized (C := Try.checked) own started (by kernel_rfl) Try.func8
    (ChangeSpec.witness6 (enc := enc) (C := Try.checked) false ⟨#[], #[.int .u16 0, .int .u16 0, .slice none 0 0, .slice none 0 0], []⟩ 8 (by kernel_rfl) (by kernel_rfl) (by kernel_rfl) (by kernel_rfl)) ?_
  intro W base args ds gs before hval0 hW _ hsz0 _
  have hsz : (DataW.weightsEach Try.prog (Try.f8.params.toList ++ Rows.bridgeCreditsSpec.plain.varTypes Try.prog) (ds ++ gs)).all (· ≤ reachBytes) = true := hsz0
  clear hsz0
  have hval : ∀ (j : Nat) t v, Try.f8.params[j]? = some t → args[j]? = some v → Value.okWide Try.prog W .any base t v := hval0
  have hW' := hW
  obtain ⟨p, q, hA0, hV, rfl, hfz, hnd⟩ := hW
  have hA : DataW.TrodAll enc Try.prog W 0 (fun _ => true) true Try.f8.params.toList args.toList ds p := hA0
  rw [Try.params8] at hA hval hsz
  obtain ⟨v0, vs0, d0, ds0, p0, q0, hargs, rfl, rfl, h0, r0⟩ := trodAll_cons hA
  obtain ⟨v1, vs1, d1, ds1, p1, q1, rfl, rfl, rfl, h1, r1⟩ := trodAll_cons r0
  obtain ⟨v2, vs2, d2, ds2, p2, q2, rfl, rfl, rfl, h2, r2⟩ := trodAll_cons r1
  obtain ⟨v3, vs3, d3, ds3, p3, q3, rfl, rfl, rfl, h3, r3⟩ := trodAll_cons r2
  obtain ⟨rfl, rfl, rfl⟩ := trodAll_nil r3
  obtain rfl : args = #[v0, v1, v2, v3] := by cases args; simp_all
  obtain ⟨rfl, rfl⟩ := trodVars_none hV
  obtain ⟨a0, rfl, rfl, rfl, w0⟩ := open_int Try.underlying63 (hval 0 63 v0 rfl rfl) h0
  have k0 := h0
  have lt0 : ∀ x ∈ ([] : List MemPlace), x.block < W.heap.size := by obtain ⟨m, hm⟩ := k0; exact DataW.trod_lt m _ _ _ hm
  have c0 : Flat.Came enc Try.prog W 0 (fun _ => true) true 63 (.int .u16 a0) := by
    obtain ⟨fuel, hf⟩ := h0
    exact ⟨fuel, _, hf, fun n hn => by
      have := List.all_eq_true.1 hsz n (DataW.weights_mem_each (j := 0) rfl rfl n hn)
      simpa using this⟩
  obtain ⟨a1, rfl, rfl, rfl, w1⟩ := open_int Try.underlying63 (hval 1 63 v1 rfl rfl) h1
  have k1 := h1
  have lt1 : ∀ x ∈ ([] : List MemPlace), x.block < W.heap.size := by obtain ⟨m, hm⟩ := k1; exact DataW.trod_lt m _ _ _ hm
  have c1 : Flat.Came enc Try.prog W 0 (fun _ => true) true 63 (.int .u16 a1) := by
    obtain ⟨fuel, hf⟩ := h1
    exact ⟨fuel, _, hf, fun n hn => by
      have := List.all_eq_true.1 hsz n (DataW.weights_mem_each (j := 1) rfl rfl n hn)
      simpa using this⟩
  obtain ⟨ps2, ln2, cp2, rfl⟩ := okWide_slice Try.underlying31 (hval 2 31 v2 rfl rfl)
  have k2 := h2
  have lt2 : ∀ x ∈ p2, x.block < W.heap.size := by obtain ⟨m, hm⟩ := k2; exact DataW.trod_lt m _ _ _ hm
  have c2 : Flat.Came enc Try.prog W 0 (fun _ => true) true 31 (.slice ps2 ln2 cp2) := by
    obtain ⟨fuel, hf⟩ := h2
    exact ⟨fuel, _, hf, fun n hn => by
      have := List.all_eq_true.1 hsz n (DataW.weights_mem_each (j := 2) rfl rfl n hn)
      simpa using this⟩
  obtain ⟨ps3, ln3, cp3, rfl⟩ := okWide_slice Try.underlying64 (hval 3 64 v3 rfl rfl)
  have k3 := h3
  have lt3 : ∀ x ∈ p3, x.block < W.heap.size := by obtain ⟨m, hm⟩ := k3; exact DataW.trod_lt m _ _ _ hm
  have c3 : Flat.Came enc Try.prog W 0 (fun _ => true) true 64 (.slice ps3 ln3 cp3) := by
    obtain ⟨fuel, hf⟩ := h3
    exact ⟨fuel, _, hf, fun n hn => by
      have := List.all_eq_true.1 hsz n (DataW.weights_mem_each (j := 3) rfl rfl n hn)
      simpa using this⟩
  clear hA0 hval0
  refine (main (.int .u16 a0) (.int .u16 a1) (.slice ps2 ln2 cp2) (.slice ps3 ln3 cp3) W c0 c1 c2 c3).mono fun e W' ⟨he, hg⟩ => ?_
  subst he
  have bel := below_grown' hg
  simp only [List.append_nil, List.nil_append] at hW'
  exact ⟨_, rfl, _, _, _, [], _, [], hW', trodAll_mk1 (shut_bool Try.underlying4 _), (trodAll_cons_mk (Below.trod laidOut (by kernel_rfl) (of_decide_eq_true (by kernel_rfl)) k0 bel lt0) (trodAll_cons_mk (Below.trod laidOut (by kernel_rfl) (of_decide_eq_true (by kernel_rfl)) k1 bel lt1) (trodAll_cons_mk (Below.trod laidOut (by kernel_rfl) (of_decide_eq_true (by kernel_rfl)) k2 bel lt2) (trodAll_cons_mk (Below.trod laidOut (by kernel_rfl) (of_decide_eq_true (by kernel_rfl)) k3 bel lt3) trodAll_mk0)))), rfl, bel.frame _, fun h => by cases h⟩

theorem proved : Rows.BridgeCreditsSaid :=
  OpenClaim.holds_of_wide 8 Try.f8 rfl rfl rfl rfl rfl rfl rfl ⟨rfl, rfl, rfl, rfl, rfl⟩ rfl rfl rfl rfl rfl (by kernel_rfl) Try.func8 (by kernel_rfl)
    (of_decide_eq_true (by kernel_rfl)) (by unfold Func.isWrapper; first | (rw [if_pos (by decide +kernel)]; kernel_rfl) | (rw [if_neg (by decide +kernel)]; exact ⟨rfl, rfl⟩))
    (fun os started H enc _ => lifted os started H enc)
#print axioms proved
end Go.Proofs.Ytakofhhfdgankaa.lawBrCredits
