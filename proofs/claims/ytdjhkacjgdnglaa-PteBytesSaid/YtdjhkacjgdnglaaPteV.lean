/-
  Package pte: Store.
-/
import Derived.Test.YtdjhkacjgdnglaaPteU
import Derived.StillTailTactics
namespace Go.Proofs.Ytdjhkacjgdnglaa
open Go.RowKit
set_option maxHeartbeats 2000000

/-- a slice of bytes, apart from a block, with its room -/
def SB (w : World) (B : Nat) (v : Value) (l : List UInt8) : Prop := ∃ p c, v = .slice p l.length c ∧ l.length ≤ c ∧ (l ≠ [] → ∃ b o, p = some ⟨b, o, none⟩ ∧ b ≠ B ∧ b < w.heap.size ∧ ∀ k, k < l.length → w.cell? ⟨b, o + k, none⟩ = some (.int .u8 (l.getD k 0).toNat))
theorem grown_any {w w' : World} {row : Option Nat} (h : w.grownBy w' none) : w.grownBy w' row := ⟨h.os, h.tape, h.output, h.size, fun k hk _ => h.block k hk (by simp)⟩
theorem grown_anyl {w w1 w2 : World} {row : Option Nat} (h : w.grownBy w1 none) (h2 : w1.grownBy w2 row) : w.grownBy w2 row := (grown_any h).trans h2
theorem grown_size {w w' : World} {row : Option Nat} (h : w.grownBy w' row) : Below 0 w w' := ⟨h.os, h.tape, h.output, h.size, fun k hk => absurd hk (by omega)⟩
theorem Mach.write_n' (M : Mach) (i off : Int) (b : List UInt8) : (M.write i off b).2.n = M.n := by unfold Mach.write; (repeat' split) <;> rfl
theorem SB.grown {w w' : World} {B : Nat} {v : Value} {l : List UInt8} (h : SB w B v l) (hg : w.grownBy w' (some B)) : SB w' B v l := by
  obtain ⟨p, c, e, hc, hx⟩ := h
  refine ⟨p, c, e, hc, fun hl => ?_⟩
  obtain ⟨b, o, e, hb, hlt, hk⟩ := hx hl
  exact ⟨b, o, e, hb, Nat.lt_of_lt_of_le hlt hg.size, fun k hk' => hg.cell (hk k hk') (by simp; exact hb)⟩
theorem IsBytes.mk' {w : World} {B b o c : Nat} {l : List UInt8} (hb : b ≠ B) (h : ∀ k, k < l.length → w.cell? ⟨b, o + k, none⟩ = some (.int .u8 (l.getD k 0).toNat)) (n : Nat) (hn : l.length = n) : IsBytes w B (.slice (some ⟨b, o, none⟩) n c) l := by
  subst hn
  refine .inr ⟨_, _, rfl, hb, fun k x hx => ?_⟩
  obtain ⟨hk, rfl⟩ := List.getElem?_eq_some_iff.1 hx
  have e : (⟨b, o, none⟩ : Addr).add k = ⟨b, o + k, none⟩ := by unfold Addr.add; split <;> simp_all
  rw [e, h k hk]
  simp [List.getD, List.getElem?_eq_getElem hk]
theorem getD_take {l : List UInt8} {n k : Nat} (h : k < n) : (l.take n).getD k 0 = l.getD k 0 := by simp [List.getD, List.getElem?_take, h]
theorem getD_drop {l : List UInt8} {n k : Nat} : (l.drop n).getD k 0 = l.getD (n + k) 0 := by simp [List.getD, List.getElem?_drop]
set_option maxRecDepth 100000 in
theorem ptStore (b : Nat) (r : Int) (va : Nat) (v : Value) (l : List UInt8) (w : World) (M : Mach) (T : Int) (hM : PM w b M) (hok : M.ok T) (hv : va < 4294967296) (hl : SB w b v l) (hmax : l.length ≤ 9223372036854775807) : Calls Try.prog 31 #[.pointer (some ⟨b, 0, none⟩), .int .i64 r, .int .u32 va, v] w (Left b w (M.storeV r va l).1 (M.storeV r va l).2) := by
  have HR := hid (ptRuns b r va l.length true w M T hM hok hv)
  have HK := hid (M.runsV_ok r va l.length true)
  have HNil := hid (M.runsV_nil r va l.length true)
  have HSum := hid (M.runsV_sum r va l.length true)
  unfold Mach.storeV
  generalize M.runsV r va l.length true = z at *
  obtain ⟨rs, c⟩ := z
  simp only at HK HNil HSum ⊢
  have HM := hid hM
  have HO := hid hok
  have HL := hid hl
  have HX := hid hmax
  obtain ⟨p0, c0, rfl, _, _⟩ := hl
  clear hM hok hv hmax
  by_cases hc : c = 0
  · subst hc
    go_enter Try.func31, Try.ntmps31
    go_wp2_with (go_at_call 72; refine HR.out.mono ?_; rintro e w1 ⟨v, rfl, ⟨p, cp, rfl, hrs⟩, hg⟩; have HRs := hid (show RunsAt w.heap.size w1 (.slice p rs.length cp) rs from ⟨p, cp, rfl, hrs⟩); have HG := hid hg; have HM1 := hid (HM.out.grown hg (by simp)); have HL1 := hid (HL.out.grown (grown_any hg)); clear hg hrs)
    have hlen : rs.length ≤ 2 := HK.out.1
    go_loopw [3, 27] (fun v i wr => ∃ (k : Nat) (M' : Mach) (l' : List UInt8), k ≤ rs.length ∧ i = .int .i64 k ∧ SB wr b v l' ∧ PM wr b M' ∧ M'.ok T ∧ M'.n = M.n ∧ M'.layV (rs.drop k) l' = M.layV rs l ∧ ((rs.drop k).map Run.n).sum = l'.length ∧ l'.length ≤ 9223372036854775807 ∧ w1.grownBy wr (some b)) (fun _ i _ => rs.length - (intOf i).toNat)
    case atStart => exact ⟨0, M, l, Nat.zero_le _, rfl, HL1.out, HM1.out, HO.out, rfl, rfl, HSum.out trivial, HX.out, World.grownBy.refl _ _⟩
    case round =>
      obtain ⟨k, M', l', hk, rfl, hsb, hpm, hok', hn', hlay, hsum, hl', hg⟩ := hrel
      have HGr := hid hg
      have HPm := hid hpm; have HOk := hid hok'
      by_cases hlt : k < rs.length
      · have hlt' : (k : Int) < rs.length := by omega
        obtain ⟨g, e1, hlo, hgl, d0, d1, d2⟩ := (show ∃ g, p = some ⟨g, 0, none⟩ ∧ w.heap.size ≤ g ∧ g < wr.heap.size ∧ wr.cell? ⟨g, k * 3, none⟩ = some (.int .i64 rs[k].m) ∧ wr.cell? ⟨g, k * 3 + 1, none⟩ = some (.int .i64 rs[k].o) ∧ wr.cell? ⟨g, k * 3 + 2, none⟩ = some (.int .i64 rs[k].n) by
          obtain ⟨p', c', e', hh⟩ := HRs.out.grown hg (fun j hj => by cases hj; exact HM.out.lt)
          cases e'
          exact hh k hlt)
        have hq := HK.out.2 rs[k] (List.getElem_mem hlt)
        rw [List.drop_eq_getElem_cons hlt] at hlay hsum
        generalize rs[k] = q at *
        obtain ⟨m, o, nn⟩ := q
        simp only [List.map_cons, List.sum_cons] at d0 d1 d2 hq hlay hsum
        subst e1
        obtain ⟨q1, q2, q3⟩ := hq
        have hge : nn ≤ l'.length := by omega
        obtain ⟨p2, c2, rfl, hc2, hx⟩ := hsb
        obtain ⟨sb, so, rfl, hsb, hsl, hcell⟩ := hx (fun e => by rw [e] at hge; simp at hge; omega)
        have HW := hid (fun (W : World) (hg : wr.grownBy W none) (hM : PM W b M') => Write_any b m o (.slice (some ⟨sb, so, none⟩) nn c2) (l'.take nn) W M' T hM hok' (by omega)
          (IsBytes.mk' hsb (fun j hj => by rw [List.length_take] at hj; rw [getD_take (by omega)]; exact hg.cell (hcell j (by omega)) (by simp)) nn (by rw [List.length_take]; omega)) (by rw [List.length_take]; omega))
        have HLay := hid hlay; have HSm := hid hsum; have HCell := hid hcell; have HN' := hid hn'
        have hsb' := hid hsb
        have hmx : (l'.length : Int) ≤ 9223372036854775807 := by omega
        have hge' : (nn : Int) ≤ l'.length := by omega
        have hc2' : (l'.length : Int) ≤ c2 := by omega
        have hnc : (nn : Int) ≤ c2 := by omega
        clear hpm hok' hlay hsum hcell hg hn' q1 hsb
        by_cases hcn : c2 = nn
        · have HCN := hid hcn
          clear hcn
          go_wp2_with fail
          obtain ⟨W1, hW⟩ : ∃ W, wr.alloc (Obj.cells #[Value.int .i64 m, Value.int .i64 o, Value.int .i64 nn] 131) = W := ⟨_, rfl⟩
          rw [hW]
          have hg1 : wr.grownBy W1 none := hW ▸ World.grownBy_alloc _ _ _
          have HP1 := hid (show PM W1 b M' from hW ▸ HPm.out.alloc _)
          have x0 : W1.cell? ⟨wr.heap.size, 0, none⟩ = some (.int .i64 m) := by rw [← hW]; simp [go_sem]
          have x1 : W1.cell? ⟨wr.heap.size, 1, none⟩ = some (.int .i64 o) := by rw [← hW]; simp [go_sem]
          have x2 : W1.cell? ⟨wr.heap.size, 2, none⟩ = some (.int .i64 nn) := by rw [← hW]; simp [go_sem]
          have HG1 := hid hg1
          have HCell1 := hid (fun k (hk : k < l'.length) => hg1.cell (HCell.out k hk) (by simp))
          have hbW := hid (show sb < W1.heap.size from Nat.lt_of_lt_of_le hsl hg1.size)
          clear hW hg1
          go_still_tail 9, (by kernel_rfl)
          change wpList _ _ _ _ _ W1.drew
          go_wp2_with (go_at_call 18; (with_reducible refine (HW.out _ (HG1.out.trans (grownBy_drew _ _)) HP1.out.drew).mono ?_); rintro e w3 ⟨rfl, h3, g3⟩; have HM3 := hid h3; have HG3 := hid (HGr.out.trans ((grown_any HG1.out).trans ((grownBy_drew _ _).trans g3))); have e2 := g3.cell (a := ⟨wr.heap.size, 2, none⟩) (v := .int .i64 nn) x2 (by simp; have := HPm.out.lt; omega); have HS3 := hid (fun k (hk : k < l'.length) => g3.cell (a := ⟨sb, so + k, none⟩) (HCell1.out k hk) (by simp; exact hsb'.out)); have hz3 := hid (Nat.lt_of_lt_of_le hbW.out g3.size); clear h3 g3; have hcn := HCN.out)
          go_roundw
          case rel =>
            refine ⟨k + 1, (M'.write m o (l'.take nn)).2, l'.drop nn, hlt, by go_num, ?_, HM3.out, Mach.write_ok HOk.out _ _ _, (Mach.write_n' _ _ _ _).trans HN'.out, HLay.out, by rw [List.length_drop]; have := HSm.out; omega, by rw [List.length_drop]; omega, HG3.out⟩
            refine ⟨_, _, by rw [List.length_drop], by rw [List.length_drop]; omega, fun h => absurd (List.drop_eq_nil_of_le (by omega)) h⟩
          case measure => simp [intOf]; omega
        · go_wp2_with fail
          obtain ⟨W1, hW⟩ : ∃ W, wr.alloc (Obj.cells #[Value.int .i64 m, Value.int .i64 o, Value.int .i64 nn] 131) = W := ⟨_, rfl⟩
          rw [hW]
          have hg1 : wr.grownBy W1 none := hW ▸ World.grownBy_alloc _ _ _
          have HP1 := hid (show PM W1 b M' from hW ▸ HPm.out.alloc _)
          have x0 : W1.cell? ⟨wr.heap.size, 0, none⟩ = some (.int .i64 m) := by rw [← hW]; simp [go_sem]
          have x1 : W1.cell? ⟨wr.heap.size, 1, none⟩ = some (.int .i64 o) := by rw [← hW]; simp [go_sem]
          have x2 : W1.cell? ⟨wr.heap.size, 2, none⟩ = some (.int .i64 nn) := by rw [← hW]; simp [go_sem]
          have HG1 := hid hg1
          have HCell1 := hid (fun k (hk : k < l'.length) => hg1.cell (HCell.out k hk) (by simp))
          have hbW := hid (show sb < W1.heap.size from Nat.lt_of_lt_of_le hsl hg1.size)
          clear hW hg1
          go_still_tail 9, (by kernel_rfl)
          change wpList _ _ _ _ _ W1.drew
          go_wp2_with (go_at_call 18; (with_reducible refine (HW.out _ (HG1.out.trans (grownBy_drew _ _)) HP1.out.drew).mono ?_); rintro e w3 ⟨rfl, h3, g3⟩; have HM3 := hid h3; have HG3 := hid (HGr.out.trans ((grown_any HG1.out).trans ((grownBy_drew _ _).trans g3))); have e2 := g3.cell (a := ⟨wr.heap.size, 2, none⟩) (v := .int .i64 nn) x2 (by simp; have := HPm.out.lt; omega); have HS3 := hid (fun k (hk : k < l'.length) => g3.cell (a := ⟨sb, so + k, none⟩) (HCell1.out k hk) (by simp; exact hsb'.out)); have hz3 := hid (Nat.lt_of_lt_of_le hbW.out g3.size); clear h3 g3)
          go_roundw
          case rel =>
            refine ⟨k + 1, (M'.write m o (l'.take nn)).2, l'.drop nn, hlt, by go_num, ?_, HM3.out, Mach.write_ok HOk.out _ _ _, (Mach.write_n' _ _ _ _).trans HN'.out, HLay.out, by rw [List.length_drop]; have := HSm.out; omega, by rw [List.length_drop]; omega, HG3.out⟩
            refine ⟨_, _, by rw [List.length_drop], by rw [List.length_drop]; omega, fun h => ⟨sb, so + nn, rfl, hsb'.out, hz3.out, fun j hj => by rw [List.length_drop] at hj; rw [getD_drop, Nat.add_assoc]; exact HS3.out (nn + j) (by omega)⟩⟩
          case measure => simp [intOf]; omega
      · obtain rfl : k = rs.length := by omega
        have hge : ¬ (rs.length : Int) < rs.length := by omega
        rw [List.drop_length] at hlay
        simp only [Mach.layV] at hlay
        subst hlay
        clear hlt hsum hsb
        go_wp2
        go_ret
        exact ⟨rfl, HPm.out, grown_anyl HG.out HGr.out⟩
  · have hc' : (c != 0) = true := by simpa using hc
    have HC := hid hc
    clear hc
    go_enter Try.func31, Try.ntmps31
    go_wp2_with (go_at_call 72; refine HR.out.mono ?_; rintro e w1 ⟨v, rfl, ⟨p, cp, rfl, hrs⟩, hg⟩; have HG := hid hg; clear hg hrs)
    go_ret
    obtain rfl := HNil.out HC.out
    exact ⟨rfl, HM.out.grown HG.out (by simp), grown_any HG.out⟩
end Go.Proofs.Ytdjhkacjgdnglaa
