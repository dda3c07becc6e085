/-
  Package pte: runs, whole; Fetch.
-/
import Derived.Test.YtdjhkacjgdnglaaPteR
import Derived.Test.YtdjhkacjgdnglaaRefH
namespace Go.Proofs.Ytdjhkacjgdnglaa
open Go.RowKit
set_option maxHeartbeats 2000000

theorem ptRuns (b : Nat) (r : Int) (va : Nat) (n : Int) (x : Bool) (w : World) (M : Mach) (T : Int) (hM : PM w b M) (hok : M.ok T) (hv : va < 4294967296) : Calls Try.prog 72 #[.pointer (some ⟨b, 0, none⟩), .int .i64 r, .int .u32 va, .int .i64 n, .bool x] w (RunsLeft w (M.runsV r va n x)) := by
  unfold Mach.runsV
  by_cases h0 : n = 0
  · subst h0; rw [if_pos rfl]; exact runs_none b r va x w M hM hok.n1
  rw [if_neg h0]
  by_cases hb : badR va n
  · rw [if_pos hb]; exact runs_bad b r va n x w M hM hok.n1 hv h0 hb
  rw [if_neg hb]
  unfold badR at hb
  obtain ⟨k, rfl⟩ : ∃ k : Nat, n = k := ⟨n.toNat, by omega⟩
  unfold runsOf
  simp only [Int.toNat_natCast]
  by_cases h1 : (M.pageV r (va / 256) x).2 ≠ 0
  · rw [if_pos h1]; exact runs_e1 b r va k x w M T hM hok (by omega) (by omega) (by omega) _ rfl h1
  rw [if_neg h1]
  have h1' : (M.pageV r (va / 256) x).2 = 0 := Classical.byContradiction h1
  have i1 := Mach.is_iff.1 (M.page_is r _ x h1')
  have e1 : M.pageV r (va / 256) x = (((M.pageV r (va / 256) x).1.toNat : Int), 0) := Prod.ext (by simp only; omega) h1'
  by_cases h2 : k ≤ 256 - va % 256
  · rw [if_pos h2]; exact runs_one b r va k x w M T hM hok (by omega) (by omega) _ e1 h2
  rw [if_neg h2]
  by_cases h3 : (M.pageV r (va / 256 + 1) x).2 ≠ 0
  · rw [if_pos h3]; exact runs_e2 b r va k x w M T hM hok (by omega) (by omega) _ e1 (by omega) _ rfl h3
  · rw [if_neg h3]
    have h3' : (M.pageV r (va / 256 + 1) x).2 = 0 := Classical.byContradiction h3
    have i3 := Mach.is_iff.1 (M.page_is r _ x h3')
    have e3 : M.pageV r (va / 256 + 1) x = (((M.pageV r (va / 256 + 1) x).1.toNat : Int), 0) := Prod.ext (by simp only; omega) h3'
    exact runs_two b r va k x w M T hM hok (by omega) (by omega) _ e1 (by omega) _ e3
/-- runs that lie in frames of the machine -/
def RunsOk (M : Mach) (rs : List Run) : Prop := rs.length ≤ 2 ∧ ∀ r ∈ rs, (r.m : Int) < M.n ∧ r.o + r.n ≤ 256 ∧ 0 < r.n
theorem Mach.runsV_ok (M : Mach) (r : Int) (va : Nat) (n : Int) (x : Bool) : RunsOk M (M.runsV r va n x).1 := by
  unfold Mach.runsV
  split
  · exact ⟨Nat.zero_le _, fun _ h => by simp at h⟩
  split
  · exact ⟨Nat.zero_le _, fun _ h => by simp at h⟩
  rename_i h0 hb
  unfold badR at hb
  unfold runsOf
  split
  · exact ⟨Nat.zero_le _, fun _ h => by simp at h⟩
  rename_i h1
  have i1 := Mach.is_iff.1 (M.page_is r _ x (Classical.byContradiction h1))
  split
  · refine ⟨Nat.le_succ 1, fun q hq => ?_⟩
    simp only [List.mem_singleton] at hq
    subst hq
    refine ⟨?_, ?_, ?_⟩ <;> (simp only; omega)
  rename_i h2
  split
  · exact ⟨Nat.zero_le _, fun _ h => by simp at h⟩
  rename_i h3
  have i3 := Mach.is_iff.1 (M.page_is r _ x (Classical.byContradiction h3))
  refine ⟨Nat.le_refl 2, fun q hq => ?_⟩
  simp only [List.mem_cons, List.not_mem_nil, or_false] at hq
  rcases hq with rfl | rfl
  · refine ⟨?_, ?_, ?_⟩ <;> (simp only; omega)
  · refine ⟨?_, ?_, ?_⟩ <;> (simp only; omega)
theorem Mach.runsV_nil (M : Mach) (r : Int) (va : Nat) (n : Int) (x : Bool) (h : (M.runsV r va n x).2 ≠ 0) : (M.runsV r va n x).1 = [] := by
  unfold Mach.runsV at h ⊢
  by_cases h0 : n = 0
  · rw [if_pos h0] at h; exact absurd rfl h
  rw [if_neg h0] at h ⊢
  by_cases hb : badR va n
  · rw [if_pos hb]
  rw [if_neg hb] at h ⊢
  unfold runsOf at h ⊢
  by_cases h1 : (M.pageV r (va / 256) x).2 ≠ 0
  · rw [if_pos h1]
  rw [if_neg h1] at h ⊢
  by_cases h2 : n.toNat ≤ 256 - va % 256
  · rw [if_pos h2] at h; exact absurd rfl h
  rw [if_neg h2] at h ⊢
  by_cases h3 : (M.pageV r (va / 256 + 1) x).2 ≠ 0
  · rw [if_pos h3]
  · rw [if_neg h3] at h; exact absurd rfl h
theorem Mach.runsV_sum (M : Mach) (r : Int) (va : Nat) (n : Nat) (x : Bool) (h : (M.runsV r va n x).2 = 0) : ((M.runsV r va n x).1.map Run.n).sum = n := by
  unfold Mach.runsV at h ⊢
  by_cases h0 : (n : Int) = 0
  · rw [if_pos h0]; have : n = 0 := by omega
    subst this; rfl
  rw [if_neg h0] at h ⊢
  by_cases hb : badR va n
  · rw [if_pos hb] at h; cases h
  rw [if_neg hb] at h ⊢
  unfold badR at hb
  unfold runsOf at h ⊢
  simp only [Int.toNat_natCast] at h ⊢
  by_cases h1 : (M.pageV r (va / 256) x).2 ≠ 0
  · rw [if_pos h1] at h; exact absurd h h1
  rw [if_neg h1] at h ⊢
  by_cases h2 : n ≤ 256 - va % 256
  · rw [if_pos h2]; simp
  rw [if_neg h2] at h ⊢
  by_cases h3 : (M.pageV r (va / 256 + 1) x).2 ≠ 0
  · rw [if_pos h3] at h; exact absurd h h3
  · rw [if_neg h3]; simp; omega
theorem RunsAt.grown {lo : Nat} {w w' : World} {v : Value} {rs : List Run} {row : Option Nat} (h : RunsAt lo w v rs) (hg : w.grownBy w' row) (hr : ∀ j, row = some j → j < lo) : RunsAt lo w' v rs := by
  obtain ⟨p, c, e, hc⟩ := h
  refine ⟨p, c, e, fun j hj => ?_⟩
  obtain ⟨g, e1, hlo, hlt, h0, h1, h2⟩ := hc j hj
  have hne : some g ≠ row := fun e => by have := hr g e.symm; omega
  exact ⟨g, e1, hlo, Nat.lt_of_lt_of_le hlt hg.size, hg.cell h0 hne, hg.cell h1 hne, hg.cell h2 hne⟩
theorem Mach.bytesOf_snoc (M : Mach) (rs : List Run) (k : Nat) (h : k < rs.length) : M.bytesOf (rs.take (k + 1)) = M.bytesOf (rs.take k) ++ (M.fr rs[k].m).part rs[k].o rs[k].n := by
  unfold Mach.bytesOf
  rw [List.take_succ_eq_append_getElem h, List.flatMap_append]
  simp
theorem Mach.bytesOf_le {M : Mach} {rs : List Run} (h : ∀ r ∈ rs, r.o + r.n ≤ 256) : (M.bytesOf rs).length ≤ 256 * rs.length := by
  induction rs with
  | nil => simp [Mach.bytesOf]
  | cons r rs ih =>
    have i := ih fun q hq => h q (List.mem_cons_of_mem _ hq)
    have hr := h r (List.mem_cons_self ..)
    unfold Mach.bytesOf at i ⊢
    rw [List.flatMap_cons, List.length_append, part_len, List.length_cons]
    omega
theorem bcells_append (l m : List UInt8) : bcells (l ++ m) = bcells l ++ bcells m := by unfold bcells; simp
theorem new_cells {w : World} {g n : Nat} {l : List UInt8} (h : ∀ k, k < n → w.cell? ⟨g, k, none⟩ = some (.int .u8 (l.getD k 0).toNat)) (hn : l.length ≤ n := by simp [part_len]) : ∀ j u, (bcells l)[j]? = some u → w.cell? ((⟨g, 0, none⟩ : Addr).add j) = some u := fun j u hu => by
  rw [bcells_get] at hu
  cases hj : l[j]? with
  | none => rw [hj] at hu; cases hu
  | some x =>
    rw [hj] at hu
    simp only [Option.map_some, Option.some.injEq] at hu
    subst hu
    obtain ⟨hlt, rfl⟩ := List.getElem?_eq_some_iff.1 hj
    have e : (⟨g, 0, none⟩ : Addr).add j = ⟨g, j, none⟩ := by unfold Addr.add; split <;> simp_all
    rw [e, h j (by omega)]
    simp [List.getD, List.getElem?_eq_getElem hlt]
theorem bcells_nil : bcells [] = [] := List.eq_nil_of_length_eq_zero (by rw [bcells_len]; rfl)
set_option maxRecDepth 100000 in
theorem ptFetch (b : Nat) (r : Int) (va : Nat) (n : Int) (w : World) (M : Mach) (T : Int) (hM : PM w b M) (hok : M.ok T) (hv : va < 4294967296) : Calls Try.prog 29 #[.pointer (some ⟨b, 0, none⟩), .int .i64 r, .int .u32 va, .int .i64 n] w fun e w' => ∃ v, e = .returned (.tuple #[v, .int .i64 (M.fetchV r va n).2]) ∧ OutBytes w (M.fetchV r va n).1 v w' := by
  have HR := hid (ptRuns b r va n false w M T hM hok hv)
  have HK := hid (M.runsV_ok r va n false)
  have HNil := hid (M.runsV_nil r va n false)
  unfold Mach.fetchV
  generalize M.runsV r va n false = z at *
  obtain ⟨rs, c⟩ := z
  simp only at HK HNil ⊢
  have HM := hid hM
  have HO := hid hok
  clear hM hok hv
  obtain ⟨i0, hi, hz0, hz1, hz2⟩ := info_parts info_u8
  have Hi := hid hi; have Hz0 := hid hz0; have Hz1 := hid hz1; have Hz2 := hid hz2
  clear hi hz0 hz1 hz2
  by_cases hc : c = 0
  · subst hc
    go_enter Try.func29, Try.ntmps29
    go_wp2_with (go_at_call 72; refine HR.out.mono ?_; rintro e w1 ⟨v, rfl, ⟨p, cp, rfl, hrs⟩, hg⟩; have HRs := hid (show RunsAt w.heap.size w1 (.slice p rs.length cp) rs from ⟨p, cp, rfl, hrs⟩); have HG := hid hg; have HM1 := hid (HM.out.grown hg (by simp)); clear hg hrs)
    have hlen : rs.length ≤ 2 := HK.out.1
    go_loopw [12, 30] (fun v i wr => ∃ k : Nat, k ≤ rs.length ∧ i = .int .i64 k ∧ wr.ownsRow w1.heap.size 5 1 v (M.bytesOf (rs.take k)).length (bcells (M.bytesOf (rs.take k))) ∧ w1.grownBy wr none) (fun _ i _ => rs.length - (intOf i).toNat)
    case atStart => exact ⟨0, Nat.zero_le _, rfl, by rw [show M.bytesOf (rs.take 0) = [] by simp [Mach.bytesOf], bcells_nil]; exact World.ownsRow_nil _ _ _ _, World.grownBy.refl _ _⟩
    case round =>
      obtain ⟨k, hk, rfl, hown, hg⟩ := hrel
      have HW := hid hown
      have HGr := hid hg
      clear hown hg
      by_cases hlt : k < rs.length
      · have hlt' : (k : Int) < rs.length := by omega
        obtain ⟨g, e1, hlo, hgl, d0, d1, d2⟩ := (show ∃ g, p = some ⟨g, 0, none⟩ ∧ w.heap.size ≤ g ∧ g < wr.heap.size ∧ wr.cell? ⟨g, k * 3, none⟩ = some (.int .i64 rs[k].m) ∧ wr.cell? ⟨g, k * 3 + 1, none⟩ = some (.int .i64 rs[k].o) ∧ wr.cell? ⟨g, k * 3 + 2, none⟩ = some (.int .i64 rs[k].n) by
          obtain ⟨p', c', e', hh⟩ := HRs.out.grown HGr.out (by simp)
          cases e'
          exact hh k hlt)
        have hq := HK.out.2 rs[k] (List.getElem_mem hlt)
        have HS := hid (M.bytesOf_snoc rs k hlt)
        have HL := hid (show (M.bytesOf (rs.take k)).length ≤ 512 by
          have := M.bytesOf_le (rs := rs.take k) (fun q hq' => (HK.out.2 q (List.mem_of_mem_take hq')).2.1)
          rw [List.length_take] at this; omega)
        obtain ⟨l, hl⟩ : ∃ l, M.bytesOf (rs.take k) = l := ⟨_, rfl⟩
        rw [hl] at HS HW HL
        clear hl
        generalize rs[k] = q at *
        obtain ⟨m, o, nn⟩ := q
        simp only at d0 d1 d2 hq HS
        subst e1
        obtain ⟨q1, q2, q3⟩ := hq
        have HRd := hid (fun w hM => Read_yes b m o nn w M T hM HO.out q1 q2)
        have HMr := hid (HM1.out.grown HGr.out (by simp))
        clear q1
        go_wp2_with (first
          | (go_at_call 33; refine (HRd.out _ (HMr.out.alloc _)).mono ?_; rintro e w2 ⟨v2, rfl, hv2⟩; obtain ⟨g2, rfl, hg20, hc2, hg2⟩ := newBytes_pos hv2 (by rw [part_len]; omega); rw [part_len] at hc2 ⊢; have HC := hid hc2; have HG2 := hid ((World.grownBy_alloc _ _ none).trans hg2); clear hv2 hc2 hg2)
          | (at_builtin; refine wpList_append_own _ rfl _ _ 31 rfl w1.heap.size 5 i0 (.int .u8 0) 1 1 Try.underlying31 Hi.out Hz0.out Hz1.out Hz2.out rfl (by decide) _ _ _ rfl (ownsRow_grown HW.out HG2.out) ⟨g2, 0, none⟩ nn nn (bcells ((M.fr m).part o nn)) rfl (by rw [bcells_len, part_len]; omega) (new_cells HC.out) (bcells_one _) (by have := HL.out; unfold maxLen; omega) (by have := HL.out; omega) (by have := HGr.out.size; have := HG2.out.size; omega) ?_; intro v' w3 hown hgrow _; have HO3 := hid hown; have HG3 := hid ((HGr.out.trans HG2.out).andThen hgrow (fun j hj => .inl (HW.out.lt j hj).1)); clear hown hgrow))
        go_roundw
        case rel => exact ⟨k + 1, hlt, by go_num, by rw [HS.out, List.length_append, part_len, bcells_append]; exact HO3.out, HG3.out⟩
        case measure => simp [intOf]; omega
      · obtain rfl : k = rs.length := by omega
        have hge : ¬ (rs.length : Int) < rs.length := by omega
        rw [List.take_length] at HW
        clear hlt
        go_wp2
        go_ret2
        exact ⟨_, rfl, outBytes_of HW.out rfl (HG.out.trans HGr.out)⟩
  · have hc' : (c != 0) = true := by simpa using hc
    have HC := hid hc
    clear hc
    go_enter Try.func29, Try.ntmps29
    go_wp2_with (go_at_call 72; refine HR.out.mono ?_; rintro e w1 ⟨v, rfl, ⟨p, cp, rfl, hrs⟩, hg⟩; have HG := hid hg; clear hg hrs)
    go_ret2
    obtain rfl := HNil.out HC.out
    exact ⟨_, rfl, none, 0, rfl, .inl rfl, HG.out⟩
end Go.Proofs.Ytdjhkacjgdnglaa
