/-
  Package blk: Pack as one outcome; what was packed is unpacked as itself (plain); a request that came in.
-/
import Derived.Test.YtoeohbiofmcdeaaBkX
import Derived.Test.YtoeohbiofmcdeaaBkR
import Derived.Test.YtoeohbiofmcdeaaOpenS
set_option linter.unusedSimpArgs false
set_option linter.unusedVariables false
namespace Go.Proofs.Ytoeohbiofmcdeaa.Bk
open Go.RowKit Gen Go.ChangeShapes Go.WideShapes Go.ChangeAt
set_option maxHeartbeats 4000000

def packV (r : Rq) (page : Int) : List UInt8 × List UInt8 × Int := if r.ok && pageOk page then (if rqForm r page then (packB r page, packP r page, 0) else ([], [], 4)) else ([], [], 1)
theorem form_le {r : Rq} {page : Int} (h : rqForm r page = true) : r.segs.length ≤ (if page = -1 then 4 else 16) := by
  unfold rqForm mayV at h
  simp only [Bool.and_eq_true] at h
  have h := h.1
  split at h
  · simp only [Bool.and_eq_true, decide_eq_true_eq] at h
    split at h <;> split <;> omega
  · split at h
    · simp only [Bool.and_eq_true, decide_eq_true_eq] at h
      split <;> omega
    · cases h
theorem bPack (r : Rq) (hf : r.fits) (page : Int) (hp : I64 page) (p : Option Addr) (c : Nat) (w : World) (h : SA w p r.segs) (hl : r.segs.length ≤ 9223372036854775000) :
    Calls Try.prog 8 #[r.val p c, .int .i64 page] w (PackQ (packV r page).1 (packV r page).2.1 (packV r page).2.2 w) := by
  cases h1 : (r.ok && pageOk page) with
  | false =>
    have : packV r page = ([], [], 1) := by unfold packV; rw [if_neg (by simp [h1])]
    rw [this]
    exact bPack_arg r hf page hp p c w h hl h1
  | true =>
    obtain ⟨hok, hpg⟩ : r.ok = true ∧ pageOk page = true := by simpa using h1
    cases h2 : rqForm r page with
    | false =>
      have : packV r page = ([], [], 4) := by unfold packV; rw [if_pos h1, if_neg (by simp [h2])]
      rw [this]
      exact bPack_form r hf page hp p c w h hl hok hpg h2
    | true =>
      have : packV r page = (packB r page, packP r page, 0) := by unfold packV; rw [if_pos h1, if_pos h2]
      rw [this]
      have hle := form_le h2
      by_cases e : page = -1
      · subst e
        exact bPack_self r hf p c w h (by simpa using hle) hok h2
      · rw [if_neg e] at hle
        have hb : 0 ≤ page ∧ page < 256 := by simpa [pageOk, e, fitsV] using hpg
        exact bPack_page r hf page hb.1 hb.2 p c w h hle hok h2
theorem byteV_of {n : Int} (h0 : 0 ≤ n) (h : n < 256) : ((byteV n).toNat : Int) = n := by rw [byteV_nat]; omega
/-- Unpack of what Pack made -/
theorem unp_self (r : Rq) (hok : r.ok = true) (hf : rqForm r (-1) = true) : unpV (packB r (-1)) = (r, -1, (r.segs.length : Int), 0) := by
  have hn := form_le hf
  simp only [if_true] at hn
  obtain ⟨op, id, sec, segs⟩ := r
  simp only [Rq.ok, Bool.and_eq_true, decide_eq_true_eq, fitsV] at hok
  obtain ⟨⟨⟨⟨o0, o2⟩, i0, i1⟩, s0, s1⟩, ha⟩ := hok
  simp only [rqForm, Bool.and_eq_true, Bool.not_eq_true'] at hf
  obtain ⟨hm, hb⟩ := hf
  simp only at hn
  have e1 := byteV_of o0 (by omega)
  have e2 := byteV_of (n := (segs.length : Int)) (by omega) (by omega)
  have e3 := numV_leV 2 id i0 (by simpa using i1)
  have e4 := numV_leV 4 sec s0 (by simpa using s1)
  obtain ⟨g1, g2⟩ := segsV_segsB segs ha hb
  have hL : packB ⟨op, id, sec, segs⟩ (-1) = byteV op :: byteV segs.length :: byteV id :: byteV (id / 256) :: byteV sec :: byteV (sec / 256) :: byteV (sec / 256 / 256) :: byteV (sec / 256 / 256 / 256) :: (segsB segs ++ List.replicate (8 - 2 * segs.length) 0) := by
    simp only [packB, padV, headV, leV, if_true]
    have : (byteV op :: byteV segs.length :: ([byteV id, byteV (id / 256)] ++ [byteV sec, byteV (sec / 256), byteV (sec / 256 / 256), byteV (sec / 256 / 256 / 256)]) ++ segsB segs).length = 8 + 2 * segs.length := by simp [segsB_len]; omega
    rw [this, show 16 - (8 + 2 * segs.length) = 8 - 2 * segs.length by omega]
    simp
  rw [hL]
  have hlen : (segsB segs ++ List.replicate (8 - 2 * segs.length) (0 : UInt8)).length = 8 := by simp [segsB_len]; omega
  obtain ⟨T, hT⟩ : ∃ T, segsB segs ++ List.replicate (8 - 2 * segs.length) (0 : UInt8) = T := ⟨_, rfl⟩
  rw [hT] at hlen ⊢
  have hl1 : (byteV (segs.length : Int)).toNat = segs.length := by omega
  have htk : T.take (2 * segs.length) = segsB segs := by rw [← hT, ← segsB_len segs, List.take_left]
  have hsr : segsR (segsB segs) = (segs, 0) := by rw [segsR_ok (by rw [segsB_len]; omega) g2, g1]
  simp only [leV] at e3 e4
  unfold unpV
  rw [if_pos (by simp [hlen])]
  simp only [List.getD_cons_zero, List.getD_cons_succ]
  rw [if_neg (by omega)]
  unfold unpR
  simp only [List.getD_cons_zero, List.getD_cons_succ, List.drop_succ_cons, List.drop_zero, hl1, htk, hsr, e1, e3, e4, hm, if_true]
theorem unp_page (r : Rq) (page : Int) (hp0 : 0 ≤ page) (hp1 : page < 256) (hok : r.ok = true) (hf : rqForm r page = true) : unpV (packB r page) = (⟨r.op, r.id, r.sec, []⟩, page, (r.segs.length : Int), 0) ∧ segsR (packP r page) = (r.segs, 0) := by
  have hpn : ¬ page = -1 := by omega
  have hn := form_le hf
  rw [if_neg hpn] at hn
  obtain ⟨op, id, sec, segs⟩ := r
  simp only [Rq.ok, Bool.and_eq_true, decide_eq_true_eq, fitsV] at hok
  obtain ⟨⟨⟨⟨o0, o2⟩, i0, i1⟩, s0, s1⟩, ha⟩ := hok
  simp only [rqForm, Bool.and_eq_true, Bool.not_eq_true'] at hf
  obtain ⟨hm, hb⟩ := hf
  simp only at hn
  have e1 := byteV_of o0 (by omega)
  have e2 := byteV_of (n := (segs.length : Int)) (by omega) (by omega)
  have e3 := numV_leV 2 id i0 (by simpa using i1)
  have e4 := numV_leV 4 sec s0 (by simpa using s1)
  have e5 := byteV_of hp0 hp1
  have e6 : (byteV 3).toNat = 3 := by decide
  obtain ⟨g1, g2⟩ := segsV_segsB segs ha hb
  constructor
  · have hL : packB ⟨op, id, sec, segs⟩ page = [byteV 3, byteV segs.length, byteV id, byteV (id / 256), byteV sec, byteV (sec / 256), byteV (sec / 256 / 256), byteV (sec / 256 / 256 / 256), byteV page, byteV op, 0, 0, 0, 0, 0, 0] := by
      simp only [packB, padV, headV, leV, hpn, if_false]
      rfl
    rw [hL]
    have hpn2 : ¬ (((byteV page).toNat : Int) = -1) := by omega
    have hl1 : (byteV (segs.length : Int)).toNat = segs.length := by omega
    simp only [leV] at e3 e4
    unfold unpV
    rw [if_pos (by rfl)]
    simp only [List.getD_cons_zero, List.getD_cons_succ]
    rw [if_pos e6]
    unfold unpR
    simp only [List.getD_cons_zero, List.getD_cons_succ, hl1, e1, e3, e4, e5, hm, hpn, if_true, if_false]
  · simp only [packP, hpn, if_false]
    rw [segsR_ok (by rw [segsB_len]; omega) g2, g1]
/-- a request that came in -/
theorem exists_segs (P : Nat → Seg → Prop) : ∀ n, (∀ i, i < n → ∃ a, P i a) → ∃ l : List Seg, l.length = n ∧ ∀ i (h : i < l.length), P i l[i] := exists_list P
section
variable {H : Type} {enc : TypeId × Value → H} {w : World}
theorem seg_flat : Flat.isFlat Try.prog 57 [3, 3, 3] = true := by kernel_rfl
theorem rq_flat : Flat.isFlat Try.prog 24 [3, 3, 3, 22] = true := by kernel_rfl
theorem open_segs {v : Value} (h : Flat.Came enc Try.prog w 0 (fun _ => true) true 22 v) : ∃ pa l cap, v = .slice pa (List.length (α := Seg) l) cap ∧ l.length ≤ 281474976710656 ∧ (∀ s ∈ l, s.fits) ∧ SA w pa l := by
  obtain ⟨p, len, cap, rfl, hr, _, hs⟩ := Flat.open_flats Try.underlying22 seg_flat (by simp) h
  have hb : Try.prog.bytesOf 57 = 24 := by kernel_rfl
  rw [hb] at hr
  unfold reachBytes at hr
  obtain ⟨ss, hss, hp⟩ := exists_segs (fun (j : Nat) (s : Seg) => s.fits ∧ ∃ g o, p = some ⟨g, o, none⟩ ∧ w.cell? ⟨g, o + j * 3, none⟩ = some (.int .i64 s.ref) ∧ w.cell? ⟨g, o + j * 3 + 1, none⟩ = some (.int .i64 s.first) ∧ w.cell? ⟨g, o + j * 3 + 2, none⟩ = some (.int .i64 s.last)) len (fun i hi => by
    obtain ⟨b, off, rfl, hb, hc⟩ := hs i hi
    obtain ⟨v0, c0, k0⟩ := hc 0 _ rfl
    obtain ⟨v1, c1, k1⟩ := hc 1 _ rfl
    obtain ⟨v2, c2, k2⟩ := hc 2 _ rfl
    obtain ⟨x, rfl, wx⟩ := k0.int Try.underlying3
    obtain ⟨y, rfl, wy⟩ := k1.int Try.underlying3
    obtain ⟨z, rfl, wz⟩ := k2.int Try.underlying3
    exact ⟨⟨x, y, z⟩, ⟨I64.wf wx, I64.wf wy, I64.wf wz⟩, b, off, rfl, c0, c1, c2⟩)
  subst hss
  refine ⟨p, ss, cap, rfl, by omega, fun s hs => ?_, fun k s hk => ?_⟩
  · obtain ⟨j, hj, rfl⟩ := List.getElem_of_mem hs
    exact (hp j hj).1
  · obtain ⟨hj, rfl⟩ := List.getElem?_eq_some_iff.1 hk
    exact (hp k hj).2
theorem list4 {α : Type} {l : List α} (h : l.length = 4) : ∃ a b c d, l = [a, b, c, d] := by
  match l, h with
  | [a, b, c, d], _ => exact ⟨a, b, c, d, rfl⟩
theorem open_rq {l0 : List Value} (z0 : l0.length = [3, 3, 3, 22].length) (c0 : ∀ (j : Nat) (t : TypeId), [3, 3, 3, 22][j]? = some t → ∃ u : Value, l0[j]? = some u ∧ Flat.Came enc Try.prog w 0 (fun _ => true) true t u) :
    ∃ (r : Rq) (p : Option Addr) (c : Nat), Value.agg l0.toArray = r.val p c ∧ r.fits ∧ SA w p r.segs ∧ r.segs.length ≤ 281474976710656 := by
  obtain ⟨u0, u1, u2, u3, rfl⟩ := list4 z0
  obtain ⟨_, e0, k0⟩ := c0 0 _ rfl
  obtain ⟨_, e1, k1⟩ := c0 1 _ rfl
  obtain ⟨_, e2, k2⟩ := c0 2 _ rfl
  obtain ⟨_, e3, k3⟩ := c0 3 _ rfl
  simp only [List.getElem?_cons_zero, List.getElem?_cons_succ, Option.some.injEq] at e0 e1 e2 e3
  subst e0 e1 e2 e3
  obtain ⟨x, rfl, wx⟩ := k0.int Try.underlying3
  obtain ⟨y, rfl, wy⟩ := k1.int Try.underlying3
  obtain ⟨z, rfl, wz⟩ := k2.int Try.underlying3
  obtain ⟨pa, l, cap, rfl, hl, hf, hs⟩ := open_segs k3
  exact ⟨⟨x, y, z, l⟩, pa, cap, rfl, ⟨I64.wf wx, I64.wf wy, I64.wf wz, hf⟩, hs, hl⟩
end
end Go.Proofs.Ytoeohbiofmcdeaa.Bk
