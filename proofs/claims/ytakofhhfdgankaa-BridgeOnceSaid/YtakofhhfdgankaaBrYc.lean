/-
  The reference's switch: direct whole, Down.
-/
import Derived.Test.YtakofhhfdgankaaBrYb
import Derived.Test.YtakofhhfdgankaaBrX
import Derived.Test.YtakofhhfdgankaaBrN
import Derived.Test.YtakofhhfdgankaaBrO
set_option linter.unusedSimpArgs false
set_option linter.unusedVariables false
namespace Go.Proofs.Ytakofhhfdgankaa.Br
open Go.RowKit Gen Bk
set_option maxHeartbeats 2000000

section
variable {C : Nat → Prop} {lab lab' lab1 : Nat → Nat} {w w' w1 : World} {y r a ca : Nat} {lq : Nat → Lq} {S : Sw} {k : Nat} {s s' : Sd} {T : Nat}
theorem ydirect (h : RS lab w y r a ca lq (S.set k s)) (n8 : S.n ≤ 8) (hk : k < S.n) (fp : Option Addr) (f : List UInt8) (fc : Nat) (hb : BA w fp f) (hf2 : 2 ≤ f.length) (hf128 : f.length ≤ 128) (h1 : s.dir ≤ 2305843009213693952) (h2 : s.full ≤ 2305843009213693952) :
    Calls Try.prog 46 #[.pointer (some ⟨y, 0, none⟩), .int .i64 (k : Int), .slice fp f.length fc] w fun e w' => e = .returned (.tuple #[]) ∧ AftR lab w y r a ca (S.set k (s.dirF f)) w' := by
  obtain ⟨fb, fo, rfl⟩ := hb.ptr (by omega)
  unfold Sd.dirF
  by_cases hq : s.q.length < 4
  · rw [if_pos hq]
    exact ydirect_room h n8 hk fb fo f fc hb hf2 hf128 h1 hq
  · rw [if_neg hq]
    exact ydirect_full h n8 hk _ h1 h2 hq
/-- addresses below j that were at p are forgotten -/
def strikeK (f : Nat → Option Nat) (p j : Nat) : Nat → Option Nat := fun x => if x < j ∧ f x = some p then none else f x
theorem strikeK_succ (f : Nat → Option Nat) (p j : Nat) : strikeK f p (j + 1) = if f j = some p then (fun i => if i = j then none else strikeK f p j i) else strikeK f p j := by
  funext x
  unfold strikeK
  by_cases hj : f j = some p
  · rw [if_pos hj]
    by_cases e : x = j
    · subst e; simp [hj]
    · simp [e, show (x < j + 1) = (x < j) by simp; omega]
  · rw [if_neg hj]
    by_cases e : x = j
    · subst e; simp [hj]
    · simp [show (x < j + 1) = (x < j) by simp; omega]
theorem RS.congrA (h : RS lab w y r a ca lq S) {S' : Sw} (hn : S'.n = S.n) (hP : S'.P = S.P) (hA : ∀ x, x < 256 → S'.A x = S.A x) : RS lab w y r a ca lq S' := by
  obtain ⟨n, P, A⟩ := S'
  simp only at hn hP hA
  subst hn hP
  exact ⟨h.top, h.ports, h.adr.congr fun x hx => by show Value.int .i64 (atI (A x)) = _; rw [hA x hx], h.qs, h.ly, h.lr, h.la, h.ca⟩
theorem Sd.ok.gone {T : Nat} (h : s.ok T) {j : Nat} (hj : j < s.q.length) : (s.gone j).ok T := by
  have h1 := h.dr
  have h2 := h.q4
  exact ⟨h.tk, by simp only [Sd.gone, List.length_drop]; omega, h.tT, h.dT, by simp only [Sd.gone, List.length_drop]; omega, h.cb, h.bu, h.ra, fun f hf => h.fr f (List.mem_of_mem_drop hf)⟩
theorem Sw.ok.strike {T : Nat} (h : S.ok T) (k : Nat) : ({ S with A := Br.strike S.A k } : Sw).ok T := by
  refine ⟨h.n1, h.n8, h.T62, h.sd, ?_, fun x q hx => ?_⟩
  · show Br.strike S.A k 255 = none
    unfold Br.strike; rw [h.a255]; simp
  · have hx : Br.strike S.A k x = some q := hx
    unfold Br.strike at hx
    split at hx
    · cases hx
    · exact h.at_ x q hx
/-- how many wait, as it lies -/
def qN (w : World) (r k : Nat) : Nat := match w.cell? ⟨r, k * 13 + 3, none⟩ with | some (.slice _ n _) => n | _ => 0
theorem RS.qN (h : RS lab w y r a ca lq (S.set k s)) (hk : k < S.n) : Br.qN w r k = s.q.length := by
  unfold Br.qN
  rw [h.at_q hk]
/-- Down -/
theorem yDown (h : RS lab w y r a ca lq S) (ok : S.ok T) (x : Int) : Calls Try.prog 17 #[.pointer (some ⟨y, 0, none⟩), .int .i64 x] w fun e w' => e = .returned (.int .i64 ((S.downE x).2 : Nat)) ∧ AftR lab w y r a ca (S.downE x).1 w' := by
  have H := hid (yIs h x)
  unfold Sw.downE
  cases hp : S.is x with
  | false =>
    rw [hp] at H
    have A := hid h.aft
    clear h ok hp
    simp only [Bool.false_eq_true, if_false]
    go_enter Try.func17, Try.ntmps17
    go_wp2_with (go_at_call 34; refine H.out.mono ?_; rintro e w' ⟨rfl, rfl⟩)
    go_ret
    exact ⟨rfl, A.out⟩
  | true =>
    rw [hp] at H
    obtain ⟨k, rfl, hk⟩ := Sw.is_yes hp
    simp only [if_true, Int.toNat_natCast]
    have OK := hid ok
    have HR := hid h
    have n8 := ok.n8
    have k0 : (0 : Int) ≤ k := by omega
    have k1 : (k : Int) < S.n := by omega
    obtain ⟨s, hs⟩ : ∃ s, S.P k = s := ⟨_, rfl⟩
    have HSk := hid hs
    clear h ok hp
    go_enter Try.func17, Try.ntmps17
    go_wp2_with (go_at_call 34; refine H.out.mono ?_; rintro e w' ⟨rfl, rfl⟩)
    go_loopw [5] (fun i wr => ∃ j : Nat, i = .int .i64 j ∧ j ≤ 256 ∧ RS lab wr y r a ca lq { S with A := strikeK S.A k j } ∧ St CR lab w lab wr) (fun i _ => 256 - (intOf i).toNat)
    case atStart => exact ⟨0, rfl, by omega, HR.out.congrA rfl rfl fun x _ => by simp [strikeK], St.refl _ _ _⟩
    case round =>
      clear HR H
      obtain ⟨j, rfl, hj, hr, hst⟩ := hrel
      have P := hid hr
      have ST := hid hst
      have c1 : wr.cell? ⟨y, 1, none⟩ = some (.slice (some ⟨a, 0, none⟩) 256 ca) := hr.c1
      have hj0 : (0 : Int) ≤ j := by omega
      by_cases hlt : j < 256
      · have hlt' : (j : Int) < 256 := by omega
        have cj := hr.ad hlt
        have fzj := hr.adr.frozen j
        have eA : ({ S with A := strikeK S.A k j } : Sw).A j = S.A j := by show strikeK S.A k j j = _; unfold strikeK; simp
        rw [eA] at cj
        have hsk := strikeK_succ S.A k j
        clear hr hst eA
        by_cases hA : S.A j = some k
        · rw [hA] at cj
          simp only [atI] at cj
          rw [if_pos hA] at hsk
          have hSt := hid (fun (w' : World) (gg : wr.grownBy w' (some a)) => (St.one gg (show CR (lab a) by rw [P.out.la]; exact ⟨by omega, by omega⟩) : St CR lab wr lab w'))
          have HH := hid hsk
          clear hsk hA
          go_wp2_with fail
          go_roundw
          case rel =>
            obtain ⟨q, gg⟩ := P.out.seta n8 hlt none (v := -1) rfl
            exact ⟨j + 1, by go_num, by omega, q.congrA rfl rfl fun x _ => by show strikeK S.A k (j + 1) x = _; rw [HH.out], ST.out.tr (hSt.out _ gg)⟩
          case measure => simp [intOf]; omega
        · have hne : (atI (S.A j) == (k : Int)) = false := by
            cases e : S.A j with
            | none => simp [atI] <;> omega
            | some p => simp only [atI, beq_eq_false_iff_ne]; intro e2; exact hA (by rw [e]; congr 1; omega)
          rw [if_neg hA] at hsk
          have HH := hid hsk
          obtain ⟨z, hz⟩ : ∃ z, atI (S.A j) = z := ⟨_, rfl⟩
          rw [hz] at cj hne
          clear hsk hA hz
          go_wp2_with fail
          go_roundw
          case rel => exact ⟨j + 1, by go_num, by omega, P.out.congrA rfl rfl fun x _ => by show strikeK S.A k (j + 1) x = _; rw [HH.out], ST.out⟩
          case measure => simp [intOf]; omega
      · obtain rfl : j = 256 := by omega
        have hS0 : RS lab wr y r a ca lq (({ S with A := strike S.A k } : Sw).set k (s.gone 0)) := by
          have q : RS lab wr y r a ca lq { S with A := strike S.A k } := hr.congrA rfl rfl fun x hx => by
            show strike S.A k x = strikeK S.A k 256 x
            unfold strike strikeK
            simp [hx]
          have := q.self k
          rw [show ({ S with A := strike S.A k } : Sw).P k = s from HSk.out] at this
          exact this
        have Q0 := hid hS0
        have os := OK.out.sd k hk
        rw [HSk.out] at os
        have OS := hid os
        clear hr hst hS0 os
        go_wp2_with fail
        clear c1
        go_loopw [] (fun wr => ∃ (j : Nat) (lab1 : Nat → Nat) (lq1 : Nat → Lq), j ≤ s.q.length ∧ RS lab1 wr y r a ca lq1 (({ S with A := strike S.A k } : Sw).set k (s.gone j)) ∧ St CR lab w lab1 wr) (fun wr => qN wr r k)
        case atStart => exact ⟨0, lab, lq, by omega, Q0.out, ST.out⟩
        case round =>
          clear Q0 ST P
          obtain ⟨j, lab1, lq1, hj, hr, hst⟩ := hrel
          have P := hid hr
          have ST := hid hst
          have HM := hid (hr.qN hk)
          have c0 : wr.cell? ⟨y, 0, none⟩ = some (.slice (some ⟨r, 0, none⟩) S.n S.n) := hr.c0
          have c3 := hr.at_q (S := { S with A := strike S.A k }) hk
          by_cases hlt : j < s.q.length
          · have hl : (s.gone j).q.length = s.q.length - j := by simp [Sd.gone]
            rw [hl] at c3
            have hpos : (0 : Int) < ((s.q.length - j : Nat) : Int) := by omega
            have okj := (OK.out.strike k).set (k := k) (OS.out.gone hlt)
            have HD := hid (yDone hr okj k false)
            have eD : (({ S with A := strike S.A k } : Sw).set k (s.gone j)).doneE k false = (({ S with A := strike S.A k } : Sw).set k (s.gone (j + 1)), (s.gone j).doneE) := by
              unfold Sw.doneE
              have hi : (({ S with A := strike S.A k } : Sw).set k (s.gone j)).is (k : Int) = true := Sw.is_mk (show k < S.n from hk)
              rw [if_pos hi, Int.toNat_natCast, Sw.set_at, Sw.set_set, s.gone_succ hlt]
            rw [eD] at HD
            obtain ⟨cd, hcd⟩ : ∃ c, (s.gone j).doneE = c := ⟨_, rfl⟩
            rw [hcd] at HD
            have HLl := hid hl
            clear hr hst okj eD hl hcd
            go_wp2_with (go_at_call 30; refine HD.out.mono ?_; rintro e w3 ⟨rfl, lab3, lq3, p3, st3⟩; have P3 := hid p3; have S3 := hid (ST.out.tr st3); have M3 := hid (p3.qN hk); clear p3 st3)
            go_roundw
            case rel =>
              repeat apply Exists.intro
              exact ⟨⟨j + 1, lab3, lq3, hlt, P3.out, S3.out⟩, rfl⟩
            case measure => rw [HM.out, M3.out]; simp [Sd.gone]; omega
          · obtain rfl : j = s.q.length := by omega
            have hl : (s.gone s.q.length).q.length = 0 := by simp [Sd.gone]
            rw [hl] at c3
            clear hr hst hl
            go_wp2_with fail
            go_ret
            have := P.out
            rw [s.gone_all] at this
            exact ⟨rfl, lab1, lq1, by rw [HSk.out]; exact this, ST.out⟩
end
end Go.Proofs.Ytakofhhfdgankaa.Br
