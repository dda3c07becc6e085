/-
  What came in, opened: frames' beginnings, rewrites. No walk here.
-/
import Derived.Test.YtibiianmpajabaaJ6
import Derived.Test.YtibiianmpajabaaBytesIn
import Derived.Test.YtibiianmpajabaaOpen
import Derived.Laws.BitsAllLaws
import Derived.Test.YtibiianmpajabaaPhysK
import Derived.ProofKit
import Derived.Laws.IdiomStrings
import Derived.Deep.QuietTactic
import Derived.BigQuiet
import Derived.Deep.RegionWith
set_option linter.unusedSimpArgs false
set_option linter.unusedVariables false
namespace Go.Proofs.Ytibiianmpajabaa
open Go.RowKit Go.ChangeShapes Go.WideShapes Go.ChangeAt Go.Deep
set_option maxHeartbeats 1000000

section
variable {H : Type} {enc : TypeId × Value → H} {w : World}
theorem start_flat : Flat.isFlat Try.prog 157 [3, 3, 31] = true := by kernel_rfl
theorem open_starts {v : Value} (h : Flat.Came enc Try.prog w 0 (fun _ => true) true 41 v) : ∃ pa ss cap, v = .slice pa (List.length (α := StartV) ss) cap ∧ ss.length ≤ 9223372036854775807 ∧ StartsIn w pa ss := by
  obtain ⟨p, len, cap, rfl, _, hl, hs⟩ := Flat.open_flats Try.underlying41 start_flat (by simp) h
  obtain ⟨ss, hss, hp⟩ := exists_list (fun (j : Nat) (s : StartV) => ∃ sb off qa cap, p = some ⟨sb, off, none⟩ ∧ sb < w.heap.size ∧
      w.cell? ⟨sb, off + j * 3, none⟩ = some (.int .i64 s.owner) ∧ w.cell? ⟨sb, off + j * 3 + 1, none⟩ = some (.int .i64 s.kind) ∧ w.cell? ⟨sb, off + j * 3 + 2, none⟩ = some (.slice qa s.l.length cap) ∧ InBytes w qa s.l ∧ s.l.length ≤ 140737488351232) len (fun i hi => by
    obtain ⟨b, off, rfl, hb, hc⟩ := hs i hi
    obtain ⟨v0, c0, k0⟩ := hc 0 _ rfl
    obtain ⟨v1, c1, k1⟩ := hc 1 _ rfl
    obtain ⟨v2, c2, k2⟩ := hc 2 _ rfl
    obtain ⟨x, rfl, _⟩ := k0.int Try.underlying3
    obtain ⟨a, rfl, _⟩ := k1.int Try.underlying3
    obtain ⟨qa, l, qc, rfl, hi, hl⟩ := came_bytes k2
    exact ⟨⟨x, a, l⟩, b, off, qa, qc, rfl, hb, c0, c1, c2, hi, hl⟩)
  subst hss
  exact ⟨p, ss, cap, rfl, by unfold maxLen at hl; omega, hp⟩
theorem poke_flat : Flat.isFlat Try.prog 159 [3, 3, 3, 31] = true := by kernel_rfl
theorem open_pokes {v : Value} (h : Flat.Came enc Try.prog w 0 (fun _ => true) true 42 v) : ∃ pa l cap, v = .slice pa (List.length (α := PokeV) l) cap ∧ l.length ≤ 9223372036854775807 ∧ PokesIn w pa l := by
  obtain ⟨p, len, cap, rfl, _, hl, hs⟩ := Flat.open_flats Try.underlying42 poke_flat (by simp) h
  obtain ⟨l, hss, hp⟩ := exists_list (fun (j : Nat) (s : PokeV) => ∃ b off qa cap, p = some ⟨b, off, none⟩ ∧ b < w.heap.size ∧
      w.cell? ⟨b, off + j * 4, none⟩ = some (.int .i64 s.t) ∧ w.cell? ⟨b, off + j * 4 + 1, none⟩ = some (.int .i64 s.i) ∧ w.cell? ⟨b, off + j * 4 + 2, none⟩ = some (.int .i64 s.off) ∧ w.cell? ⟨b, off + j * 4 + 3, none⟩ = some (.slice qa s.l.length cap) ∧ PokeV.fits s ∧ InBytes w qa s.l) len (fun i hi => by
    obtain ⟨b, off, rfl, hb, hc⟩ := hs i hi
    obtain ⟨v0, c0, k0⟩ := hc 0 _ rfl
    obtain ⟨v1, c1, k1⟩ := hc 1 _ rfl
    obtain ⟨v2, c2, k2⟩ := hc 2 _ rfl
    obtain ⟨v3, c3, k3⟩ := hc 3 _ rfl
    obtain ⟨x, rfl, hx⟩ := k0.int Try.underlying3
    obtain ⟨a, rfl, ha⟩ := k1.int Try.underlying3
    obtain ⟨o, rfl, ho⟩ := k2.int Try.underlying3
    obtain ⟨qa, l, qc, rfl, hi, hl⟩ := came_bytes k3
    exact ⟨⟨x, a, o, l⟩, b, off, qa, qc, rfl, hb, c0, c1, c2, c3, ⟨hx, ha, ho, hl⟩, hi⟩)
  subst hss
  exact ⟨p, l, cap, rfl, by unfold maxLen at hl; omega, hp⟩
theorem PokesIn.fits {pa : Option Addr} {l : List PokeV} (h : PokesIn w pa l) : ∀ p ∈ l, p.fits := fun p hp => by
  obtain ⟨j, hj, rfl⟩ := List.getElem_of_mem hp
  obtain ⟨_, _, _, _, _, _, _, _, _, _, hf, _⟩ := h j hj
  exact hf
end
end Go.Proofs.Ytibiianmpajabaa

/-
  Package view: contract of Word.
-/
set_option linter.unusedSimpArgs false
set_option linter.unusedVariables false
namespace Go.Proofs.Ytibiianmpajabaa
open Go.RowKit
set_option maxHeartbeats 1000000

theorem read_two (M : Mach) (i off : Int) : ((M.read i off 2).2 = 1 ∧ (M.read i off 2).1 = []) ∨ ((M.read i off 2).2 = 0 ∧ ∃ x y : UInt8, (M.read i off 2).1 = [x, y]) := by
  unfold Mach.read
  split
  · exact .inl ⟨rfl, rfl⟩
  split
  · exact .inl ⟨rfl, rfl⟩
  · refine .inr ⟨rfl, ?_⟩
    have : ((M.fr i.toNat).part off.toNat (2 : Int).toNat).length = 2 := part_len _ _ _
    match h : (M.fr i.toNat).part off.toNat (2 : Int).toNat, this with
    | [x, y], _ => exact ⟨x, y, rfl⟩
def wordOf (r : List UInt8 × Int) : Int := match r with | ([x, y], 0) => (x.toNat : Int) + 256 * (y.toNat : Int) | _ => 0
set_option maxRecDepth 100000 in
theorem or_word (x y : UInt8) : bits .or .u16 (x.toNat : Int) ((y.toNat : Int) * 256) = (x.toNat : Int) + 256 * (y.toNat : Int) := by
  have hx := x.toNat_lt
  have hy := y.toNat_lt
  have h := u16_or_nat x.toNat (y.toNat * 256) (by omega) (by omega)
  have e : ((y.toNat * 256 : Nat) : Int) = (y.toNat : Int) * 256 := by push_cast; rfl
  rw [e] at h
  rw [h]
  have := Nat.two_pow_add_eq_or_of_lt (i := 8) (b := x.toNat) (by omega) y.toNat
  rw [Nat.or_comm] at this
  rw [show y.toNat * 256 = 2 ^ 8 * y.toNat by omega, ← this]
  omega
set_option maxRecDepth 100000 in
theorem vWord (V G B : Nat) (S : Nat → Prop) (l : List PokeV) (n T : Nat) (f : Int → Option Value) (i off : Int) (w : World) (M : Mach) (X : Int) (h : VV w V G B S l n T f) (hM : PM w B M) (hok : M.ok X) (hf : ∀ p ∈ l, p.fits) (hn : (n : Int) < 9223372036854775807) (hll : l.length ≤ 64) (ho : off ≤ 9223372036854775807) :
    Calls Try.prog 82 #[.pointer (some ⟨V, 0, none⟩), .int .i64 i, .int .i64 off] w fun e w' => e = .returned (.tuple #[.int .u16 (wordOf ((M.rews (due l n)).read i off 2)), .int .i64 ((M.rews (due l n)).read i off 2).2]) ∧ VRead w V G B S l n T M w' := by
  have HR := hid (vRead V G B S l n T f i off 2 w M X h hM hok hf hn hll ho)
  have HB := hid h
  clear h hM hok hf
  obtain ⟨r, hr⟩ : ∃ r, (M.rews (due l n)).read i off 2 = r := ⟨_, rfl⟩
  have h2 := read_two (M.rews (due l n)) i off
  rw [hr] at h2 HR ⊢
  clear hr
  obtain ⟨bs, c⟩ := r
  rcases h2 with ⟨h1, h2⟩ | ⟨h1, x, y, h2⟩
  · simp only at h1 h2
    subst h1 h2
    go_enter Try.func82, Try.ntmps82
    go_wp2_with (go_at_call 80; refine HR.out.mono ?_; rintro e w1 ⟨v, rfl, hb, hv⟩; have HV := hid hv; clear hb hv)
    go_ret2
    exact ⟨rfl, HV.out⟩
  · simp only at h1 h2
    subst h1 h2
    have hx := x.toNat_lt
    have hy := y.toNat_lt
    go_enter Try.func82, Try.ntmps82
    go_wp2_with (go_at_call 80; refine HR.out.mono ?_; rintro e w1 ⟨v, rfl, hb, hv⟩; have HV := hid hv; obtain ⟨q, cc, rfl, hk⟩ := hb; clear hv)
    rcases hk with hk | ⟨g, rfl, _, hk⟩
    · cases hk
    · have k0 := hk 0 (by simp)
      have k1 := hk 1 (by simp)
      simp only [List.getD_cons_zero, List.getD_cons_succ] at k0 k1
      clear hk
      go_quiet (fail)
      all_goals go_wp2
      all_goals go_ret2
      all_goals exact ⟨(by show Ending.returned (.tuple #[.int .u16 (bits .or .u16 (x.toNat : Int) ((y.toNat : Int) * 256)), .int .i64 0]) = _; rw [or_word x y]; rfl), ⟨⟨_, HV.out.view.choose_spec.grown (grownBy_drewN _ _ _)⟩, HV.out.mach.grown (grownBy_drewN _ _ none) (by simp), HV.out.chg.trans (Chg.of0 (S := fun k => k = V ∨ k = G ∨ k = B) (grownBy_drewN _ _ _)) fun _ h => .inl h⟩⟩
end Go.Proofs.Ytibiianmpajabaa

/-
  Bytes as strings. No walk here.
-/
set_option linter.unusedSimpArgs false
set_option linter.unusedVariables false
namespace Go.Proofs.Ytibiianmpajabaa
open Go.RowKit
set_option maxHeartbeats 1000000

theorem vconv_empty (w : World) (pa : Option Addr) (cap : Nat) : (convert 31 9 (.slice pa 0 cap)).run Try.prog w = .ok (.string ⟨#[]⟩) w := by
  cases pa with
  | none => rw [run_convert_bytes_string w 31 9 5 none 0 cap Try.underlying31 Try.underlying5 Try.underlying9]; simp [Conv.bytesToString]; rfl
  | some a => exact run_convert_bytes_back w 31 9 5 a cap [] Try.underlying31 Try.underlying5 Try.underlying9 (fun j hj => by simp at hj)
theorem vconv_row (w : World) (g o n cap : Nat) (l : List UInt8) (hl : l.length = n) (hc : ∀ k, k < n → w.cell? ⟨g, o + k, none⟩ = some (.int .u8 (l.getD k 0).toNat)) :
    (convert 31 9 (.slice (some ⟨g, o, none⟩) n cap)).run Try.prog w = .ok (.string ⟨l.toArray⟩) w := by
  subst hl
  refine run_convert_bytes_back w 31 9 5 ⟨g, o, none⟩ cap l Try.underlying31 Try.underlying5 Try.underlying9 (fun j hj => ?_)
  have e : (⟨g, o, none⟩ : Addr).add j = ⟨g, o + j, none⟩ := by unfold Addr.add; split <;> simp_all
  rw [e, hc j hj]
  simp [List.getD, List.getElem?_eq_getElem hj]
theorem in_string {w : World} {l : List UInt8} {p : Option Addr} (h : InBytes w p l) (c : Nat) (W : World) (hg : w.grownBy W none) : (convert 31 9 (.slice p l.length c)).run Try.prog W = .ok (.string ⟨l.toArray⟩) W := by
  rcases h with rfl | ⟨b, o, rfl, _, hc⟩
  · exact vconv_empty W _ _
  · exact vconv_row W b o _ _ _ rfl fun k hk => hg.cell (hc k hk) (by simp)
end Go.Proofs.Ytibiianmpajabaa

/-
  Bytes as strings; a machine behind reads. No walk here.
-/
set_option linter.unusedSimpArgs false
set_option linter.unusedVariables false
namespace Go.Proofs.Ytibiianmpajabaa
open Go.RowKit
set_option maxHeartbeats 1000000

theorem kept_string {w : World} {S : Nat → Prop} {l : List UInt8} {p : Option Addr} (h : KeptBytes w S p l) (c : Nat) (W : World) (hg : w.grownBy W none) : (convert 31 9 (.slice p l.length c)).run Try.prog W = .ok (.string ⟨l.toArray⟩) W := by
  rcases h with rfl | ⟨g, rfl, _, hc⟩
  · exact vconv_empty W _ _
  · exact vconv_row W g 0 _ _ _ rfl fun k hk => by rw [Nat.zero_add]; exact hg.cell (hc k hk) (by simp)

/-- the machine behind k reads -/
def Mach.after (M : Mach) (l : List PokeV) : Nat → Mach
  | 0 => M
  | k + 1 => (M.after l k).rews (due l k)
theorem Mach.after_ok {M : Mach} {T : Int} (h : M.ok T) (l : List PokeV) (k : Nat) : (M.after l k).ok T := by
  induction k with
  | zero => exact h
  | succ k ih => exact Mach.rews_ok _ ih
theorem Mach.after_n (M : Mach) (l : List PokeV) (k : Nat) : (M.after l k).n = M.n := by
  induction k with
  | zero => rfl
  | succ k ih => exact (Mach.rews_n _ _).trans ih
theorem Mach.after_fr (M : Mach) (l : List PokeV) (k j : Nat) : ((M.after l k).fr j).owner = (M.fr j).owner ∧ ((M.after l k).fr j).ty = (M.fr j).ty ∧ ((M.fr j).may = false → (M.after l k).fr j = M.fr j) := by
  induction k with
  | zero => exact ⟨rfl, rfl, fun _ => rfl⟩
  | succ k ih =>
    obtain ⟨h1, h2, h3⟩ := ih
    obtain ⟨g1, g2, g3⟩ := Mach.rews_fr (due l k) (M.after l k) j
    refine ⟨g1.trans h1, g2.trans h2, fun h => (g3 ?_).trans (h3 h)⟩
    unfold Fr.may at h ⊢
    rw [h1, h2]; exact h
theorem read_page (M : Mach) (j : Nat) (hj : (j : Int) < M.n) : M.read j 0 256 = ((M.fr j).part 0 256, 0) := by
  unfold Mach.read
  rw [if_neg (by rw [Mach.is_yes (by omega) hj]; simp), if_neg (by rw [inP_yes (by omega) (by omega) (by omega)]; simp)]
  simp
end Go.Proofs.Ytibiianmpajabaa

/-
  Package tenementref02 over the reference's machine: the view in block U; New, Rest.
-/
set_option linter.unusedSimpArgs false
set_option linter.unusedVariables false
namespace Go.Proofs.Ytibiianmpajabaa
open Go.RowKit
set_option maxHeartbeats 4000000

def rvTop (b : Nat) (pa : Option Addr) (len cap : Nat) (n : Int) (k : Nat) : Value := if k = 0 then .pointer (some ⟨b, 0, none⟩) else if k = 1 then .slice pa len cap else .int .i64 n
/-- the reference's view in block U over the machine in block b, before read n -/
def RV (w : World) (U b : Nat) (pa : Option Addr) (len cap : Nat) (n : Int) : Prop := Row w U 57 3 (rvTop b pa len cap n)
section
variable {w : World} {U b : Nat} {pa : Option Addr} {len cap : Nat} {n : Int}
theorem RV.c0 (h : RV w U b pa len cap n) : w.cell? ⟨U, 0, none⟩ = some (.pointer (some ⟨b, 0, none⟩)) := Row.cell h (k := 0) (by omega)
theorem RV.c1 (h : RV w U b pa len cap n) : w.cell? ⟨U, 1, none⟩ = some (.slice pa len cap) := Row.cell h (k := 1) (by omega)
theorem RV.c2 (h : RV w U b pa len cap n) : w.cell? ⟨U, 2, none⟩ = some (.int .i64 n) := Row.cell h (k := 2) (by omega)
end
set_option maxRecDepth 100000 in
theorem rvNew_long (b : Nat) (pa : Option Addr) (len cap : Nat) (w : World) (h : 64 < len) : Calls Try.prog 21 #[.pointer (some ⟨b, 0, none⟩), .slice pa len cap] w fun e w' => e = .returned (.tuple #[.pointer none, .int .i64 2]) ∧ w = w' := by
  have h' : (64 : Int) < len := by omega
  go_enter Try.func21, Try.ntmps21
  go_wp2
  go_ret2
  exact ⟨rfl, rfl⟩
set_option maxRecDepth 100000 in
theorem rvNew (b : Nat) (pa : Option Addr) (len cap : Nat) (w : World) (h : len ≤ 64) : Calls Try.prog 21 #[.pointer (some ⟨b, 0, none⟩), .slice pa len cap] w fun e w' => e = .returned (.tuple #[.pointer (some ⟨w.heap.size, 0, none⟩), .int .i64 0]) ∧ RV w' w.heap.size b pa len cap 0 ∧ w.grownBy w' none := by
  have h' : (len : Int) ≤ 64 := by omega
  go_enter Try.func21, Try.ntmps21
  go_wp2
  go_ret2
  refine ⟨rfl, ⟨_, heap_alloc_new w _, by simp, fun k hk => by match k, hk with | 0, _ => rfl | 1, _ => rfl | 2, _ => rfl⟩, World.grownBy_alloc w _ none⟩
def cntT (l : List PokeV) (n : Nat) (k : Nat) : Nat := ((l.take k).filter fun p => decide ((n : Int) ≤ p.t)).length
theorem cntT_le (l : List PokeV) (n k : Nat) : cntT l n k ≤ k := Nat.le_trans (List.length_filter_le _ _) (by simp; omega)
theorem cntT_all (l : List PokeV) (n : Nat) : cntT l n l.length = restN l n := by simp [cntT, restN]
theorem cntT_yes (l : List PokeV) (n k : Nat) (h : k < l.length) (hy : (n : Int) ≤ l[k].t) : cntT l n (k + 1) = cntT l n k + 1 := by
  unfold cntT
  rw [List.take_add_one, List.getElem?_eq_getElem h, List.filter_append]
  simp [hy]
theorem cntT_no (l : List PokeV) (n k : Nat) (h : k < l.length) (hy : ¬ (n : Int) ≤ l[k].t) : cntT l n (k + 1) = cntT l n k := by
  unfold cntT
  rw [List.take_add_one, List.getElem?_eq_getElem h, List.filter_append]
  simp [hy]
set_option maxRecDepth 100000 in
theorem rvRest (U b : Nat) (pa : Option Addr) (cap : Nat) (l : List PokeV) (n : Nat) (w : World) (h : RV w U b pa l.length cap n) (hp : PokesIn w pa l) (hl : l.length ≤ 64) :
    Calls Try.prog 25 #[.pointer (some ⟨U, 0, none⟩)] w fun e w' => e = .returned (.int .i64 (restN l n)) ∧ w.grownBy w' none := by
  have H := hid h; have HP := hid hp
  clear h hp
  go_enter Try.func25, Try.ntmps25
  go_wp2
  go_loopw [3, 4] (fun c x wr => ∃ k : Nat, x = .int .i64 k ∧ k ≤ l.length ∧ c = .int .i64 (cntT l n k) ∧ RV wr U b pa l.length cap n ∧ PokesIn wr pa l ∧ w.grownBy wr none) (fun _ x _ => l.length - (intOf x).toNat)
  case atStart => exact ⟨0, rfl, by omega, by simp [cntT], H.out, HP.out, World.grownBy.refl _ _⟩
  case round =>
    obtain ⟨k, rfl, hk, rfl, hv, hp, hg⟩ := hrel
    have hc1 := hv.c1; have hc2 := hv.c2
    have HV := hid hv; have HPw := hid hp; have HG := hid hg
    clear hv hg H HP
    have hk0 : (0 : Int) ≤ k := by omega
    by_cases hkl : k < l.length
    · have hkl' : (k : Int) < l.length := by omega
      obtain ⟨pb, po, qa, qc, rfl, _, d0, _⟩ := hp k hkl
      have hb := cntT_le l n k
      by_cases hy : (n : Int) ≤ l[k].t
      · have HC := hid (cntT_yes l n k hkl hy)
        go_upto_region 5 with (fail)
        go_quiet (fail)
        go_wp2
        go_roundw
        case rel => exact ⟨k + 1, by go_num, by omega, by rw [HC.out]; go_num, Row.grown HV.out (grownBy_drewN _ _ none) (by simp), HPw.out.grown (grownBy_drewN _ _ none), HG.out.trans (grownBy_drewN _ _ none)⟩
        case measure => simp [intOf]; omega
      · have HC := hid (cntT_no l n k hkl hy)
        have hy' : l[k].t < (n : Int) := by omega
        go_upto_region 5 with (fail)
        go_quiet (fail)
        go_wp2
        go_roundw
        case rel => exact ⟨k + 1, by go_num, by omega, by rw [HC.out], Row.grown HV.out (grownBy_drewN _ _ none) (by simp), HPw.out.grown (grownBy_drewN _ _ none), HG.out.trans (grownBy_drewN _ _ none)⟩
        case measure => simp [intOf]; omega
    · obtain rfl : k = l.length := by omega
      have hge : ¬ (l.length : Int) < l.length := by omega
      clear hp
      go_wp2
      go_ret
      exact ⟨by rw [cntT_all]; rfl, HG.out⟩
end Go.Proofs.Ytibiianmpajabaa

/-
  Package tenementref02 over the reference's machine: rewrite.
-/
set_option linter.unusedSimpArgs false
set_option linter.unusedVariables false
namespace Go.Proofs.Ytibiianmpajabaa
open Go.RowKit
set_option maxHeartbeats 4000000

theorem rew_in {M : Mach} {p : PokeV} (h : M.is p.i = false ∨ inP p.off p.l.length = false) : M.rew p = M := by
  unfold Mach.rew Mach.write
  rcases h with e | e
  · simp [e]
  · split <;> simp [e]
theorem rew_no {M : Mach} {p : PokeV} (h : (M.fr p.i.toNat).may = false) : M.rew p = M := by
  unfold Mach.rew Mach.may
  simp [h]
theorem rew_yes {M : Mach} {p : PokeV} (h : M.is p.i = true) (hm : (M.fr p.i.toNat).may = true) : M.rew p = (M.write p.i p.off p.l).2 := by
  unfold Mach.rew Mach.may
  simp [h, hm]
theorem RV.grown {w w' : World} {U b : Nat} {pa : Option Addr} {len cap : Nat} {n : Int} (h : RV w U b pa len cap n) (hg : w.grownBy w' none) : RV w' U b pa len cap n := Row.grown h hg (by simp)
def pokeV (p : PokeV) (qa : Option Addr) (qc : Nat) : Value := .agg #[.int .i64 p.t, .int .i64 p.i, .int .i64 p.off, .slice qa p.l.length qc]
/-- what a rewrite leaves -/
def RLeft0 (b : Nat) (L : Lay) (w : World) (M' : Mach) (w' : World) : Prop := ∃ L', RM w' b M' L' ∧ L'.n = L.n ∧ Chg (L.foot b) w w' ∧ ∀ k, L'.foot b k → L.foot b k ∨ w.heap.size ≤ k
theorem RLeft0.same {b : Nat} {L : Lay} {w w' : World} {M : Mach} (h : RM w b M L) (hg : w.grownBy w' none) : RLeft0 b L w M w' := ⟨L, h.grown hg, rfl, Chg.of0 hg, fun _ h => .inl h⟩
set_option maxRecDepth 100000 in
theorem rvRew_in (U b : Nat) (pa : Option Addr) (len cap : Nat) (n : Int) (p : PokeV) (qa : Option Addr) (qc : Nat) (w : World) (M : Mach) (L : Lay) (h : RV w U b pa len cap n) (hM : RM w b M L) (hf : p.fits) (hi : M.is p.i = false ∨ inP p.off p.l.length = false) :
    Calls Try.prog 133 #[.pointer (some ⟨U, 0, none⟩), pokeV p qa qc] w fun e w' => e = .returned (.tuple #[]) ∧ w.grownBy w' none := by
  have H := hid h; have HM := hid hM
  have HG1 := hid (World.grownBy_alloc w (.cells #[.int .i64 p.t, .int .i64 p.i, .int .i64 p.off, .slice qa p.l.length qc] 159) none)
  have e0 := (H.out.grown HG1.out).c0
  have HIn := hid (fun W (hg : (w.alloc (.cells #[.int .i64 p.t, .int .i64 p.i, .int .i64 p.off, .slice qa p.l.length qc] 159)).grownBy W none) => In_no b p.i p.off p.l.length W M L (HM.out.grown (HG1.out.trans hg)) (by have := hf.2.2.2; omega) hi)
  clear h hM hi
  unfold pokeV
  go_enter Try.func133, Try.ntmps133
  go_upto_region 1 with (fail)
  go_quiet ((go_at_call 129; refine Calls.quiet_of_same (v := .bool false) ((HIn.out _ (grownBy_drewN _ _ _)).mono ?_); rintro e w' ⟨rfl, rfl⟩; exact ⟨rfl, rfl⟩))
  go_wp2
  (try simp only [Exit.inBlock, Exit.then])
  refine bodyPost_ret (results_none rfl _ _ _) rfl ?_
  exact ⟨rfl, HG1.out.trans (grownBy_drewN _ _ _)⟩
theorem may_no' {f : Fr} (h : f.may = false) : f.owner < 0 ∨ (0 ≤ f.owner ∧ f.ty = 2) ∨ (0 ≤ f.owner ∧ f.ty ≠ 2 ∧ f.ty = 3) := by
  unfold Fr.may at h
  by_cases h0 : 0 ≤ f.owner
  · by_cases h2 : f.ty = 2
    · exact .inr (.inl ⟨h0, h2⟩)
    · by_cases h3 : f.ty = 3
      · exact .inr (.inr ⟨h0, h2, h3⟩)
      · simp [h0, h2, h3] at h
  · exact .inl (by omega)
theorem may_yes' {f : Fr} (h : f.may = true) : 0 ≤ f.owner ∧ f.ty ≠ 2 ∧ f.ty ≠ 3 := by
  unfold Fr.may at h
  simp only [Bool.and_eq_true, decide_eq_true_eq, bne_iff_ne] at h
  exact ⟨h.1.1, h.1.2, h.2⟩
theorem Apart.grown {w W : World} {L : Lay} {b : Nat} {pa : Option Addr} {l : List UInt8} (h : Apart w L b pa l) (hg : w.grownBy W none) : Apart W L b pa l := fun k hk => by
  obtain ⟨sb, so, e, hn, hc⟩ := h k hk
  exact ⟨sb, so, e, hn, hg.cell hc (by simp)⟩
theorem In_yes' {b : Nat} {i off n : Int} {w : World} {M : Mach} {L : Lay} (h : RM w b M L) (hi : M.is i = true) (hp : inP off n = true) : Calls Try.prog 129 #[.pointer (some ⟨b, 0, none⟩), .int .i64 i, .int .i64 off, .int .i64 n] w fun e w' => e = .returned (.bool true) ∧ w = w' := by
  obtain ⟨i0, i1⟩ := Mach.is_iff.1 hi
  obtain ⟨p0, p1, p2⟩ := inP_iff.1 hp
  obtain ⟨j, rfl⟩ := Int.eq_ofNat_of_zero_le i0
  obtain ⟨o, rfl⟩ := Int.eq_ofNat_of_zero_le p0
  obtain ⟨m, rfl⟩ := Int.eq_ofNat_of_zero_le p1
  exact In_yes b j o m w M L h (by have := h.hn; omega) (by omega)
set_option maxRecDepth 100000 in
theorem rvRew_yes (U b : Nat) (pa : Option Addr) (len cap : Nat) (n : Int) (t off : Int) (j : Nat) (l : List UInt8) (qa : Option Addr) (qc : Nat) (w : World) (M : Mach) (L : Lay) (h : RV w U b pa len cap n) (hM : RM w b M L) (hj : j < L.n) (hp : inP off l.length = true) (hmax : l.length ≤ 140737488351232) (hq : Apart w L b qa l) :
    Calls Try.prog 133 #[.pointer (some ⟨U, 0, none⟩), pokeV ⟨t, j, off, l⟩ qa qc] w fun e w' => e = .returned (.tuple #[]) ∧ RLeft0 b L w (M.rew ⟨t, j, off, l⟩) w' := by
  have H := hid h; have HM := hid hM; have HA := hid hq
  have HG1 := hid (World.grownBy_alloc w (.cells #[.int .i64 t, .int .i64 j, .int .i64 off, .slice qa l.length qc] 159) none)
  have e0 := (H.out.grown HG1.out).c0
  have hhn := hM.hn
  have hi : M.is j = true := Mach.is_yes (by omega) (by omega)
  have HIn := hid (fun W (hg : (w.alloc (.cells #[.int .i64 t, .int .i64 j, .int .i64 off, .slice qa l.length qc] 159)).grownBy W none) => In_yes' (HM.out.grown (HG1.out.trans hg)) hi hp)
  have HI := hid hi
  have hj0 : (0 : Int) ≤ j := by omega
  have hj1 : (j : Int) < L.n := by omega
  clear h hM hq hi hp hhn
  unfold pokeV
  go_enter Try.func133, Try.ntmps133
  go_upto_region 1 with (fail)
  go_quiet ((go_at_call 129; refine Calls.quiet_of_same (v := .bool true) ((HIn.out _ (grownBy_drewN _ _ _)).mono ?_); rintro e w' ⟨rfl, rfl⟩; exact ⟨rfl, rfl⟩))
  have HG2 := hid (HG1.out.trans (grownBy_drewN _ nq none))
  obtain ⟨W2, hW2⟩ : ∃ W2, (w.alloc (.cells #[.int .i64 t, .int .i64 j, .int .i64 off, .slice qa l.length qc] 159)).drewN nq = W2 := ⟨_, rfl⟩
  have d1 : W2.cell? ⟨w.heap.size, 1, none⟩ = some (.int .i64 j) := by rw [← hW2]; simp [cell_of_row _ _ _ _ _ _ (heap_alloc_new w _)]
  have d2 : W2.cell? ⟨w.heap.size, 2, none⟩ = some (.int .i64 off) := by rw [← hW2]; simp [cell_of_row _ _ _ _ _ _ (heap_alloc_new w _)]
  have d3 : W2.cell? ⟨w.heap.size, 3, none⟩ = some (.slice qa l.length qc) := by rw [← hW2]; simp [cell_of_row _ _ _ _ _ _ (heap_alloc_new w _)]
  rw [hW2] at HG2
  rw [hW2]
  clear hW2 e0 HIn HG1
  have HM2 := hid (HM.out.grown HG2.out)
  have fs : ∀ W, W2.grownBy W none → W.cell? ⟨U, 0, none⟩ = some (.pointer (some ⟨b, 0, none⟩)) ∧ W.cell? ⟨b, 0, none⟩ = some (.slice (some ⟨L.fF, 0, none⟩) L.n L.cF) ∧ W.cell? ⟨L.fF, j * 4, none⟩ = some (.int .i64 (M.fr j).owner) ∧ W.cell? ⟨L.fF, j * 4 + 1, none⟩ = some (.int .i64 (M.fr j).ty) ∧ W.cell? ⟨L.fF, j * 4 + 2, none⟩ = some (.int .i64 (M.fr j).cnt) ∧ W.cell? ⟨L.fF, j * 4 + 3, none⟩ = some (.int .i64 (M.fr j).tot) ∧ W.cell? ⟨w.heap.size, 1, none⟩ = some (.int .i64 j) := fun W hg => by
    have HMW := HM2.out.grown hg
    exact ⟨((H.out.grown HG2.out).grown hg).c0, HMW.slF, HMW.hd (r := 0) hj (by omega), HMW.hd (r := 1) hj (by omega), HMW.cnt hj, HMW.tot hj, hg.cell d1 (by simp)⟩
  obtain ⟨c0, c1, f0, f1, f2, f3, _⟩ := fs W2 (World.grownBy.refl _ _)
  obtain ⟨a0, a1, g0, g1, g2, g3, a2⟩ := fs (W2.alloc (.cells #[.int .i64 0, .int .i64 0, .int .i64 0, .int .i64 0] 100)) (World.grownBy_alloc _ _ _)
  clear fs
  go_upto_region 2 with (fail)
  go_region
  go_upto_region 3 with (fail)
  obtain ⟨W3, hW3⟩ : ∃ W3, (W2.alloc (.cells #[.int .i64 (M.fr j).owner, .int .i64 (M.fr j).ty, .int .i64 (M.fr j).cnt, .int .i64 (M.fr j).tot] 100)).drew = W3 := ⟨_, rfl⟩
  have hg3 : W2.grownBy W3 none := hW3 ▸ (World.grownBy_alloc W2 _ none).trans (grownBy_drew _ none)
  have HG3 := hid (HG2.out.trans hg3)
  have q0 : W3.cell? ⟨W2.heap.size, 0, none⟩ = some (.int .i64 (M.fr j).owner) := by rw [← hW3]; simp [cell_of_row _ _ _ _ _ _ (heap_alloc_new W2 _)]
  have q1 : W3.cell? ⟨W2.heap.size, 1, none⟩ = some (.int .i64 (M.fr j).ty) := by rw [← hW3]; simp [cell_of_row _ _ _ _ _ _ (heap_alloc_new W2 _)]
  rw [hW3]
  replace d1 := hg3.cell d1 (by simp)
  replace d2 := hg3.cell d2 (by simp)
  replace d3 := hg3.cell d3 (by simp)
  have b0 := ((H.out.grown HG2.out).grown hg3).c0
  clear hW3 hg3 c0 c1 f0 f1 f2 f3 a0 a1 g0 g1 g2 g3 a2 HM2 HG2
  cases hmay : (M.fr j).may with
  | false =>
    have HR := hid (rew_no (M := M) (p := ⟨t, j, off, l⟩) hmay)
    have hmn := may_no' hmay
    clear hmay
    rcases hmn with m1 | ⟨m1, m2⟩ | ⟨m1, m2, m3⟩
    · go_wp2
      (try simp only [Exit.inBlock, Exit.then])
      refine bodyPost_ret (results_none rfl _ _ _) rfl ?_
      exact ⟨rfl, by rw [HR.out]; exact RLeft0.same HM.out HG3.out⟩
    · have m1' : ¬ (M.fr j).owner < 0 := by omega
      have m2b : ((M.fr j).ty == 2) = true := by simp [m2]
      clear m2
      go_wp2
      (try simp only [Exit.inBlock, Exit.then])
      refine bodyPost_ret (results_none rfl _ _ _) rfl ?_
      exact ⟨rfl, by rw [HR.out]; exact RLeft0.same HM.out HG3.out⟩
    · have m1' : ¬ (M.fr j).owner < 0 := by omega
      have m2b : ((M.fr j).ty == 2) = false := by simp [m2]
      have m3b : ((M.fr j).ty == 3) = true := by simp [m3]
      clear m2 m3
      go_wp2
      (try simp only [Exit.inBlock, Exit.then])
      refine bodyPost_ret (results_none rfl _ _ _) rfl ?_
      exact ⟨rfl, by rw [HR.out]; exact RLeft0.same HM.out HG3.out⟩
  | true =>
    have HR := hid (rew_yes (M := M) (p := ⟨t, j, off, l⟩) HI.out hmay)
    have HW := hid (fun W (hg : W3.grownBy W none) => (rWrite b j off qa qc l W M L (HM.out.grown (HG3.out.trans hg)) (by omega) (HA.out.grown (HG3.out.trans hg))).mono (R' := fun e w4 => e = .returned (.int .i64 (M.write j off l).1) ∧ RLeft0 b L w (M.rew ⟨t, j, off, l⟩) w4) (fun e w4 ⟨he, L4, h4, hn4, hc4, hf4⟩ => ⟨he, by
      rw [HR.out]
      exact ⟨L4, h4, hn4, (Chg.of0 (S := L.foot b) (HG3.out.trans hg)).trans hc4 (fun _ h => .inl h), fun k hk => (hf4 k hk).imp id (fun h => Nat.le_trans (HG3.out.trans hg).size h)⟩⟩))
    obtain ⟨m1, m2, m3⟩ := may_yes' hmay
    have m1' : ¬ (M.fr j).owner < 0 := by omega
    have m2b : ((M.fr j).ty == 2) = false := by simp [m2]
    have m3b : ((M.fr j).ty == 3) = false := by simp [m3]
    clear hmay m2 m3
    go_upto_region 4 with (fail)
    go_region_with (go_at_call 74; refine (HW.out _ (by first | exact World.grownBy.refl _ _ | exact grownBy_drew _ _)).mono ?_; rintro e w4 ⟨rfl, h4⟩; have H4 := hid h4; clear h4)
    all_goals go_wp2
    all_goals go_end0
    all_goals exact ⟨rfl, H4.out⟩
end Go.Proofs.Ytibiianmpajabaa

/-
  Package tenementref02 over the reference's machine: Read.
-/
set_option linter.unusedSimpArgs false
set_option linter.unusedVariables false
namespace Go.Proofs.Ytibiianmpajabaa
open Go.RowKit
set_option maxHeartbeats 1200000

theorem rvRew (U b : Nat) (pa : Option Addr) (len cap : Nat) (n : Int) (p : PokeV) (qa : Option Addr) (qc : Nat) (w : World) (M : Mach) (L : Lay) (h : RV w U b pa len cap n) (hM : RM w b M L) (hf : p.fits) (hq : Apart w L b qa p.l) :
    Calls Try.prog 133 #[.pointer (some ⟨U, 0, none⟩), .agg #[.int .i64 p.t, .int .i64 p.i, .int .i64 p.off, .slice qa p.l.length qc]] w fun e w' => e = .returned (.tuple #[]) ∧ RLeft0 b L w (M.rew p) w' := by
  by_cases hbad : M.is p.i = false ∨ inP p.off p.l.length = false
  · exact (rvRew_in U b pa len cap n p qa qc w M L h hM hf hbad).mono fun e w' ⟨he, hg⟩ => ⟨he, by rw [rew_in hbad]; exact RLeft0.same hM hg⟩
  · have his : M.is p.i = true := by cases e : M.is p.i with | true => rfl | false => exact absurd (.inl e) hbad
    have hin : inP p.off p.l.length = true := by cases e : inP p.off p.l.length with | true => rfl | false => exact absurd (.inr e) hbad
    obtain ⟨t, i, off, l⟩ := p
    obtain ⟨i0, i1⟩ := Mach.is_iff.1 his
    obtain ⟨j, rfl⟩ := Int.eq_ofNat_of_zero_le i0
    exact rvRew_yes U b pa len cap n t off j l qa qc w M L h hM (by have := hM.hn; simp only at i1; omega) hin hf.2.2.2 hq
/-- the reference's view while it works: from w on -/
structure XR (w wr : World) (U b : Nat) (pa : Option Addr) (len cap : Nat) (n : Int) (L : Lay) (M : Mach) (L' : Lay) : Prop where
  v : RV wr U b pa len cap n
  m : RM wr b M L'
  n : L'.n = L.n
  f : ∀ k, L'.foot b k → L.foot b k ∨ w.heap.size ≤ k
  c : Chg (L.foot b) w wr
theorem XR.step {w wr W : World} {U b : Nat} {pa : Option Addr} {len cap : Nat} {n : Int} {L L' : Lay} {M M' : Mach} (h : XR w wr U b pa len cap n L M L') (hU : ¬ L.foot b U) (hUw : U < w.heap.size) (hl : RLeft0 b L' wr M' W) : ∃ L2, XR w W U b pa len cap n L M' L2 := by
  obtain ⟨L2, h2, n2, c2, f2⟩ := hl
  have hsz := h.c.size
  refine ⟨L2, Row.chg h.v c2 (fun e => ?_), h2, n2.trans h.n, fun k hk => ?_, h.c.trans c2 h.f⟩
  · rcases h.f _ e with e | e
    · exact hU e
    · omega
  · rcases f2 k hk with e | e
    · exact h.f k e
    · exact .inr (by omega)
theorem XR.more {w wr W : World} {U b : Nat} {pa : Option Addr} {len cap : Nat} {n : Int} {L L' : Lay} {M : Mach} (h : XR w wr U b pa len cap n L M L') (hg : wr.grownBy W none) : XR w W U b pa len cap n L M L' :=
  ⟨h.v.grown hg, h.m.grown hg, h.n, h.f, h.c.trans (Chg.of0 (S := L.foot b) hg) (fun _ e => .inl e)⟩
theorem due_take_yes {l : List PokeV} {k : Nat} (h : k < l.length) {n : Int} (hy : l[k].t = n) (M : Mach) : M.rews (due (l.take (k + 1)) n) = (M.rews (due (l.take k) n)).rew l[k] := by
  rw [List.take_succ_eq_append_getElem h, due_snoc_yes hy, Mach.rews_snoc]
theorem due_take_no {l : List PokeV} {k : Nat} (h : k < l.length) {n : Int} (hy : l[k].t ≠ n) (M : Mach) : M.rews (due (l.take (k + 1)) n) = M.rews (due (l.take k) n) := by
  rw [List.take_succ_eq_append_getElem h, due_snoc_no hy]
set_option maxRecDepth 100000 in
theorem rvRead_loop (U b : Nat) (pa : Option Addr) (cap : Nat) (l : List PokeV) (n : Nat) (i off k : Int) (w0 w : World) (M : Mach) (L : Lay) (h : RV w U b pa l.length cap n) (hM : RM w b M L) (hp : PokesIn w0 pa l) (hl : l.length ≤ 64) (hn : (n : Int) < 9223372036854775807)
    (hg : w0.grownBy w none) (hU : ¬ L.foot b U) (far : ∀ k, L.foot b k → w0.heap.size ≤ k) (Q : Ending → World → Prop)
    (hend : ∀ wr L', XR w wr U b pa l.length cap n L (M.rews (due l n)) L' → Calls Try.prog 73 #[.pointer (some ⟨b, 0, none⟩), .int .i64 i, .int .i64 off, .int .i64 k] (wr.setCell ⟨U, 2, none⟩ (.int .i64 (n + 1 : Nat))) fun e w' => ∃ v r, e = .returned (.tuple #[v, r]) ∧ Q (.returned (.tuple #[v, r])) w') :
    Calls Try.prog 81 #[.pointer (some ⟨U, 0, none⟩), .int .i64 i, .int .i64 off, .int .i64 k] w Q := by
  have hUw : U < w.heap.size := Row.lt h
  have H0 : Hid (XR w w U b pa l.length cap n L (M.rews (due (l.take 0) n)) L) := hid ⟨h, hM, rfl, fun _ e => .inl e, Chg.refl _ _⟩
  have HP := hid hp; have HG := hid hg; have HFar := hid far; have HU := hid hU; have HE := hid hend
  have hfits := hp.fits
  have HFit := hid hfits
  clear h hM hp hg far hU hend hfits
  go_enter Try.func81, Try.ntmps81
  go_wp2
  go_loopw [10] (fun x wr => ∃ (j : Nat) (L' : Lay), x = .int .i64 j ∧ j ≤ l.length ∧ XR w wr U b pa l.length cap n L (M.rews (due (l.take j) n)) L') (fun x _ => l.length - (intOf x).toNat)
  case atStart => exact ⟨0, L, rfl, by omega, H0.out⟩
  case round =>
    obtain ⟨j, L', rfl, hj, hx⟩ := hrel
    have hc0 := hx.v.c0; have hc1 := hx.v.c1; have hc2 := hx.v.c2
    have HX := hid hx
    have HGr := hid (show w0.grownBy wr none from hx.c.grown HG.out (fun q e => HFar.out q e))
    clear hx H0
    have hj0 : (0 : Int) ≤ j := by omega
    by_cases hjl : j < l.length
    · have hjl' : (j : Int) < l.length := by omega
      have HPr := HP.out.grown HGr.out
      obtain ⟨pb, po, qa, qc, hpe, _, d0, d1, d2, d3, hf, hi⟩ := HP.out j hjl
      replace d0 := HGr.out.cell d0 (by simp); replace d1 := HGr.out.cell d1 (by simp); replace d2 := HGr.out.cell d2 (by simp); replace d3 := HGr.out.cell d3 (by simp)
      have hyes := fun (hy : l[j].t = n) => due_take_yes hjl hy M
      have hno := fun (hy : l[j].t ≠ n) => due_take_no hjl hy M
      obtain ⟨p, hpj⟩ : ∃ p, l[j] = p := ⟨_, rfl⟩
      rw [hpj] at d0 d1 d2 d3 hf hi hyes hno
      have HF := hid hf; have HI := hid hi
      clear hf hi HPr hpj
      by_cases hy : p.t = n
      · have HS := hid (hyes hy)
        have hyt : (p.t == (n : Int)) = true := by simp [hy]
        clear hy hyes hno
        go_upto_region 4 with (fail)
        go_quiet (fail)
        obtain ⟨W5, hW5⟩ : ∃ W5, wr.drewN nq = W5 := ⟨_, rfl⟩
        have hg5 : wr.grownBy W5 none := hW5 ▸ grownBy_drewN _ _ _
        rw [hW5]
        have HX5 := hid (HX.out.more hg5)
        have HG5 := hid (HGr.out.trans hg5)
        replace d0 := hg5.cell d0 (by simp); replace d1 := hg5.cell d1 (by simp); replace d2 := hg5.cell d2 (by simp); replace d3 := hg5.cell d3 (by simp)
        replace hc0 := HX5.out.v.c0; replace hc1 := HX5.out.v.c1; replace hc2 := HX5.out.v.c2
        clear hW5 hg5 hyt
        go_wp2_with (go_at_call 133; refine (rvRew U b _ l.length cap n p qa qc _ _ L' HX5.out.v HX5.out.m HF.out (HI.out.apart HG5.out (fun q hq => by rcases HX5.out.f q hq with e | e; (exact HFar.out q e); (have := HG.out.size; omega)))).mono ?_; rintro e w6 ⟨rfl, h6⟩; obtain ⟨L6, h6'⟩ := HX5.out.step HU.out hUw h6; have H6 := hid h6'; clear h6 h6')
        go_roundw
        case rel => exact ⟨j + 1, L6, by go_num, by omega, by rw [HS.out]; exact H6.out⟩
        case measure => simp [intOf]; omega
      · have HS := hid (hno hy)
        have hyt : (p.t == (n : Int)) = false := by simp [hy]
        clear hy hyes hno
        go_upto_region 4 with (fail)
        go_quiet (fail)
        go_wp2
        go_roundw
        case rel => exact ⟨j + 1, L', by go_num, by omega, by rw [HS.out]; exact HX.out.more (grownBy_drewN _ _ _)⟩
        case measure => simp [intOf]; omega
    · obtain rfl : j = l.length := by omega
      have hge : ¬ (l.length : Int) < l.length := by omega
      have hfz : wr.frozen? ⟨U, 2, none⟩ = false := Row.frozen HX.out.v 2
      have HX2 := hid (show XR w wr U b pa l.length cap n L (M.rews (due l n)) L' by have := HX.out; rwa [List.take_length] at this)
      go_wp2_with (go_at_call 73; refine (HE.out _ _ HX2.out).mono ?_; rintro e w7 ⟨v, r, rfl, hq⟩; have HQ := hid hq; clear hq)
      first
        | exact HQ.out
        | (go_ret2; exact HQ.out)
end Go.Proofs.Ytibiianmpajabaa

/-
  Package tenementref02 over the reference's machine: Read, whole.
-/
set_option linter.unusedSimpArgs false
set_option linter.unusedVariables false
namespace Go.Proofs.Ytibiianmpajabaa
open Go.RowKit
set_option maxHeartbeats 1200000

theorem read_bad {M : Mach} {i off n : Int} (h : M.is i = false ∨ inP off n = false) : M.read i off n = ([], 1) := by
  unfold Mach.read
  rcases h with e | e
  · simp [e]
  · cases M.is i <;> simp [e]
theorem read_good {M : Mach} {i off n : Int} (h : M.is i = true) (hp : inP off n = true) : M.read i off n = ((M.fr i.toNat).part off.toNat n.toNat, 0) := by
  unfold Mach.read
  simp [h, hp]
/-- Read of the reference's machine, whole -/
theorem rRead_all (b : Nat) (i off n : Int) (w : World) (M : Mach) (L : Lay) (h : RM w b M L) (hn : n ≤ 9223372036854775807) :
    Calls Try.prog 73 #[.pointer (some ⟨b, 0, none⟩), .int .i64 i, .int .i64 off, .int .i64 n] w fun e w' => ∃ v, e = .returned (.tuple #[v, .int .i64 (M.read i off n).2]) ∧ OutBytes w (M.read i off n).1 v w' := by
  by_cases hbad : M.is i = false ∨ inP off n = false
  · rw [read_bad hbad]
    exact (rRead_no b i off n w M L h hn hbad).mono fun e w' ⟨he, hw⟩ => ⟨_, he, none, 0, rfl, .inl rfl, hw ▸ World.grownBy.refl w none⟩
  · have his : M.is i = true := by cases e : M.is i with | true => rfl | false => exact absurd (.inl e) hbad
    have hin : inP off n = true := by cases e : inP off n with | true => rfl | false => exact absurd (.inr e) hbad
    rw [read_good his hin]
    obtain ⟨i0, i1⟩ := Mach.is_iff.1 his
    obtain ⟨p0, p1, p2⟩ := inP_iff.1 hin
    obtain ⟨j, rfl⟩ := Int.eq_ofNat_of_zero_le i0
    obtain ⟨o, rfl⟩ := Int.eq_ofNat_of_zero_le p0
    obtain ⟨m, rfl⟩ := Int.eq_ofNat_of_zero_le p1
    exact rRead_yes b j o m w M L h (by have := h.hn; omega) (by omega)
theorem rvRead (U b : Nat) (pa : Option Addr) (cap : Nat) (l : List PokeV) (n : Nat) (i off k : Int) (w0 w : World) (M : Mach) (L : Lay) (h : RV w U b pa l.length cap n) (hM : RM w b M L) (hp : PokesIn w0 pa l) (hl : l.length ≤ 64) (hn : (n : Int) < 9223372036854775807) (hk : k ≤ 9223372036854775807)
    (hg : w0.grownBy w none) (hU : ¬ L.foot b U) (far : ∀ k, L.foot b k → w0.heap.size ≤ k) :
    Calls Try.prog 81 #[.pointer (some ⟨U, 0, none⟩), .int .i64 i, .int .i64 off, .int .i64 k] w fun e w' => ∃ v, e = .returned (.tuple #[v, .int .i64 ((M.rews (due l n)).read i off k).2]) ∧
      (∃ p c, v = .slice p ((M.rews (due l n)).read i off k).1.length c ∧ InBytes w' p ((M.rews (due l n)).read i off k).1) ∧ RV w' U b pa l.length cap (n + 1 : Nat) ∧
      ∃ L', RM w' b (M.rews (due l n)) L' ∧ L'.n = L.n ∧ Chg (fun q => q = U ∨ L.foot b q) w w' ∧ ∀ q, L'.foot b q → L.foot b q ∨ w.heap.size ≤ q := by
  have hUw : U < w.heap.size := Row.lt h
  refine rvRead_loop U b pa cap l n i off k w0 w M L h hM hp hl hn hg hU far _ fun wr L' hx => ?_
  have hU' : ¬ L'.foot b U := fun e => by rcases hx.f U e with e | e; (exact hU e); omega
  have hc : Chg (fun q => q = U) wr (wr.setCell ⟨U, 2, none⟩ (.int .i64 (n + 1 : Nat))) := Chg.of (grownBy_setCell wr U 2 none _) fun j e => .inl (Option.some.inj e).symm
  have hm2 := hx.m.chg hc (fun q hq e => hU' (e ▸ hq))
  have hv2 : RV (wr.setCell ⟨U, 2, none⟩ (.int .i64 (n + 1 : Nat))) U b pa l.length cap (n + 1 : Nat) := Row.set hx.v (k := 2) rfl (fun j hj hne => by
    match j, hj, hne with
    | 0, _, _ => rfl
    | 1, _, _ => rfl
    | 2, _, hne => exact absurd rfl hne)
  refine (rRead_all b i off k _ _ L' hm2 hk).mono fun e w' ⟨v, he, p, c, hv, hin, hgw⟩ => ⟨v, _, he, v, rfl, ⟨p, c, hv, hin⟩, hv2.grown hgw, L', hm2.grown hgw, hx.n, ?_, hx.f⟩
  refine Chg.trans (S' := fun q => q = U) ?_ (hc.trans (Chg.of0 (S := fun q => q = U) hgw) fun _ e => .inl e) (fun q e => .inl (.inl e))
  exact ⟨hx.c.os, hx.c.tape, hx.c.output, hx.c.size, fun q hq hS => hx.c.block q hq fun e => hS (.inr e)⟩
end Go.Proofs.Ytibiianmpajabaa
