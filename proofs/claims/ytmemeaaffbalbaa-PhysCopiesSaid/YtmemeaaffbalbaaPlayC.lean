/-
  Contract of play: Alloc, Read.
-/
import Derived.Test.YtmemeaaffbalbaaPlayB
import Derived.Laws.IdiomStrings
namespace Go.Proofs.Ytmemeaaffbalbaa
open Go.RowKit
set_option maxHeartbeats 1000000

theorem conv_empty (w : World) (pa : Option Addr) (cap : Nat) : (convert 31 9 (.slice pa 0 cap)).run Try.prog w = .ok (.string ⟨#[]⟩) w := by
  cases pa with
  | none => rw [run_convert_bytes_string w 31 9 5 none 0 cap Try.underlying31 Try.underlying5 Try.underlying9]; simp [Conv.bytesToString]; rfl
  | some a => exact run_convert_bytes_back w 31 9 5 a cap [] Try.underlying31 Try.underlying5 Try.underlying9 (fun j hj => by simp at hj)
theorem conv_row (w : World) (g o n cap : Nat) (l : List UInt8) (hl : l.length = n) (hc : ∀ k, k < n → w.cell? ⟨g, o + k, none⟩ = some (.int .u8 (l.getD k 0).toNat)) :
    (convert 31 9 (.slice (some ⟨g, o, none⟩) n cap)).run Try.prog w = .ok (.string ⟨l.toArray⟩) w := by
  subst hl
  refine run_convert_bytes_back w 31 9 5 ⟨g, o, none⟩ cap l Try.underlying31 Try.underlying5 Try.underlying9 (fun j hj => ?_)
  have e : (⟨g, o, none⟩ : Addr).add j = ⟨g, o + j, none⟩ := by unfold Addr.add; split <;> simp_all
  rw [e, hc j hj]
  simp [List.getD, List.getElem?_eq_getElem hj]
theorem in_string {w' : World} {l : List UInt8} {p : Option Addr} {c : Nat} (h : InBytes w' p l) (W : World) (hg : w'.grownBy W none) : (convert 31 9 (.slice p l.length c)).run Try.prog W = .ok (.string ⟨l.toArray⟩) W := by
  rcases h with rfl | ⟨b, o, rfl, _, hc⟩
  · exact conv_empty W _ _
  · exact conv_row W b o _ _ _ rfl fun k hk => hg.cell (hc k hk) (by simp)
/-- what phys' Read gives lies in memory of its own, too -/
theorem newBytes_out {w w' : World} {l : List UInt8} {v : Value} (h : NewBytes w l v w') : OutBytes w l v w' := by
  rcases h with ⟨rfl, rfl, hg⟩ | ⟨b, rfl, hb, hr, hg⟩
  · exact ⟨none, 0, rfl, .inl rfl, hg⟩
  · exact ⟨_, _, rfl, .inr ⟨b, 0, rfl, (Array.getElem?_eq_some_iff.1 hr).1, fun k hk => by rw [Nat.zero_add]; exact bcells_at hr k hk⟩, hg⟩

theorem played_same {w W : World} {B b : Nat} {M : Mach} {L : Lay} {T : Int} (hP : Pair W B b M L) (hok : M.ok T) (hg : w.grownBy W none) : Played B b M L T w W :=
  ⟨M, L, hP, hok.mono (by omega), rfl, Chg.of0 hg, fun _ h => .inl h⟩

set_option maxRecDepth 100000 in
theorem play_alloc (B b : Nat) (a c d : Int) (v : Value) (w : World) (M : Mach) (L : Lay) (T : Int) (hP : Pair w B b M L) (hok : M.ok T) :
    Calls Try.prog 17 #[.pointer (some ⟨B, 0, none⟩), .pointer (some ⟨b, 0, none⟩), .agg #[.int .i64 0, .int .i64 a, .int .i64 c, .int .i64 d, v]] w fun e w' => e = .returned (.bool true) ∧ Played B b M L T w w' := by
  obtain ⟨W, hW, hg, hs, hrow⟩ := box5 w (.int .i64 0) (.int .i64 a) (.int .i64 c) (.int .i64 d) v
  have HP := hid (hP.grown hg)
  have HG := hid hg
  have hBx : B ≠ w.heap.size := Nat.ne_of_lt hP.m.lt
  have h1 : ((M.alloc a).1 == (M.alloc a).1) = true := by simp
  have h2 : ((M.alloc a).2.1 == (M.alloc a).2.1) = true := by simp
  have c0 : W.cell? ⟨w.heap.size, 0, none⟩ = some (.int .i64 0) := hrow.cell (k := 0) (by omega)
  have c1 : W.cell? ⟨w.heap.size, 1, none⟩ = some (.int .i64 a) := hrow.cell (k := 1) (by omega)
  have hn2 := hok.n2
  clear hP hg hrow
  go_enter Try.func17, Try.ntmps17
  go_wp2_with (first
    | (go_at_call 16; refine (Alloc_any B a _ M T HP.out.m hok).mono ?_; rintro e w1 ⟨rfl, h1, g1⟩; have k1 := g1.cell (a := ⟨w.heap.size, 1, none⟩) c1 (by simp; omega); have HM1 := hid h1; have HG1 := hid g1; have HR1 := hid (HP.out.r.keep HP.out.m g1); clear h1 g1)
    | (go_at_call 41; refine (rAlloc b a _ M L HR1.out hn2).mono ?_; rintro e w2 ⟨rfl, L', h1, hn1, hc1, hf1⟩; have HF := hid (played_pr (T := T) HG.out HP.out ((Mach.alloc_ok hok a).mono (by omega)) (Mach.alloc_n M a) HM1.out HG1.out h1 hc1 hf1); clear h1 hn1 hc1 hf1))
  go_ret
  exact ⟨rfl, HF.out⟩

set_option maxRecDepth 100000 in
theorem play_read (B b : Nat) (a c d : Int) (v : Value) (w : World) (M : Mach) (L : Lay) (T : Int) (hP : Pair w B b M L) (hok : M.ok T) (hc : c ≤ 9223372036854775807) (hd : d ≤ 9223372036854775807) :
    Calls Try.prog 17 #[.pointer (some ⟨B, 0, none⟩), .pointer (some ⟨b, 0, none⟩), .agg #[.int .i64 5, .int .i64 a, .int .i64 c, .int .i64 d, v]] w fun e w' => e = .returned (.bool true) ∧ Played B b M L T w w' := by
  obtain ⟨W, hW, hg, hs, hrow⟩ := box5 w (.int .i64 5) (.int .i64 a) (.int .i64 c) (.int .i64 d) v
  have HP := hid (hP.grown hg)
  have HG := hid hg
  have c0 : W.cell? ⟨w.heap.size, 0, none⟩ = some (.int .i64 5) := hrow.cell (k := 0) (by omega)
  have c1 : W.cell? ⟨w.heap.size, 1, none⟩ = some (.int .i64 a) := hrow.cell (k := 1) (by omega)
  have c2 : W.cell? ⟨w.heap.size, 2, none⟩ = some (.int .i64 c) := hrow.cell (k := 2) (by omega)
  have c3 : W.cell? ⟨w.heap.size, 3, none⟩ = some (.int .i64 d) := hrow.cell (k := 3) (by omega)
  clear hP hg hrow
  by_cases hbad : M.is a = false ∨ inP c d = false
  · have kc := fun W => conv_empty W none 0
    go_enter Try.func17, Try.ntmps17
    go_wp2_with (first
      | (go_at_call 31; refine (Read_no B a c d _ M T HP.out.m hok hc hbad).mono ?_; rintro e w1 ⟨rfl, rfl⟩)
      | (go_at_call 50; refine (rRead_no b a c d _ M L HP.out.r hd hbad).mono ?_; rintro e w2 ⟨rfl, rfl⟩))
    go_ret
    exact ⟨rfl, played_same HP.out hok HG.out⟩
  · have his : M.is a = true := by cases e : M.is a with | true => rfl | false => exact absurd (.inl e) hbad
    have hin : inP c d = true := by cases e : inP c d with | true => rfl | false => exact absurd (.inr e) hbad
    obtain ⟨i0, i1⟩ := Mach.is_iff.1 his
    obtain ⟨p0, p1, p2⟩ := inP_iff.1 hin
    obtain ⟨j, rfl⟩ := Int.eq_ofNat_of_zero_le i0
    obtain ⟨q, rfl⟩ := Int.eq_ofNat_of_zero_le p0
    obtain ⟨n, rfl⟩ := Int.eq_ofNat_of_zero_le p1
    have hj : j < L.n := by have := HP.out.r.hn; omega
    have hp : q + n ≤ 256 := by omega
    clear hbad his hin i0 p0 p1 p2
    go_enter Try.func17, Try.ntmps17
    go_wp2_with (first
      | (go_at_call 31; refine (Read_yes B j q n _ M T HP.out.m hok i1 hp).mono ?_; rintro e w1 ⟨v1, rfl, hnew⟩; obtain ⟨p1, s1, rfl, hin1, g1⟩ := newBytes_out hnew; rw [part_len]; have k1 := g1.cell (a := ⟨w.heap.size, 1, none⟩) c1 (by simp); have k2 := g1.cell (a := ⟨w.heap.size, 2, none⟩) c2 (by simp); have k3 := g1.cell (a := ⟨w.heap.size, 3, none⟩) c3 (by simp); have HP1 := hid (HP.out.grown g1); have HI1 := hid hin1; have HG1 := hid (HG.out.trans g1); clear hnew hin1 g1)
      | (go_at_call 50; refine (rRead_yes b j q n _ M L HP1.out.r hj hp).mono ?_; rintro e w2 ⟨v2, rfl, hnew⟩; obtain ⟨p2, s2, rfl, hin2, g2⟩ := hnew; rw [part_len]; have HP2 := hid (HP1.out.grown g2); have HG2 := hid (HG1.out.trans g2); have kc1 := in_string (c := s1) HI1.out _ g2; have kc2 := in_string (c := s2) hin2 _ (World.grownBy.refl _ _); rw [part_len] at kc1 kc2; clear hin2 g2))
    go_ret
    exact ⟨rfl, played_same HP2.out hok HG2.out⟩
end Go.Proofs.Ytmemeaaffbalbaa
