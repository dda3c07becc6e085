/-
  Package view: a view in blocks; contracts of Reads, Machine, Write, Read.
-/
import Derived.Test.YtnplkifohocekaaDoorViewA
import Derived.Deep.RegionHeld3
import Derived.Maps.OwnOps
set_option linter.unusedSimpArgs false
set_option linter.unusedVariables false
namespace Go.Proofs.YtnplkifohocekaaDoor
open Go.RowKit
set_option maxHeartbeats 1000000

theorem vint_key : Maps.Keyed Tryd.prog 3 := Maps.int_keyed Tryd.underlying3
theorem vzero (w : World) : (zeroValue 121).run Tryd.prog w = .ok (.slice none 0 0) w := by kernel_rfl
abbrev VMapV (w : World) (G T : Nat) (f : Int → Option Value) : Prop := VM.VMap Tryd.prog 3 (.slice none 0 0) w G T f
/-- the rewrites that are due at one read -/
def DueAt (w : World) (S : Nat → Prop) (B : Nat) (o : Option Value) (ps : List PokeV) : Prop :=
  (o = none ∧ ps = []) ∨ ∃ g c cl, o = some (.slice (some ⟨g, 0, none⟩) ps.length c) ∧ S g ∧ Row w g 1 ps.length cl ∧ ∀ j (h : j < ps.length), Clo w S B (cl j) ps[j]
theorem DueAt.chg {S S' : Nat → Prop} {w w' : World} {B : Nat} {o : Option Value} {ps : List PokeV} (h : DueAt w S B o ps) (hc : Chg S' w w') (hS : ∀ k, S k → ¬ S' k) : DueAt w' S B o ps := by
  rcases h with h | ⟨g, c, cl, e, hg, hr, hcl⟩
  · exact .inl h
  · exact .inr ⟨g, c, cl, e, hg, hr.chg hc (hS _ hg), fun j hj => (hcl j hj).chg hc hS⟩
def vtop (B G n : Nat) : Nat → Value
  | 0 => .pointer (some ⟨B, 0, none⟩)
  | 1 => .map (some G)
  | _ => .int .i64 n
/-- block V is a view of the machine in block B with the rewrites l, before its read n -/
structure VV (w : World) (V G B : Nat) (S : Nat → Prop) (l : List PokeV) (n T : Nat) (f : Int → Option Value) : Prop where
  top : Row w V 118 3 (vtop B G n)
  map : VMapV w G T f
  sV : ¬ S V
  sG : ¬ S G
  sB : ¬ S B
  VB : V ≠ B
  GB : G ≠ B
  lt : ∀ k, S k → k < w.heap.size
  due : ∀ t : Nat, n ≤ t → DueAt w S B (f t) (due l t)
  off : ∀ g : Int, (f g).isSome = true → (n : Int) ≤ g
def vfoot (V G : Nat) (S : Nat → Prop) (k : Nat) : Prop := k = V ∨ k = G ∨ S k
section
variable {w w' : World} {V G B : Nat} {S : Nat → Prop} {l : List PokeV} {n T : Nat} {f : Int → Option Value}
theorem VV.GV (h : VV w V G B S l n T f) : G ≠ V := by
  rintro rfl
  obtain ⟨es, c, h0⟩ := h.map.isMap
  obtain ⟨cur, h1, _⟩ := h.top
  rw [h0] at h1; cases h1
theorem VV.c0 (h : VV w V G B S l n T f) : w.cell? ⟨V, 0, none⟩ = some (.pointer (some ⟨B, 0, none⟩)) := h.top.cell (k := 0) (by omega)
theorem VV.c1 (h : VV w V G B S l n T f) : w.cell? ⟨V, 1, none⟩ = some (.map (some G)) := h.top.cell (k := 1) (by omega)
theorem VV.c2 (h : VV w V G B S l n T f) : w.cell? ⟨V, 2, none⟩ = some (.int .i64 n) := h.top.cell (k := 2) (by omega)
theorem VV.chg {S' : Nat → Prop} (h : VV w V G B S l n T f) (hc : Chg S' w w') (hS : ∀ k, vfoot V G S k → ¬ S' k) : VV w' V G B S l n T f :=
  ⟨h.top.chg hc (hS _ (.inl rfl)), h.map.same (hc.block _ h.map.lt (hS _ (.inr (.inl rfl)))), h.sV, h.sG, h.sB, h.VB, h.GB, fun k hk => Nat.lt_of_lt_of_le (h.lt k hk) hc.size, fun t ht => (h.due t ht).chg hc fun k hk => hS k (.inr (.inr hk)), h.off⟩
theorem VV.grown (h : VV w V G B S l n T f) (hg : w.grownBy w' none) : VV w' V G B S l n T f := h.chg (S' := fun _ => False) (Chg.of0 hg) fun _ _ e => e
/-- the machine's own block turns -/
theorem VV.mach (h : VV w V G B S l n T f) (hg : w.grownBy w' (some B)) : VV w' V G B S l n T f :=
  h.chg (S' := fun k => k = B) (Chg.of hg fun j e => .inl (Option.some.inj e).symm) fun k hk e => by
    subst e
    rcases hk with e | e | e
    · exact h.VB e.symm
    · exact h.GB e.symm
    · exact h.sB e
theorem VV.foot_lt (h : VV w V G B S l n T f) {k : Nat} (hk : vfoot V G S k) : k < w.heap.size := by
  rcases hk with rfl | rfl | hk
  · exact h.top.lt
  · exact h.map.lt
  · exact h.lt k hk
end
/-- made -/
theorem vmade_yes (V B : Nat) (w : World) (h : w.cell? ⟨V, 0, none⟩ = some (.pointer (some ⟨B, 0, none⟩))) : Calls Tryd.prog 65 #[.pointer (some ⟨V, 0, none⟩)] w fun e w' => e = .returned (.bool true) ∧ w = w' := by
  go_enter Tryd.func65, Tryd.ntmps65
  go_wp2
  go_ret
  exact ⟨rfl, rfl⟩
theorem vReads (V G B : Nat) (S : Nat → Prop) (l : List PokeV) (n T : Nat) (f : Int → Option Value) (w : World) (h : VV w V G B S l n T f) : Calls Tryd.prog 39 #[.pointer (some ⟨V, 0, none⟩)] w fun e w' => e = .returned (.int .i64 n) ∧ w = w' := by
  have c0 := h.c0
  have c2 := h.c2
  clear h
  go_enter Tryd.func39, Tryd.ntmps39
  go_wp2_with (go_at_call 65; refine (vmade_yes _ _ _ c0).mono ?_; rintro e w' ⟨rfl, rfl⟩)
  go_ret
  exact ⟨rfl, rfl⟩
theorem vMachine (V G B : Nat) (S : Nat → Prop) (l : List PokeV) (n T : Nat) (f : Int → Option Value) (w : World) (h : VV w V G B S l n T f) : Calls Tryd.prog 71 #[.pointer (some ⟨V, 0, none⟩)] w fun e w' => e = .returned (.pointer (some ⟨B, 0, none⟩)) ∧ w = w' := by
  have c0 := h.c0
  clear h
  go_enter Tryd.func71, Tryd.ntmps71
  go_wp2_with (go_at_call 65; refine (vmade_yes _ _ _ c0).mono ?_; rintro e w' ⟨rfl, rfl⟩)
  go_ret
  exact ⟨rfl, rfl⟩
theorem vWrite (V G B : Nat) (S : Nat → Prop) (l : List PokeV) (n T : Nat) (f : Int → Option Value) (i off : Int) (v : Value) (b : List UInt8) (w : World) (M : Mach) (X : Int) (h : VV w V G B S l n T f) (hM : PM w B M) (hok : M.ok X) (ho : off ≤ 9223372036854775807) (hv : IsBytes w B v b) (hmax : b.length ≤ 9223372036854775807) :
    Calls Tryd.prog 77 #[.pointer (some ⟨V, 0, none⟩), .int .i64 i, .int .i64 off, v] w (Left B w (M.write i off b).1 (M.write i off b).2) := by
  have c0 := h.c0
  have HW := hid (Write_any B i off v b w M X hM hok ho hv hmax)
  clear h hM hok hv
  go_enter Tryd.func77, Tryd.ntmps77
  go_wp2_with (first
    | (go_at_call 65; refine (vmade_yes _ _ _ c0).mono ?_; rintro e w' ⟨rfl, rfl⟩)
    | (go_at_call 22; refine HW.out.mono ?_; rintro e w' ⟨rfl, h1, g1⟩; have H1 := hid h1; have G1 := hid g1; clear h1 g1))
  go_ret
  exact ⟨rfl, H1.out, G1.out⟩

/-- bytes that a call has laid anew -/
def FreshB (w : World) (b : List UInt8) (v : Value) (w' : World) : Prop := ∃ q c, v = .slice q b.length c ∧ KeptBytes w' (fun k => w.heap.size ≤ k ∧ k < w'.heap.size) q b
theorem newBytes_fresh {w w' : World} {l : List UInt8} {v : Value} (h : NewBytes w l v w') : FreshB w l v w' ∧ w.grownBy w' none := by
  rcases h with ⟨rfl, rfl, hg⟩ | ⟨b, rfl, hb, hr, hg⟩
  · exact ⟨⟨none, 0, rfl, .inl rfl⟩, hg⟩
  · exact ⟨⟨_, _, rfl, .inr ⟨b, rfl, ⟨hb, (Array.getElem?_eq_some_iff.1 hr).1⟩, fun k hk => bcells_at hr k hk⟩⟩, hg⟩
theorem Read_all (B : Nat) (i off k : Int) (w : World) (M : Mach) (X : Int) (hM : PM w B M) (hok : M.ok X) (ho : off ≤ 9223372036854775807) :
    Calls Tryd.prog 20 #[.pointer (some ⟨B, 0, none⟩), .int .i64 i, .int .i64 off, .int .i64 k] w fun e w' => ∃ v, e = .returned (.tuple #[v, .int .i64 (M.read i off k).2]) ∧ FreshB w (M.read i off k).1 v w' ∧ w.grownBy w' none := by
  cases hi : M.is i with
  | false =>
    have e : M.read i off k = ([], 1) := by unfold Mach.read; rw [if_pos hi]
    rw [e]
    exact (Read_no B i off k w M X hM hok ho (.inl hi)).mono fun e w' ⟨he, hw⟩ => ⟨_, he, ⟨none, 0, rfl, .inl rfl⟩, hw ▸ World.grownBy.refl _ _⟩
  | true =>
    cases hp : inP off k with
    | false =>
      have e : M.read i off k = ([], 1) := by unfold Mach.read; rw [if_neg (by rw [hi]; simp), if_pos hp]
      rw [e]
      exact (Read_no B i off k w M X hM hok ho (.inr hp)).mono fun e w' ⟨he, hw⟩ => ⟨_, he, ⟨none, 0, rfl, .inl rfl⟩, hw ▸ World.grownBy.refl _ _⟩
    | true =>
      obtain ⟨h0, h1⟩ := Mach.is_iff.1 hi
      obtain ⟨g0, g1, g2⟩ := inP_iff.1 hp
      obtain ⟨j, rfl⟩ := Int.eq_ofNat_of_zero_le h0
      obtain ⟨o, rfl⟩ := Int.eq_ofNat_of_zero_le g0
      obtain ⟨q, rfl⟩ := Int.eq_ofNat_of_zero_le g1
      have e : M.read j o q = ((M.fr j).part o q, 0) := by unfold Mach.read; rw [if_neg (by rw [hi]; simp), if_neg (by rw [hp]; simp)]; simp
      rw [e]
      exact (Read_yes B j o q w M X hM hok h1 (by omega)).mono fun e w' ⟨v, he, hn⟩ => ⟨v, he, newBytes_fresh hn⟩

/-- the due rewrites are done, the read is counted -/
theorem VV.step {w w4 : World} {V G B : Nat} {S : Nat → Prop} {l : List PokeV} {n T : Nat} {f : Int → Option Value} (h : VV w V G B S l n T f) (h4 : VMapV w4 G T (fun i => if i = (n : Int) then none else f i)) (g4 : w.grownBy w4 (some G)) :
    VV (w4.setCell ⟨V, 2, none⟩ (.int .i64 ((n : Int) + 1))) V G B S l (n + 1) T (fun i => if i = (n : Int) then none else f i) := by
  have hGV := h.GV
  have g5 := grownBy_setCell w4 V 2 none (.int .i64 ((n : Int) + 1))
  have hc : Chg (fun k => k = V ∨ k = G) w (w4.setCell ⟨V, 2, none⟩ (.int .i64 ((n : Int) + 1))) :=
    (Chg.of (S := fun k => k = V ∨ k = G) g4 fun j e => .inl (.inr (Option.some.inj e).symm)).trans (Chg.of (S := fun k => k = V ∨ k = G) g5 fun j e => .inl (.inl (Option.some.inj e).symm)) fun _ h => .inl h
  have hS : ∀ k, S k → ¬ (k = V ∨ k = G) := fun k hk e => e.elim (fun e => h.sV (e ▸ hk)) (fun e => h.sG (e ▸ hk))
  refine ⟨?_, h4.grown g5 (by simp; exact hGV), h.sV, h.sG, h.sB, h.VB, h.GB, fun k hk => Nat.lt_of_lt_of_le (h.lt k hk) hc.size, fun t ht => ?_, fun g hg => ?_⟩
  · refine (h.top.grown g4 (by simp; exact fun e => hGV e.symm)).set (k := 2) (by simp [vtop]) fun j hj hne => ?_
    match j, hj with
    | 0, _ => rfl
    | 1, _ => rfl
    | 2, _ => exact absurd rfl hne
  · have := (h.due t (by omega)).chg hc hS
    show DueAt _ S B (if (t : Int) = n then none else f t) _
    rw [if_neg (by omega)]
    exact this
  · have hg' : ((if g = (n : Int) then none else f g) : Option Value).isSome = true := hg
    by_cases e : g = n
    · rw [if_pos e] at hg'; cases hg'
    · rw [if_neg e] at hg'
      have := h.off g hg'
      omega
/-- what a read leaves -/
structure VRead (w : World) (V G B : Nat) (S : Nat → Prop) (l : List PokeV) (n T : Nat) (M : Mach) (w' : World) : Prop where
  view : ∃ f, VV w' V G B S l (n + 1) T f
  mach : PM w' B (M.rews (due l n))
  chg : Chg (fun k => k = V ∨ k = G ∨ k = B) w w'
set_option maxRecDepth 100000 in
theorem vRead (V G B : Nat) (S : Nat → Prop) (l : List PokeV) (n T : Nat) (f : Int → Option Value) (i off k : Int) (w : World) (M : Mach) (X : Int) (h : VV w V G B S l n T f) (hM : PM w B M) (hok : M.ok X) (hf : ∀ p ∈ l, p.fits) (hn : (n : Int) < 9223372036854775807) (hll : l.length ≤ 64) (ho : off ≤ 9223372036854775807) :
    Calls Tryd.prog 74 #[.pointer (some ⟨V, 0, none⟩), .int .i64 i, .int .i64 off, .int .i64 k] w fun e w' => ∃ v, e = .returned (.tuple #[v, .int .i64 ((M.rews (due l n)).read i off k).2]) ∧ FreshB w ((M.rews (due l n)).read i off k).1 v w' ∧ VRead w V G B S l n T M w' := by
  have hg0 := grownBy_drew w none
  have c0 := h.c0
  have c1 := h.c1
  have c2 := h.c2
  have HV := hid (h.grown hg0)
  have HM := hid (hM.grown hg0 (by simp))
  have HOk := hid hok
  have HF := hid hf
  have hn0 : (0 : Int) ≤ n := by omega
  have HN := hid (show (Lit.int .i64 (n : Int)).wf = true from WalkArith.wf_i64 (by omega))
  have hlen : (due l n).length ≤ 64 := Nat.le_trans (List.length_filter_le _ _) hll
  have HD := hid ((h.grown hg0).due n (Nat.le_refl _))
  have HG0 := hid hg0
  have hVG : V ≠ G := fun e => h.GV e.symm
  obtain ⟨sl, hsl⟩ : ∃ sl, (f (n : Int)).getD (.slice none 0 0) = sl := ⟨_, rfl⟩
  obtain ⟨pa, cap, hpa⟩ : ∃ pa cap, sl = .slice pa (due l n).length cap := by
    rcases HD.out with ⟨e, e2⟩ | ⟨g, c, cl, e, _⟩
    · rw [e] at hsl; rw [e2]; exact ⟨none, 0, hsl.symm⟩
    · rw [e] at hsl; exact ⟨_, _, hsl.symm⟩
  subst hpa
  have HSl := hid hsl
  clear h hM hok hf hg0 hsl
  go_enter Tryd.func74, Tryd.ntmps74
  go_wp2_with (go_at_call 65; refine (vmade_yes _ _ _ c0).mono ?_; rintro e w' ⟨rfl, rfl⟩)
  have hlk := HV.out.map.look w.drew vint_key Tryd.underlying3 Tryd.underlying116 (vzero _) HN.out
  rw [HSl.out] at hlk
  go_region_held3 (fun w' => w'.cell? ⟨V, 1, none⟩ = some (.map (some G)) ∧ w'.cell? ⟨V, 2, none⟩ = some (.int .i64 n) ∧ (Instr.lookup 116 (.map (some G)) (.int .i64 n) false).run Tryd.prog w' = .ok (.slice pa (due l n).length cap) w') (first | exact ⟨by assumption, by assumption, by assumption⟩ | go_keep) (first | fail)
  go_wp2
  clear hlk
  go_loopw [25] (fun x wr => ∃ j : Nat, x = .int .i64 j ∧ j ≤ (due l n).length ∧ PM wr B (M.rews ((due l n).take j)) ∧ w.drew.grownBy wr (some B)) (fun x _ => (due l n).length - (intOf x).toNat)
  case atStart => exact ⟨0, rfl, by omega, by rw [List.take_zero]; exact HM.out, World.grownBy.refl _ _⟩
  case round =>
    obtain ⟨j, rfl, hj, hM, hg⟩ := hrel
    have HMj := hid hM
    have HGj := hid hg
    have HVj := hid (HV.out.mach hg)
    clear hM hg c0 c1 c2
    have hj0 : (0 : Int) ≤ j := by omega
    by_cases hjl : j < (due l n).length
    · have hjl' : (j : Int) < (due l n).length := by omega
      obtain ⟨g, c, cl, e, hSg, hr, hcl⟩ : ∃ g c cl, f n = some (.slice (some ⟨g, 0, none⟩) (due l n).length c) ∧ S g ∧ Row w.drew g 1 (due l n).length cl ∧ ∀ j (h : j < (due l n).length), Clo w.drew S B (cl j) (due l n)[j] := by
        rcases HD.out with ⟨_, e2⟩ | h
        · rw [e2] at hjl; simp at hjl
        · exact h
      have hsl := HSl.out
      rw [e] at hsl
      injection hsl with e1 _ e2
      subst e1 e2
      have hsB := HV.out.sB
      have hcB : Chg (fun k => k = B) w.drew wr := Chg.of HGj.out fun k e => .inl (Option.some.inj e).symm
      have hSB : ∀ k, S k → ¬ k = B := fun k hk e => hsB (e ▸ hk)
      have hcell := (hr.chg hcB (hSB _ hSg)).cell hjl
      obtain ⟨mi, pi, bi, q, cq, ecl, s1, s2, s3, k1, k2, k3, k4, hkb⟩ := (hcl j hjl).chg hcB hSB
      rw [ecl] at hcell
      have HDo := hid (vDo B mi pi bi (due l n)[j] q cq S wr (M.rews ((due l n).take j)) X HMj.out (Mach.rews_ok _ HOk.out) (HF.out _ (List.mem_filter.1 (List.getElem_mem hjl)).1) hsB s1 s2 s3 k1 k2 k3 k4 hkb)
      clear k1 k2 k3 k4 hkb ecl hcl hr e s1 s2 s3 hSg hcB hSB hsB
      go_wp2_with (go_at_call 68; refine HDo.out.mono ?_; rintro e w3 ⟨⟨v, rfl⟩, h3, g3⟩; have H3 := hid h3; have G3 := hid (HGj.out.trans g3); clear h3 g3)
      go_roundw
      case rel => exact ⟨j + 1, by go_num, by omega, by rw [List.take_succ_eq_append_getElem hjl, Mach.rews_snoc]; exact H3.out, G3.out⟩
      case measure => simp [intOf]; omega
    · have hge : ((due l n).length : Int) ≤ j := by omega
      have hjl : j = (due l n).length := by omega
      have HMf := hid (show PM wr B (M.rews (due l n)) by have := HMj.out; rwa [hjl, List.take_length] at this)
      have HJl := hid hjl
      clear hjl
      have hgd := grownBy_drew wr none
      have c0 := (HVj.out.grown hgd).c0
      have c1 := (HVj.out.grown hgd).c1
      have c2 := (HVj.out.grown hgd).c2
      have HVd := hid (HVj.out.grown hgd)
      go_wp2
      go_region_held3 (fun w' => w'.cell? ⟨V, 1, none⟩ = some (.map (some G)) ∧ w'.cell? ⟨V, 2, none⟩ = some (.int .i64 n)) (first | exact ⟨by assumption, by assumption⟩ | go_keep)
        (first
          | (refine VM.step_delete_vmap _ (by rfl) _ _ 116 3 (by rfl) 121 vint_key Tryd.underlying3 Tryd.underlying116 (.slice none 0 0) G T f (by rfl) HVd.out.map n (by rfl) HN.out ?_; intro w4 h4 g4; have d0 := g4.cell c0 (by simp; exact hVG); have d1 := g4.cell c1 (by simp; exact hVG); have d2 := g4.cell c2 (by simp; exact hVG); have H4 := hid h4; have G4 := hid g4; have F4 := hid ((HVd.out.top.grown g4 (by simp; exact hVG)).frozen 2); clear h4 g4))
      have HV5 := hid (HVd.out.step H4.out G4.out)
      have HM5 := hid (((HMf.out.grown hgd (by simp)).grown G4.out (by simp; exact fun e => HVd.out.GB e.symm)).setOther ⟨V, 2, none⟩ (fun e => HVd.out.VB e.symm) (.int .i64 ((n : Int) + 1)))
      have HOk5 := hid (Mach.rews_ok (due l n) HOk.out)
      have HC5 := hid (show Chg (fun k => k = V ∨ k = G ∨ k = B) w (w4.setCell ⟨V, 2, none⟩ (.int .i64 ((n : Int) + 1))) from
        (((((Chg.of0 HG0.out).trans (Chg.of (S := fun k => k = V ∨ k = G ∨ k = B) HGj.out fun j e => .inl (.inr (.inr (Option.some.inj e).symm))) fun _ h => .inl h).trans (Chg.of0 (S := fun k => k = V ∨ k = G ∨ k = B) hgd) fun _ h => .inl h).trans (Chg.of (S := fun k => k = V ∨ k = G ∨ k = B) G4.out fun j e => .inl (.inr (.inl (Option.some.inj e).symm))) fun _ h => .inl h).trans (Chg.of (S := fun k => k = V ∨ k = G ∨ k = B) (grownBy_setCell w4 V 2 none _) fun j e => .inl (.inl (Option.some.inj e).symm)) fun _ h => .inl h))
      have f4 := F4.out
      clear c0 c1 c2 hgd hVG
      go_wp2_with (go_at_call 20; refine (Read_all B i off k _ _ X HM5.out HOk5.out ho).mono ?_; rintro e w6 ⟨v, rfl, hb, g6⟩; have HB6 := hid hb; have G6 := hid g6; clear hb g6)
      go_ret2
      refine ⟨v, rfl, ?_, ⟨⟨_, HV5.out.grown G6.out⟩, HM5.out.grown G6.out (by simp), HC5.out.trans (Chg.of0 (S := fun k => k = V ∨ k = G ∨ k = B) G6.out) fun _ h => .inl h⟩⟩
      obtain ⟨q, c, e, hk⟩ := HB6.out
      refine ⟨q, c, e, ?_⟩
      rcases hk with h | ⟨g, e, ⟨hg1, hg2⟩, hb⟩
      · exact .inl h
      · exact .inr ⟨g, e, ⟨Nat.le_trans HC5.out.size hg1, hg2⟩, hb⟩
end Go.Proofs.YtnplkifohocekaaDoor
