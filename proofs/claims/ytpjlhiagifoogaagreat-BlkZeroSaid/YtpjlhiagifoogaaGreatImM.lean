/-
  Package image: an image in memory; contracts of the calls that only look.
-/
import Derived.Test.YtpjlhiagifoogaaGreatRows
import Derived.Test.YtpjlhiagifoogaaGreatGen
import Derived.Test.YtpjlhiagifoogaaGreatImP
import Derived.Test.YtpjlhiagifoogaaGreatCMap
import Derived.WalkKit
import Derived.WalkSpells
import Derived.WalkLawsBesides
import Derived.Handy
import Derived.Carry
import Derived.BigQuiet
import Derived.Deep.QuietTactic
import Derived.Maps.OwnOps
import Derived.Laws.Rows
import Derived.Laws.CopyOwn
set_option linter.unusedSimpArgs false
set_option linter.unusedVariables false
namespace Go.Proofs.YtpjlhiagifoogaaGreat.Imx
open Go.RowKit Gen CM
set_option maxHeartbeats 400000

/-- an integer of Go's int -/
def I64 (n : Int) : Prop := (Lit.int .i64 n).wf = true
theorem I64.of {n : Int} (h1 : -9223372036854775808 ≤ n) (h2 : n ≤ 9223372036854775807) : I64 n := WalkArith.wf_i64 (by omega)
theorem int_key : Maps.Keyed Tryz.prog 3 := Maps.int_keyed Tryz.underlying3
/-- bytes as cells -/
def bcells (l : List UInt8) : List Value := l.map fun x => .int .u8 x.toNat
theorem bcells_len (l : List UInt8) : (bcells l).length = l.length := by simp [bcells]
theorem bcells_get (l : List UInt8) (k : Nat) : (bcells l)[k]? = l[k]?.map fun x => .int .u8 x.toNat := by simp [bcells]
theorem bcells_at {l : List UInt8} {k : Nat} (h : k < l.length) : (bcells l)[k]? = some (.int .u8 (l.getD k 0).toNat) := by
  rw [bcells_get, List.getElem?_eq_getElem h]; simp [List.getD, List.getElem?_eq_getElem h]
theorem bcells_one (l : List UInt8) : ∀ v ∈ bcells l, v.oneCell' = true := by
  intro v hv
  simp only [bcells, List.mem_map] at hv
  obtain ⟨x, _, rfl⟩ := hv
  rfl
def blkC (l : List UInt8) : Array Value := (bcells l).toArray
theorem blkC_size (l : List UInt8) : (blkC l).size = l.length := by simp [blkC, bcells_len]
theorem blkC_at {l : List UInt8} {k : Nat} (h : k < l.length) : (blkC l)[k]? = some (.int .u8 (l.getD k 0).toNat) := by simp [blkC, bcells_at h]
theorem blkC_all (l : List UInt8) : (blkC l).all (·.oneCell') = true := Array.all_eq_true_iff_forall_mem.2 fun v hv => bcells_one l v (by simpa [blkC] using hv)
/-- a block's bytes, of noughts -/
def zs64 : List UInt8 := List.replicate 64 0
theorem zs64_len : zs64.length = 64 := by simp [zs64]
theorem zero_blk (w : World) : (zeroValue 191).run Tryz.prog w = .ok (.agg (blkC zs64)) w := by
  rw [Tryz.zeroValue191]; rfl
theorem blk_size : (Tryz.prog.info? 191).map (·.size) = some 64 := by kernel_rfl
theorem u8_size : (Tryz.prog.info? 5).map (·.size) = some 1 := by kernel_rfl
attribute [irreducible] bcells blkC zs64
abbrev IMb (w : World) (b c : Nat) (f : Int → Option Value) : Prop := CMap Tryz.prog 3 (.agg (blkC zs64)) w b c f
def blkF (f : Int → Option (List UInt8)) (s : Int) : Option Value := (f s).map fun l => .agg (blkC l)
theorem blkF_some (f : Int → Option (List UInt8)) (s : Int) : (blkF f s).isSome = (f s).isSome := by unfold blkF; cases f s <;> rfl
def itop (g n m most : Nat) : Nat → Value
  | 0 => .slice (some ⟨g, 0, none⟩) n n
  | 1 => .map (some m)
  | _ => .int .i64 most
/-- block b is the image I: its base in block g, its map in block m -/
structure PI (w : World) (b g m : Nat) (I : Im) : Prop where
  top : Row w b 189 3 (itop g I.n m I.most)
  base : Row w g 191 (I.n * 64) (fun k => .int .u8 (I.B.getD k 0).toNat)
  map : IMb w m I.used (blkF I.own)
section
variable {w w' : World} {b g m : Nat} {I : Im}
theorem PI.c0 (h : PI w b g m I) : w.cell? ⟨b, 0, none⟩ = some (.slice (some ⟨g, 0, none⟩) I.n I.n) := h.top.cell (k := 0) (by omega)
theorem PI.c1 (h : PI w b g m I) : w.cell? ⟨b, 1, none⟩ = some (.map (some m)) := h.top.cell (k := 1) (by omega)
theorem PI.c2 (h : PI w b g m I) : w.cell? ⟨b, 2, none⟩ = some (.int .i64 I.most) := h.top.cell (k := 2) (by omega)
theorem CMap_row_ne {P : Program} {k : TypeId} {z : Value} {w : World} {b c : Nat} {f : Int → Option Value} {g : Nat} {t : TypeId} {N : Nat} {X : Nat → Value} (h : CMap P k z w b c f) (hr : Row w g t N X) : b ≠ g := by
  rintro rfl
  obtain ⟨es, c, h0⟩ := h.isMap
  obtain ⟨cur, h1, _⟩ := hr
  rw [h0] at h1; cases h1
theorem PI.mb (h : PI w b g m I) : m ≠ b := CMap_row_ne h.map h.top
theorem PI.mg (h : PI w b g m I) : m ≠ g := CMap_row_ne h.map h.base
theorem PI.chg {S : Nat → Prop} (h : PI w b g m I) (hc : Chg S w w') (h1 : ¬ S b) (h2 : ¬ S g) (h3 : ¬ S m) : PI w' b g m I :=
  ⟨h.top.chg hc h1, h.base.chg hc h2, h.map.same (hc.block m h.map.lt h3)⟩
theorem PI.grown (h : PI w b g m I) (hg : w.grownBy w' none) : PI w' b g m I := ⟨h.top.grown hg (by simp), h.base.grown hg (by simp), h.map.grown hg (by simp)⟩
theorem PI.drew (h : PI w b g m I) : PI w.drew b g m I := h.grown (grownBy_drew w none)
end
theorem neq_map (w : World) (r : Option Nat) : (binOp .neq 187 (.map r) (.map none)).run Tryz.prog w = .ok (.bool (!r.isNone)) w := run_neq_map_nil w _ _ _ r Tryz.underlying187
/-- what nobody made: nil, or no map -/
def NoI (w : World) (p : Option Addr) : Prop := p = none ∨ ∃ b, p = some ⟨b, 0, none⟩ ∧ w.cell? ⟨b, 1, none⟩ = some (.map none)
/-- made -/
theorem imade_no (p : Option Addr) (w : World) (h : NoI w p) : Calls Tryz.prog 109 #[.pointer p] w fun e w' => e = .returned (.bool false) ∧ w = w' := by
  rcases h with rfl | ⟨b, rfl, h⟩
  · go_enter Tryz.func109, Tryz.ntmps109
    go_wp2
    go_ret
    exact ⟨rfl, rfl⟩
  · have q := fun w => neq_map w none
    go_enter Tryz.func109, Tryz.ntmps109
    go_wp2
    go_ret
    exact ⟨rfl, rfl⟩
theorem imade_yes (b m : Nat) (w : World) (h : w.cell? ⟨b, 1, none⟩ = some (.map (some m))) : Calls Tryz.prog 109 #[.pointer (some ⟨b, 0, none⟩)] w fun e w' => e = .returned (.bool true) ∧ w = w' := by
  have q := fun w => neq_map w (some m)
  go_enter Tryz.func109, Tryz.ntmps109
  go_wp2
  go_ret
  exact ⟨rfl, rfl⟩
/-- look -/
theorem ilook_none (p : Option Addr) (s : Int) (w : World) (h : NoI w p) : Calls Tryz.prog 110 #[.pointer p, .int .i64 s] w fun e w' => e = .returned (.int .i64 7) ∧ w = w' := by
  have H := hid h
  clear h
  go_enter Tryz.func110, Tryz.ntmps110
  go_wp2_with (go_at_call 109; refine (imade_no _ _ H.out).mono ?_; rintro e w' ⟨rfl, rfl⟩)
  go_ret
  exact ⟨rfl, rfl⟩
section
variable {w : World} {b g m : Nat} {I : Im}
theorem ilook_no (h : PI w b g m I) (s : Int) (hs : I.is s = false) : Calls Tryz.prog 110 #[.pointer (some ⟨b, 0, none⟩), .int .i64 s] w fun e w' => e = .returned (.int .i64 1) ∧ w = w' := by
  have c0 := h.c0
  have c1 := h.c1
  have hn := Im.is_no hs
  clear hs h
  by_cases h0 : 0 ≤ s
  · have h1 : (I.n : Int) ≤ s := by omega
    clear hn
    go_enter Tryz.func110, Tryz.ntmps110
    go_wp2_with (go_at_call 109; refine (imade_yes _ _ _ c1).mono ?_; rintro e w' ⟨rfl, rfl⟩)
    go_ret
    exact ⟨rfl, rfl⟩
  · clear hn
    go_enter Tryz.func110, Tryz.ntmps110
    go_wp2_with (go_at_call 109; refine (imade_yes _ _ _ c1).mono ?_; rintro e w' ⟨rfl, rfl⟩)
    go_ret
    exact ⟨rfl, rfl⟩
theorem ilook_yes (h : PI w b g m I) (s : Int) (hs : I.is s = true) : Calls Tryz.prog 110 #[.pointer (some ⟨b, 0, none⟩), .int .i64 s] w fun e w' => e = .returned (.int .i64 0) ∧ w = w' := by
  have c0 := h.c0
  have c1 := h.c1
  obtain ⟨h0, h1⟩ := Im.is_yes.1 hs
  clear hs h
  go_enter Tryz.func110, Tryz.ntmps110
  go_wp2_with (go_at_call 109; refine (imade_yes _ _ _ c1).mono ?_; rintro e w' ⟨rfl, rfl⟩)
  go_ret
  exact ⟨rfl, rfl⟩
/-- Sectors -/
theorem iSectors_no (p : Option Addr) (w : World) (h : NoI w p) : Calls Tryz.prog 35 #[.pointer p] w fun e w' => e = .returned (.int .i64 0) ∧ w = w' := by
  have H := hid h
  clear h
  go_enter Tryz.func35, Tryz.ntmps35
  go_wp2_with (go_at_call 109; refine (imade_no _ _ H.out).mono ?_; rintro e w' ⟨rfl, rfl⟩)
  go_ret
  exact ⟨rfl, rfl⟩
theorem iSectors (h : PI w b g m I) : Calls Tryz.prog 35 #[.pointer (some ⟨b, 0, none⟩)] w fun e w' => e = .returned (.int .i64 I.n) ∧ w = w' := by
  have c0 := h.c0
  have c1 := h.c1
  clear h
  go_enter Tryz.func35, Tryz.ntmps35
  go_wp2_with (go_at_call 109; refine (imade_yes _ _ _ c1).mono ?_; rintro e w' ⟨rfl, rfl⟩)
  go_ret
  exact ⟨rfl, rfl⟩
/-- Free -/
theorem iFree_no (p : Option Addr) (w : World) (h : NoI w p) : Calls Tryz.prog 104 #[.pointer p] w fun e w' => e = .returned (.int .i64 0) ∧ w = w' := by
  have H := hid h
  clear h
  go_enter Tryz.func104, Tryz.ntmps104
  go_wp2_with (go_at_call 109; refine (imade_no _ _ H.out).mono ?_; rintro e w' ⟨rfl, rfl⟩)
  go_ret
  exact ⟨rfl, rfl⟩
theorem iFree (h : PI w b g m I) (hok : I.ok) : Calls Tryz.prog 104 #[.pointer (some ⟨b, 0, none⟩)] w fun e w' => e = .returned (.int .i64 ((I.most : Int) - I.used)) ∧ ∃ n, w' = w.drewN n := by
  have c1 := h.c1
  have c2 := h.c2
  have h1 := hok.most256
  have h2 := hok.le
  have hlen := fun k => (CMap.same h.map (w' := w.drewN k) rfl).len (w := w.drewN k) Tryz.underlying187
  clear h hok
  go_enter Tryz.func104, Tryz.ntmps104
  go_wp2_with (go_at_call 109; refine (imade_yes _ _ _ c1).mono ?_; rintro e w' ⟨rfl, rfl⟩)
  go_quiet (fail)
  go_wp2
  go_ret
  exact ⟨rfl, _, rfl⟩
end
end Go.Proofs.YtpjlhiagifoogaaGreat.Imx
