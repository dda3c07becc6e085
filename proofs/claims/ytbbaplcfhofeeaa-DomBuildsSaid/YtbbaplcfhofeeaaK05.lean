/-
  Contracts of package phys: blank, Free, Frame, Copy, New.
-/
import Derived.Test.YtbbaplcfhofeeaaK04
import Derived.Maps.Range
import Derived.Maps.RangeWalk
import Derived.Laws.CopyOwn
import Derived.Deep.RegionLaw
import Derived.Deep.RegionWith
set_option linter.unusedSimpArgs false
set_option linter.unusedVariables false
namespace Go.Proofs.Ytbbaplcfhofeeaa
open Go.RowKit
set_option maxHeartbeats 400000

theorem run_zero {P : Program} {t : TypeId} {v : Value} (h : (P.info? t).bind (·.zero) = some v) (w : World) : (zeroValue t).run P w = .ok v w := by
  cases hq : P.info? t with
  | none => simp [hq] at h
  | some i => simp [hq] at h; simp [zeroValue, typeInfo, hq, h]
theorem zero55w (w : World) : (zeroValue 65).run Try.prog w = .ok (.agg zeroFr.cells) w := run_zero zero55 w
theorem zero58w (w : World) : (zeroValue 68).run Try.prog w = .ok (.agg (flatMach 0 zeroFr).cells) w := run_zero zero58 w
theorem zcFr : Try.zeroCells65 = zeroFr.cells := by
  have h := (zero55w default).symm.trans (Try.zeroValue65 default)
  simp only [Result.ok.injEq, Value.agg.injEq, and_true] at h
  exact h.symm
theorem zcMach : Try.zeroCells68 = (flatMach 0 zeroFr).cells := by
  have h := (zero58w default).symm.trans (Try.zeroValue68 default)
  simp only [Result.ok.injEq, Value.agg.injEq, and_true] at h
  exact h.symm

theorem Fr.cells_ext {f : Fr} {cs : Array Value} (hs : cs.size = 260) (h : ∀ k, k < 260 → cs[k]? = some (f.cell k)) : cs = f.cells := by
  apply Array.ext_getElem?
  intro k
  by_cases hk : k < 260
  · rw [h k hk, f.get_cells k hk]
  · rw [Array.getElem?_eq_none (by omega), Array.getElem?_eq_none (by rw [f.size_cells]; omega)]

/-- blank -/
theorem build_blank (w : World) : (Instr.build 65 #[(0, .agg #[.int .i64 (-1), .int .i64 0, .int .i64 0, .int .i64 0])]).run Try.prog w = .ok (.agg blankFr.cells) w := by
  have e : (((zeroFr.cells.setIfInBounds 0 (.int .i64 (-1))).setIfInBounds 1 (.int .i64 0)).setIfInBounds 2 (.int .i64 0)).setIfInBounds 3 (.int .i64 0) = blankFr.cells := by
    refine Fr.cells_ext (by simp [zeroFr.size_cells]) fun k hk => ?_
    simp only [Array.getElem?_setIfInBounds, Array.size_setIfInBounds, zeroFr.size_cells, zeroFr.get_cells k hk]
    match k, hk with | 0, _ => rfl | 1, _ => rfl | 2, _ => rfl | 3, _ => rfl | k + 4, _ => simp [Fr.cell, zeroFr, blankFr]
  have hz := zeroFr.size_cells
  have i44 : (Try.prog.info? 62).map (·.size) = some 4 := by kernel_rfl
  have i53 : (Try.prog.info? 63).map (·.size) = some 256 := by kernel_rfl
  cases h44 : Try.prog.info? 62 with
  | none => rw [h44] at i44; cases i44
  | some x =>
  cases h53 : Try.prog.info? 63 with
  | none => rw [h53] at i53; cases i53
  | some y =>
  rw [h44] at i44; rw [h53] at i53
  simp only [Option.map_some, Option.some.injEq] at i44 i53
  simp [Instr.build, zcFr, zero55w, run_underlying Try.underlying65, sizeOf, typeInfo, h44, h53, i44, i53, Instr.fill, Value.cells, hz, ← e]

theorem wpList_exec {P : Program} {ops : Array Oper} {rest : List Oper} {o : Oper} {a : Act} {w w' : World} {Q : Exit → Act → World → Prop} {v : Value} (hgd : o.guard = none)
    (hrun : (execOp a.eval o).run P w = .ok (.value v) w') (h : wpList P ops Q rest (a.put o.dst v) w') : wpList P ops Q (o :: rest) a w :=
  wpList_plain hgd fun K hK => by
    unfold Oper.wp
    rw [hrun]
    exact hK _ _ h
/-- the arm at a build of a frame out of its head -/
theorem wpList_build_blank {ops : Array Oper} {rest : List Oper} {o : Oper} {a : Act} {w : World} {Q : Exit → Act → World → Prop} (hgd : o.guard = none) (x : Operand) (ho : o.op = .build 65 #[(0, x)])
    (hx : a.eval x = .agg #[.int .i64 (-1), .int .i64 0, .int .i64 0, .int .i64 0]) (h : wpList Try.prog ops Q rest (a.put o.dst (.agg blankFr.cells)) w) : wpList Try.prog ops Q (o :: rest) a w :=
  wpList_exec hgd (by unfold execOp; simp [ho, hx, build_blank]) h
set_option maxRecDepth 100000 in
theorem blank_any (w : World) : Calls Try.prog 21 #[] w fun e w' => e = .returned (.agg blankFr.cells) ∧ w.grownBy w' none := by
  have hz := zero55w
  have hzc := zcFr
  have hs := blankFr.size_cells
  have hs0 := zeroFr.size_cells
  have HS := hid hs; have HS0 := hid hs0
  clear hs hs0
  go_enter Try.func21, Try.ntmps21
  go_wp2_with (first
    | refine wpList_build_blank rfl (.tmp 1) rfl rfl ?_
    | refine wpList_store_row rfl 65 (.tmp 0) (.tmp 2) rfl w.heap.size blankFr.cells rfl rfl 65 zeroFr.cells (heap_alloc_new w _) (by rw [HS.out]; exact size55) (by rw [HS.out, HS0.out]) (Array.all_eq_true_iff_forall_mem.2 (fun v hv => blankFr.all_one v (by simpa using hv))) ?_)
  refine bodyPost_ret (v := .agg blankFr.cells) (results_cell_row rfl _ _ w.heap.size 65 blankFr.cells (0, 0) _ rfl (setRow_heap _ _ _ _ _ _ (heap_alloc_new w _)) Try.underlying65 rfl (by rw [HS.out]; exact size55)) rfl ?_
  refine ⟨rfl, (World.grownBy_alloc w _ none).andThen (grownBy_setRow _ _ _) (fun j hj => ?_)⟩
  cases hj
  exact .inl (Nat.le_refl _)

/-- a frame stored whole -/
theorem run_store_fr (w : World) (b i : Nat) (f : Fr) (M : Mach) (hM : PM w b M) (hi : i < 256) :
    ∃ w', (Instr.storeAt 65 (.pointer (some ⟨b, 1 + i * 260, none⟩)) (.agg f.cells)).run Try.prog w = .ok () w' ∧ PM w' b (M.upd i f) ∧ w.grownBy w' (some b) := by
  have hl : f.cells.toList.length = 260 := by rw [Array.length_toList, f.size_cells]
  have hfit : 1 + i * 260 + f.cells.toList.length ≤ cellsN := by rw [hl, cellsN_eq]; omega
  have hst := run_storeCells_at Try.prog b (1 + i * 260) _ f.cells.toList 0 M.cells w hM (by rw [M.size_cells]; exact hfit) f.all_one
  have hs := size55
  cases hq : Try.prog.info? 65 with
  | none => rw [hq] at hs; cases hs
  | some x =>
    rw [hq] at hs
    simp only [Option.map_some, Option.some.injEq] at hs
    simp only [Nat.add_zero] at hst
    refine ⟨_, ?_, hM.setRow (vs := f.cells.toList) (M' := M.upd i f) hfit ?_ ?_, grownBy_setRow _ _ _⟩
    · simp [Instr.storeAt, Instr.sureAddr, storeVar, sizeOf, typeInfo, hq, hs, Value.cells, f.size_cells, hst]
    · intro j hj
      rw [hl] at hj
      rw [Array.getElem?_toList, f.get_cells j hj, Mach.cell_at _ _ _ hj, Mach.upd_same]
    · intro j _ hj
      rw [hl] at hj
      exact Mach.cell_other _ _ _ _ (by omega)
theorem wp_store_fr {o : Oper} {a : Act} {w : World} {K : Act → World → Prop} {Q : Exit → Act → World → Prop} (x y : Operand) (ho : o.op = .store 65 x y)
    (b i : Nat) (f : Fr) (hx : a.eval x = .pointer (some ⟨b, 1 + i * 260, none⟩)) (hy : a.eval y = .agg f.cells) (M : Mach) (hM : PM w b M) (hi : i < 256)
    (h : ∀ w', PM w' b (M.upd i f) → w.grownBy w' (some b) → K (a.put o.dst undef) w') : o.wp Try.prog a w K Q := by
  obtain ⟨w', hr, h1, h2⟩ := run_store_fr w b i f M hM hi
  unfold Oper.wp execOp
  simp only [ho, hx, hy, Sem.run_bind, hr, Result.andThen_ok]
  exact h w' h1 h2
theorem wpList_store_fr {ops : Array Oper} {rest : List Oper} {o : Oper} {a : Act} {w : World} {Q : Exit → Act → World → Prop} (hgd : o.guard = none) (x y : Operand) (ho : o.op = .store 65 x y)
    (b i : Nat) (f : Fr) (hx : a.eval x = .pointer (some ⟨b, 1 + i * 260, none⟩)) (hy : a.eval y = .agg f.cells) (M : Mach) (hM : PM w b M) (hi : i < 256)
    (h : ∀ w', PM w' b (M.upd i f) → w.grownBy w' (some b) → wpList Try.prog ops Q rest (a.put o.dst undef) w') : wpList Try.prog ops Q (o :: rest) a w :=
  wpList_plain hgd fun _ hK => wp_store_fr x y ho b i f hx hy M hM hi (fun w' h1 h2 => hK _ _ (h w' h1 h2))

/-- Free -/
theorem Free_any (b : Nat) (i : Int) (w : World) (M : Mach) (T : Int) (hM : PM w b M) (hok : M.ok T) :
    Calls Try.prog 28 #[.pointer (some ⟨b, 0, none⟩), .int .i64 i] w (Left b w (M.free i).1 (M.free i).2) := by
  have hn1 := hok.n1; have hn2 := hok.n2; have hsz := hM.size
  by_cases hi : i < 0 ∨ M.n ≤ i
  · have H := hid (show M.free i = (1, M) by simp [Mach.free, Mach.is_no hi])
    go_enter Try.func28, Try.ntmps28
    go_wp2_with (go_at_call 39; refine (at_no _ _ _ _ hn1 hi hsz).mono ?_; rintro e w' ⟨rfl, rfl⟩)
    go_ret
    rw [H.out]
    exact ⟨rfl, hM, World.grownBy.refl _ _⟩
  obtain ⟨j, rfl⟩ := Int.eq_ofNat_of_zero_le (show 0 ≤ i by omega)
  have hj : (j : Int) < M.n := by omega
  have his : M.is j = true := Mach.is_yes (by omega) hj
  have hj' : j < 256 := by omega
  have hown := hM.owner hj'
  have htot := hM.tot hj'
  clear hi
  by_cases hfree : (M.fr j).owner = -1
  · have H := hid (show M.free j = (11, M) by simp [Mach.free, his, hfree])
    rw [hfree] at hown
    clear his hfree
    go_enter Try.func28, Try.ntmps28
    go_wp2_with (first | (go_at_call 39; refine (at_yes _ M.n j _ hn2 hj hsz).mono ?_; rintro e w' ⟨rfl, rfl⟩) | (go_at_call 40; refine (idle_free _ _ _ hown).mono ?_; rintro e w' ⟨rfl, rfl⟩))
    go_ret
    rw [H.out]
    exact ⟨rfl, hM, World.grownBy.refl _ _⟩
  have hfb : ((M.fr j).owner == -1) = false := by simp [hfree]
  by_cases hb : (M.fr j).tot = 0
  · have H := hid (show M.free j = (0, M.upd j blankFr) by simp [Mach.free, his, hfree, hb])
    rw [hb] at htot
    clear his hfree hb
    have HM := hid hM
    have Hsz := hid hsz; have Hown := hid hown; have Htot := hid htot
    clear hM hsz hown htot
    go_enter Try.func28, Try.ntmps28
    go_wp2_with (first | (go_at_call 39; refine (at_yes _ M.n j _ hn2 hj Hsz.out).mono ?_; rintro e w' ⟨rfl, rfl⟩) | (go_at_call 40; refine (idle_yes _ _ _ _ Hown.out Htot.out hfb).mono ?_; rintro e w' ⟨rfl, rfl⟩) | (go_at_call 21; refine (blank_any _).mono ?_; rintro e w1 ⟨rfl, hg1⟩; have HG1 := hid hg1; clear hg1) | (refine wpList_store_fr rfl (.tmp 24) (.tmp 23) rfl b j blankFr rfl rfl M (HM.out.grown HG1.out (by simp)) hj' ?_; intro w2 hM2 hg2; have HM2 := hid hM2; have HG2 := hid hg2; clear hM2 hg2))
    go_ret
    rw [H.out]
    exact ⟨rfl, HM2.out, (HG1.out.but _).trans HG2.out⟩
  · have htb : ((M.fr j).tot != 0) = true := by simp [hb]
    have H := hid (show M.free j = (9, M) by simp [Mach.free, his, hfree, hb])
    clear his hfree hb
    go_enter Try.func28, Try.ntmps28
    go_wp2_with (first | (go_at_call 39; refine (at_yes _ M.n j _ hn2 hj hsz).mono ?_; rintro e w' ⟨rfl, rfl⟩) | (go_at_call 40; refine (idle_busy _ _ _ _ _ hown htot hfb htb).mono ?_; rintro e w' ⟨rfl, rfl⟩))
    go_ret
    rw [H.out]
    exact ⟨rfl, hM, World.grownBy.refl _ _⟩

/-- Frame -/
def Fr.head (f : Fr) : Value := .agg #[.int .i64 f.owner, .int .i64 f.ty, .int .i64 f.cnt, .int .i64 f.tot]
theorem Frame_no (b : Nat) (i : Int) (w : World) (M : Mach) (T : Int) (hM : PM w b M) (hok : M.ok T) (hi : i < 0 ∨ M.n ≤ i) :
    Calls Try.prog 60 #[.pointer (some ⟨b, 0, none⟩), .int .i64 i] w fun e w' => e = .returned (.tuple #[.agg #[.int .i64 0, .int .i64 0, .int .i64 0, .int .i64 0], .int .i64 1]) ∧ w.grownBy w' none := by
  have hn1 := hok.n1; have hn2 := hok.n2; have hsz := hM.size
  go_enter Try.func60, Try.ntmps60
  go_wp2_with (go_at_call 39; refine (at_no _ _ _ _ hn1 hi (by first | exact hsz | exact (hM.alloc _).size)).mono ?_; rintro e w' ⟨rfl, rfl⟩)
  go_returns
  exact ⟨rfl, World.grownBy_alloc _ _ _⟩
theorem Frame_yes (b : Nat) (j : Nat) (w : World) (M : Mach) (T : Int) (hM : PM w b M) (hok : M.ok T) (hj : (j : Int) < M.n) :
    Calls Try.prog 60 #[.pointer (some ⟨b, 0, none⟩), .int .i64 j] w fun e w' => e = .returned (.tuple #[(M.fr j).head, .int .i64 0]) ∧ w.grownBy w' none := by
  have hn2 := hok.n2; have hsz := hM.size
  have hj' : j < 256 := by omega
  have h0 := hM.owner hj'; have h1 := hM.ty hj'; have h2 := hM.cnt hj'; have h3 := hM.tot hj'
  have hbl := hM.lt
  go_enter Try.func60, Try.ntmps60
  go_wp2_with (go_at_call 39; refine (at_yes _ M.n j _ hn2 hj (by exact (hM.alloc _).size)).mono ?_; rintro e w' ⟨rfl, rfl⟩)
  go_returns
  exact ⟨rfl, World.grownBy_alloc _ _ _⟩

end Go.Proofs.Ytbbaplcfhofeeaa

/-
  Contracts of package phys: Copy, Read, Write, New.
-/
set_option linter.unusedSimpArgs false
set_option linter.unusedVariables false
namespace Go.Proofs.Ytbbaplcfhofeeaa
open Go.RowKit
set_option maxHeartbeats 400000

theorem Fr.one_cell_at (M : Mach) (k : Nat) : (M.cell k).oneCell' = true := by
  cases k with
  | zero => rfl
  | succ k => exact Fr.one_cell _ _
theorem Mach.all_one (M : Mach) : ∀ v ∈ M.cells, v.oneCell' = true := by
  intro v hv
  obtain ⟨k, hk, rfl⟩ := Array.mem_iff_getElem.1 hv
  have h := Array.getElem?_eq_getElem hk
  rw [M.get_cells k (by rw [M.size_cells] at hk; exact hk)] at h
  rw [← Option.some.inj h]
  exact Fr.one_cell_at _ _

theorem wpList_load_mach {ops : Array Oper} {rest : List Oper} {o : Oper} {a : Act} {w : World} {Q : Exit → Act → World → Prop} (hgd : o.guard = none) (x : Operand) (ho : o.op = .load 68 x)
    (b : Nat) (M : Mach) (hx : a.eval x = .pointer (some ⟨b, 0, none⟩)) (hM : PM w b M) (h : wpList Try.prog ops Q rest (a.put o.dst (.agg M.cells)) w) : wpList Try.prog ops Q (o :: rest) a w :=
  wpList_load_row hgd 68 x ho b hx _ M.cells _ _ hM Try.underlying68 rfl (by rw [M.size_cells]; exact size58) h
theorem wpList_store_mach {ops : Array Oper} {rest : List Oper} {o : Oper} {a : Act} {w : World} {Q : Exit → Act → World → Prop} (hgd : o.guard = none) (x y : Operand) (ho : o.op = .store 68 x y)
    (b : Nat) (M M' : Mach) (hx : a.eval x = .pointer (some ⟨b, 0, none⟩)) (hy : a.eval y = .agg M'.cells) (hM : PM w b M)
    (h : ∀ w', PM w' b M' → w.grownBy w' (some b) → wpList Try.prog ops Q rest (a.put o.dst undef) w') : wpList Try.prog ops Q (o :: rest) a w :=
  wpList_store_row hgd 68 x y ho b M'.cells hx hy _ M.cells hM (by rw [M'.size_cells]; exact size58) (by rw [M.size_cells, M'.size_cells]) (Array.all_eq_true_iff_forall_mem.2 M'.all_one)
    (h _ (setRow_heap _ _ _ _ _ _ hM) (grownBy_setRow _ _ _))
theorem wpList_alloc_mach {ops : Array Oper} {rest : List Oper} {o : Oper} {a : Act} {w : World} {Q : Exit → Act → World → Prop} (hgd : o.guard = none) (ho : o.op = .alloc 68)
    (h : ∀ w', w'.heap.size = w.heap.size + 1 → PM w' w.heap.size (flatMach 0 zeroFr) → w.grownBy w' none → wpList Try.prog ops Q rest (a.put o.dst (.pointer (some ⟨w.heap.size, 0, none⟩))) w') : wpList Try.prog ops Q (o :: rest) a w :=
  wpList_exec hgd (w' := w.alloc (.cells (flatMach 0 zeroFr).cells 68)) (by unfold execOp; simp [ho, Instr.alloc, zcMach, zero58w, newVar, newRow, Value.cells, run_newObj_alloc]) (h _ (by simp) (heap_alloc_new w _) (World.grownBy_alloc w _ none))
/-- a pointer to a new machine -/
def NewMach (w : World) (M : Mach) (v : Value) (w' : World) : Prop := ∃ b, v = .pointer (some ⟨b, 0, none⟩) ∧ w.heap.size ≤ b ∧ PM w' b M ∧ w.grownBy w' none
/-- f.bytes[off:] -/
def sliceAddr (b o off : Nat) : Addr := if 256 = off then ⟨b, o, none⟩ else (⟨b, o, none⟩ : Addr).add (off * 1)
theorem sliceAddr_add {b o off k : Nat} (h : off + k < 256) : (sliceAddr b o off).add k = ⟨b, o + off + k, none⟩ := by
  unfold sliceAddr
  rw [if_neg (by omega)]
  have e : ∀ q n, (⟨b, q, none⟩ : Addr).add n = ⟨b, q + n, none⟩ := fun q n => by unfold Addr.add; split <;> simp_all
  rw [e, e, Nat.mul_one]
theorem run_sliceArr (w : World) (b o off : Nat) (h : off ≤ 256) : (Instr.sliceAt 63 (.pointer (some ⟨b, o, none⟩)) (some (.int .i64 off)) none none).run Try.prog w =
    .ok (.slice (some (sliceAddr b o off)) (256 - off) (256 - off)) w := by
  have i5 : (Try.prog.info? 5).map (·.size) = some 1 := by kernel_rfl
  cases h5 : Try.prog.info? 5 with
  | none => rw [h5] at i5; cases i5
  | some x =>
  rw [h5] at i5
  simp only [Option.map_some, Option.some.injEq] at i5
  have h' : (off : Int) ≤ 256 := by omega
  simp [Instr.sliceAt, run_underlying Try.underlying63, Instr.sureAddr, Instr.sliceBounds, Instr.sliceBound, asIntOf, sizeOf, typeInfo, h5, i5, h', sliceAddr]
  intro hh; omega
theorem wpList_slice_arr {ops : Array Oper} {rest : List Oper} {o : Oper} {a : Act} {w : World} {Q : Exit → Act → World → Prop} (hgd : o.guard = none) (x y : Operand) (ho : o.op = .slice 63 x (some y) none none)
    (b p off : Nat) (hx : a.eval x = .pointer (some ⟨b, p, none⟩)) (hy : a.eval y = .int .i64 off) (hoff : off ≤ 256)
    (h : wpList Try.prog ops Q rest (a.put o.dst (.slice (some (sliceAddr b p off)) (256 - off) (256 - off))) w) : wpList Try.prog ops Q (o :: rest) a w :=
  wpList_exec hgd (by unfold execOp; simp [ho, hx, hy, run_sliceArr w b p off hoff]) h

/-- bytes as cells -/
def bcells (l : List UInt8) : List Value := l.map fun x => .int .u8 x.toNat
theorem bcells_len (l : List UInt8) : (bcells l).length = l.length := by simp [bcells]
theorem bcells_get (l : List UInt8) (k : Nat) : (bcells l)[k]? = l[k]?.map fun x => .int .u8 x.toNat := by simp [bcells]
theorem bcells_one (l : List UInt8) : ∀ v ∈ bcells l, v.oneCell' = true := by
  intro v hv
  simp only [bcells, List.mem_map] at hv
  obtain ⟨x, _, rfl⟩ := hv
  rfl
attribute [irreducible] bcells sliceAddr
/-- a slice of bytes that reads as l, apart from block b -/
def IsBytes (w : World) (b : Nat) (v : Value) (l : List UInt8) : Prop :=
  ((∃ pa cap, v = .slice pa 0 cap) ∧ l = []) ∨ ∃ a cap, v = .slice (some a) l.length cap ∧ a.block ≠ b ∧ ∀ k x, l[k]? = some x → w.cell? (a.add k) = some (.int .u8 x.toNat)
theorem IsBytes.grown {w w' : World} {b : Nat} {v : Value} {l : List UInt8} (h : IsBytes w b v l) (hg : w.grownBy w' (some b)) : IsBytes w' b v l := by
  rcases h with h | ⟨a, cap, rfl, hb, hc⟩
  · exact .inl h
  · refine .inr ⟨a, cap, rfl, hb, fun k x hx => hg.cell (hc k x hx) ?_⟩
    unfold Addr.add; split <;> simpa using hb
/-- a slice of bytes in a block of its own -/
def NewBytes (w : World) (l : List UInt8) (v : Value) (w' : World) : Prop :=
  (v = .slice none 0 0 ∧ l = [] ∧ w.grownBy w' none) ∨
  ∃ b, v = .slice (some ⟨b, 0, none⟩) l.length l.length ∧ w.heap.size ≤ b ∧ w'.heap[b]? = some (.cells (bcells l).toArray 5 (0, 0)) ∧ w.grownBy w' none

theorem u8_size : (Try.prog.info? 5).map (·.size) = some 1 := by kernel_rfl
/-- copy into a row that is known whole, from bytes -/
theorem wpList_copy_in {ops : Array Oper} {rest : List Oper} {o : Oper} {a : Act} {w : World} {Q : Exit → Act → World → Prop} (hgd : o.guard = none) (d s : Operand)
    (ho : o.op = .call { callee := .builtin .copy, args := #[d, s], argTypes := #[103, 103] })
    (g n cap : Nat) (hd : a.eval d = .slice (some ⟨g, 0, none⟩) n cap) (ad : Addr) (sLen sCap : Nat) (hs : a.eval s = .slice (some ad) sLen sCap) (hn : n ≤ sLen)
    (l : List UInt8) (hl : l.length = n) (cur : Array Value) (hcur : cur.size = n) (hg : w.heap[g]? = some (.cells cur 5 (0, 0)))
    (hsrc : ∀ k x, l[k]? = some x → w.cell? (ad.add k) = some (.int .u8 x.toNat))
    (h : ∀ w', w'.heap[g]? = some (.cells (bcells l).toArray 5 (0, 0)) → w.grownBy w' (some g) → wpList Try.prog ops Q rest (a.put o.dst (goInt (bcells l).length)) w') : wpList Try.prog ops Q (o :: rest) a w := by
  have hbl := bcells_len l
  refine wpList_copy_own hgd d s 103 103 ho 5 Try.underlying103 u8_size g 0 n cap ad sLen sCap hd hs cur 5 hg (bcells l) (by rw [hbl, hl]; exact (Nat.min_eq_right hn).symm) ?_ (by omega) (bcells_one l) ?_
  · intro j v hv
    rw [bcells_get] at hv
    cases hx : l[j]? with
    | none => rw [hx] at hv; cases hv
    | some x => rw [hx] at hv; cases hv; exact hsrc j x hx
  · refine h _ ?_ (grownBy_setRow _ _ _)
    rw [setRow_heap _ _ _ _ _ _ hg]
    congr 2
    simp [hbl, hl, hcur]

theorem Read_no (b : Nat) (i off n : Int) (w : World) (M : Mach) (T : Int) (hM : PM w b M) (hok : M.ok T) (ho : off ≤ 9223372036854775807) (h : M.is i = false ∨ inP off n = false) :
    Calls Try.prog 73 #[.pointer (some ⟨b, 0, none⟩), .int .i64 i, .int .i64 off, .int .i64 n] w fun e w' => e = .returned (.tuple #[.slice none 0 0, .int .i64 1]) ∧ w = w' := by
  have hn1 := hok.n1; have hn2 := hok.n2; have hsz := hM.size
  by_cases hi : i < 0 ∨ M.n ≤ i
  · clear h
    go_enter Try.func73, Try.ntmps73
    go_wp2_with (go_at_call 39; refine (at_no _ _ _ _ hn1 hi hsz).mono ?_; rintro e w' ⟨rfl, rfl⟩)
    go_ret2
    exact ⟨rfl, rfl⟩
  obtain ⟨j, rfl⟩ := Int.eq_ofNat_of_zero_le (show 0 ≤ i by omega)
  have hj : (j : Int) < M.n := by omega
  have hp : off < 0 ∨ n < 0 ∨ 256 - off < n := by
    rw [Mach.is_yes (by omega) hj] at h
    have h := h.resolve_left (by simp)
    have := mt inP_iff.2 (by rw [h]; simp)
    omega
  clear h hi
  go_enter Try.func73, Try.ntmps73
  go_wp2_with (first | (go_at_call 39; refine (at_yes _ M.n j _ hn2 hj hsz).mono ?_; rintro e w' ⟨rfl, rfl⟩) | (go_at_call 56; refine (inPage_no _ _ _ ho hp).mono ?_; rintro e w' ⟨rfl, rfl⟩))
  go_ret2
  exact ⟨rfl, rfl⟩
theorem u8_make (w : World) (n : Nat) (hn : n ≤ 256) : (Instr.makeSlice 103 (.int .i64 n) (.int .i64 n)).run Try.prog w = .ok (.slice (some ⟨w.heap.size, 0, none⟩) n n) (w.alloc (.cells (madeCells #[.int .u8 0] n) 5)) := by
  have i5 : (Try.prog.info? 5).map (fun i => (i.zero, i.size, i.bytes)) = some (some (.int .u8 0), 1, 1) := by kernel_rfl
  obtain ⟨i0, hi, hz0, hz1, hz2⟩ := info_parts i5
  have hr := run_make w 103 5 i0 (.int .u8 0) Try.underlying103 hi hz0 .i64 .i64 n n (by omega) (by omega) (by rw [hz2]; omega) (by omega)
  rw [hr, hz1]
  simp [Value.cells]
theorem wpList_make_u8 {ops : Array Oper} {rest : List Oper} {o : Oper} {a : Act} {w : World} {Q : Exit → Act → World → Prop} (hgd : o.guard = none) (x y : Operand) (ho : o.op = .makeSlice 103 x y)
    (n : Nat) (hx : a.eval x = .int .i64 n) (hy : a.eval y = .int .i64 n) (hn : n ≤ 256)
    (h : ∀ w' cur, cur.size = n → w'.heap[w.heap.size]? = some (.cells cur 5 (0, 0)) → w.grownBy w' none → wpList Try.prog ops Q rest (a.put o.dst (.slice (some ⟨w.heap.size, 0, none⟩) n n)) w') : wpList Try.prog ops Q (o :: rest) a w :=
  wpList_exec hgd (v := .slice (some ⟨w.heap.size, 0, none⟩) n n) (w' := w.alloc (.cells (madeCells #[.int .u8 0] n) 5)) (by unfold execOp; simp [ho, hx, hy, u8_make w n hn]) (h _ _ (size_madeCells _ n) (heap_alloc_new w _) (World.grownBy_alloc w _ none))
theorem Fr.part_len (f : Fr) (off n : Nat) : (f.part off n).length = n := by simp [Fr.part]
theorem Fr.part_get (f : Fr) (off n k : Nat) : (f.part off n)[k]? = if k < n then some (f.bs (off + k)) else none := by
  unfold Fr.part
  by_cases h : k < n
  · simp [h]
  · rw [if_neg h, List.getElem?_eq_none (by simp; omega)]
theorem Read_yes (b : Nat) (j off n : Nat) (w : World) (M : Mach) (T : Int) (hM : PM w b M) (hok : M.ok T) (hj : (j : Int) < M.n) (h : off + n ≤ 256) :
    Calls Try.prog 73 #[.pointer (some ⟨b, 0, none⟩), .int .i64 j, .int .i64 off, .int .i64 n] w fun e w' => ∃ v, e = .returned (.tuple #[v, .int .i64 0]) ∧ NewBytes w ((M.fr j).part off n) v w' := by
  have hn1 := hok.n1; have hn2 := hok.n2; have hsz := hM.size
  have hj' : j < 256 := by omega
  have ha : (n : Int) ≤ 256 - off := by omega
  have HM := hid hM
  have HL := hid ((M.fr j).part_len off n)
  have Hlt := hid hM.lt
  clear hM
  go_enter Try.func73, Try.ntmps73
  go_wp2_with (first
    | (go_at_call 39; refine (at_yes _ M.n j _ hn2 hj hsz).mono ?_; rintro e w' ⟨rfl, rfl⟩)
    | (go_at_call 56; refine (inPage_yes _ _ _ (by omega) (by omega) ha).mono ?_; rintro e w' ⟨rfl, rfl⟩)
    | (refine wpList_make_u8 rfl (.tmp 26) (.tmp 26) rfl n rfl rfl (by omega) ?_; intro w1 cur hc1 hr1 hg1; have HC1 := hid hc1; have HR1 := hid hr1; have HG1 := hid hg1; clear hc1 hr1 hg1)
    | refine wpList_slice_arr rfl (.tmp 31) (.tmp 32) rfl b (1 + j * 260 + 4) off rfl rfl (by omega) ?_
    | (refine wpList_copy_in rfl (.tmp 28) (.tmp 33) rfl w.heap.size n n rfl _ _ _ rfl (by omega) ((M.fr j).part off n) HL.out cur HC1.out HR1.out (fun k x hx => by
        rw [Fr.part_get] at hx
        split at hx
        · cases hx
          rw [sliceAddr_add (by omega)]
          have := (HM.out.grown HG1.out (by simp)).byte hj' (k := off + k) (by omega)
          rwa [← Nat.add_assoc] at this
        · cases hx) ?_; intro w2 hr2 hg2; have HR2 := hid hr2; have HG2 := hid hg2; clear hr2 hg2))
  go_ret2
  refine ⟨_, rfl, .inr ⟨w.heap.size, by rw [HL.out]; rfl, Nat.le_refl _, HR2.out, HG1.out.andThen HG2.out ?_⟩⟩
  intro q hq; cases hq; exact .inl (Nat.le_refl _)

end Go.Proofs.Ytbbaplcfhofeeaa

/-
  Contracts of package phys: Write, New.
-/
set_option linter.unusedSimpArgs false
set_option linter.unusedVariables false
namespace Go.Proofs.Ytbbaplcfhofeeaa
open Go.RowKit
set_option maxHeartbeats 400000

theorem sliceAddr_lit {b o off : Nat} (h : off < 256) : sliceAddr b o off = ⟨b, o + off, none⟩ := by
  have := sliceAddr_add (b := b) (o := o) (off := off) (k := 0) (by omega)
  simpa [Addr.add] using this
theorem Fr.laid_byte (f : Fr) (off : Nat) (l : List UInt8) (k : Nat) : (f.laid off l).cell (k + 4) = if off ≤ k ∧ k < off + l.length then .int .u8 (l.getD (k - off) 0).toNat else f.cell (k + 4) := by
  show Value.int .u8 (((f.laid off l).bs k).toNat : Int) = _
  unfold Fr.laid
  simp only
  split <;> rfl
theorem laid_pm {w : World} {b j off : Nat} {M : Mach} {l : List UInt8} (hM : PM w b M) (hj : j < 256) (hoff : off + l.length ≤ 256) :
    PM (w.setRow b (M.cells.toList.take (1 + j * 260 + 4 + off) ++ bcells l ++ M.cells.toList.drop (1 + j * 260 + 4 + off + (bcells l).length)).toArray) b (M.upd j ((M.fr j).laid off l)) := by
  have hbl := bcells_len l
  have hfit : 1 + j * 260 + 4 + off + (bcells l).length ≤ cellsN := by rw [hbl, cellsN_eq]; omega
  refine hM.setRow (vs := bcells l) (M' := M.upd j ((M.fr j).laid off l)) hfit ?_ ?_
  · intro k hk
    rw [hbl] at hk
    rw [bcells_get, show 1 + j * 260 + 4 + off + k = 1 + j * 260 + (off + k + 4) by omega, Mach.cell_at _ _ _ (by omega), Mach.upd_same, Fr.laid_byte, if_pos ⟨by omega, by omega⟩, show off + k - off = k by omega]
    rw [List.getElem?_eq_getElem hk]
    simp [List.getD, List.getElem?_eq_getElem hk]
  · intro k hk hk'
    rw [hbl] at hk'
    by_cases h1 : k < 1 + j * 260 ∨ 1 + j * 260 + 260 ≤ k
    · exact Mach.cell_other _ _ _ _ h1
    · obtain ⟨r, rfl⟩ : ∃ r, k = 1 + j * 260 + r := ⟨k - (1 + j * 260), by omega⟩
      have hr : r < 260 := by omega
      rw [Mach.cell_at _ _ _ hr, Mach.cell_at _ _ _ hr, Mach.upd_same]
      match r, hr with
      | 0, _ => rfl
      | 1, _ => rfl
      | 2, _ => rfl
      | 3, _ => rfl
      | q + 4, _ => rw [Fr.laid_byte, if_neg (by omega)]
theorem laid_nil (M : Mach) (j off : Nat) : M.upd j ((M.fr j).laid off []) = M := by
  have e : (M.fr j).laid off [] = M.fr j := by
    cases hf : M.fr j with | mk a1 a2 a3 a4 a5 =>
    simp only [Fr.laid, List.length_nil, Nat.add_zero, Fr.mk.injEq, true_and]
    funext k
    rw [if_neg (by omega)]
  rw [e]
  cases M with | mk n fr =>
  simp only [Mach.upd, Mach.mk.injEq, true_and]
  funext k
  split
  · rename_i h; subst h; rfl
  · rfl
theorem wpList_copy_frame {ops : Array Oper} {rest : List Oper} {o : Oper} {a : Act} {w : World} {Q : Exit → Act → World → Prop} (hgd : o.guard = none) (d s : Operand)
    (ho : o.op = .call { callee := .builtin .copy, args := #[d, s], argTypes := #[103, 103] })
    (b j off : Nat) (hd : a.eval d = .slice (some (sliceAddr b (1 + j * 260 + 4) off)) (256 - off) (256 - off)) (v : Value) (hs : a.eval s = v) (l : List UInt8) (hv : IsBytes w b v l) (hoff : off + l.length ≤ 256) (hj : j < 256) (M : Mach) (hM : PM w b M)
    (h : ∀ w' n, PM w' b (M.upd j ((M.fr j).laid off l)) → w.grownBy w' (some b) → wpList Try.prog ops Q rest (a.put o.dst (goInt n)) w') : wpList Try.prog ops Q (o :: rest) a w := by
  have nothing : ∀ (sp : Option Addr) (sLen sCap : Nat), v = .slice sp sLen sCap → l = [] → sLen = 0 → wpList Try.prog ops Q (o :: rest) a w := by
    intro sp sLen sCap hv' hl h0
    subst hl h0
    refine wpList_copy_nothing hgd d s 103 103 ho 5 Try.underlying103 u8_size _ sp _ _ 0 sCap hd (by rw [hs, hv']) (Nat.min_eq_left (Nat.zero_le _)) (h _ 0 ?_ (World.grownBy.refl _ _))
    rw [laid_nil]; exact hM
  rcases hv with ⟨⟨sp, sc, hv'⟩, hl⟩ | ⟨ad, cap, hv', hab, hc⟩
  · exact nothing sp 0 sc hv' hl rfl
  · by_cases h0 : l = []
    · exact nothing (some ad) l.length cap hv' h0 (by rw [h0]; rfl)
    · have hpos : 0 < l.length := List.length_pos_iff.2 h0
      have hbl := bcells_len l
      rw [sliceAddr_lit (by omega)] at hd
      refine wpList_plain hgd fun K hK => ?_
      have hrun := run_copy_row Try.prog w 103 103 o.type 5 b (1 + j * 260 + 4 + off) (256 - off) (256 - off) ad l.length cap M.cells 68 (bcells l) Try.underlying103 u8_size hM (by rw [hbl]; exact (Nat.min_eq_left (by omega)).symm) (by
        intro k u hu
        rw [bcells_get] at hu
        cases hx : l[k]? with
        | none => rw [hx] at hu; cases hu
        | some x => rw [hx] at hu; cases hu; exact hc k x hx) (by rw [hbl, M.size_cells, cellsN_eq]; omega) (bcells_one l)
      unfold Oper.wp
      simp only [execOp, ho, resolve, invoke, builtin, hd, hs, hv', Sem.run_bind, Sem.run_pure, Result.andThen_ok, List.map_toArray, List.map_cons, List.map_nil, hrun]
      exact hK _ _ (h _ (bcells l).length (laid_pm hM hj hoff) (grownBy_setRow _ _ _))

theorem Write_any (b : Nat) (i off : Int) (v : Value) (l : List UInt8) (w : World) (M : Mach) (T : Int) (hM : PM w b M) (hok : M.ok T) (ho : off ≤ 9223372036854775807) (hv : IsBytes w b v l) (hmax : l.length ≤ 9223372036854775807) :
    Calls Try.prog 44 #[.pointer (some ⟨b, 0, none⟩), .int .i64 i, .int .i64 off, v] w (Left b w (M.write i off l).1 (M.write i off l).2) := by
  have hn1 := hok.n1; have hn2 := hok.n2; have hsz := hM.size
  have Hv := hid hv
  obtain ⟨pa, cap, hvv⟩ : ∃ pa cap, v = .slice pa l.length cap := by
    rcases hv with ⟨⟨sp, sc, rfl⟩, rfl⟩ | ⟨a, cap, rfl, _⟩
    · exact ⟨sp, sc, rfl⟩
    · exact ⟨some a, cap, rfl⟩
  subst hvv
  clear hv
  by_cases hi : i < 0 ∨ M.n ≤ i
  · have H := hid (show M.write i off l = (1, M) by simp [Mach.write, Mach.is_no hi])
    go_enter Try.func44, Try.ntmps44
    go_wp2_with (go_at_call 39; refine (at_no _ _ _ _ hn1 hi hsz).mono ?_; rintro e w' ⟨rfl, rfl⟩)
    go_ret
    rw [H.out]
    exact ⟨rfl, hM, World.grownBy.refl _ _⟩
  obtain ⟨j, rfl⟩ := Int.eq_ofNat_of_zero_le (show 0 ≤ i by omega)
  have hj : (j : Int) < M.n := by omega
  have his : M.is j = true := Mach.is_yes (by omega) hj
  have hj' : j < 256 := by omega
  have hown := hM.owner hj'
  clear hi
  by_cases hp : off < 0 ∨ (l.length : Int) < 0 ∨ 256 - off < l.length
  · have H := hid (show M.write j off l = (1, M) by simp [Mach.write, his, inP_no hp])
    clear his
    go_enter Try.func44, Try.ntmps44
    go_wp2_with (first | (go_at_call 39; refine (at_yes _ M.n j _ hn2 hj hsz).mono ?_; rintro e w' ⟨rfl, rfl⟩) | (go_at_call 56; refine (inPage_no _ _ _ ho hp).mono ?_; rintro e w' ⟨rfl, rfl⟩))
    go_ret
    rw [H.out]
    exact ⟨rfl, hM, World.grownBy.refl _ _⟩
  obtain ⟨q, rfl⟩ := Int.eq_ofNat_of_zero_le (show 0 ≤ off by omega)
  have hq : (l.length : Int) ≤ 256 - q := by omega
  have hin := inP_yes (o := q) (n := l.length) (by omega) (by omega) hq
  clear hp
  by_cases hfree : (M.fr j).owner = -1
  · have H := hid (show M.write j q l = (11, M) by simp [Mach.write, his, hin, hfree])
    rw [hfree] at hown
    clear his hfree hin
    go_enter Try.func44, Try.ntmps44
    go_wp2_with (first | (go_at_call 39; refine (at_yes _ M.n j _ hn2 hj hsz).mono ?_; rintro e w' ⟨rfl, rfl⟩) | (go_at_call 56; refine (inPage_yes _ _ _ (by omega) (by omega) hq).mono ?_; rintro e w' ⟨rfl, rfl⟩))
    go_ret
    rw [H.out]
    exact ⟨rfl, hM, World.grownBy.refl _ _⟩
  · have hfb : ((M.fr j).owner == -1) = false := by simp [hfree]
    have H := hid (show M.write j q l = (0, M.upd j ((M.fr j).laid q l)) by simp [Mach.write, his, hin, hfree])
    have HM := hid hM
    clear his hfree hin hM
    go_enter Try.func44, Try.ntmps44
    go_wp2_with (first
      | (go_at_call 39; refine (at_yes _ M.n j _ hn2 hj hsz).mono ?_; rintro e w' ⟨rfl, rfl⟩)
      | (go_at_call 56; refine (inPage_yes _ _ _ (by omega) (by omega) hq).mono ?_; rintro e w' ⟨rfl, rfl⟩)
      | refine wpList_slice_arr rfl (.tmp 33) (.tmp 34) rfl b (1 + j * 260 + 4) q rfl rfl (by omega) ?_
      | (refine wpList_copy_frame rfl (.tmp 35) (.tmp 36) rfl b j q rfl _ rfl l Hv.out (by omega) hj' M HM.out ?_; intro w2 n2 hM2 hg2; have HM2 := hid hM2; have HG2 := hid hg2; clear hM2 hg2))
    go_ret
    rw [H.out]
    exact ⟨rfl, HM2.out, HG2.out⟩

/-- New -/
theorem New_no (n : Int) (w : World) (h : n < 1 ∨ 256 < n) : Calls Try.prog 10 #[.int .i64 n] w fun e w' => e = .returned (.tuple #[.pointer none, .int .i64 1]) ∧ w = w' := by
  by_cases h1 : n < 1
  · clear h
    go_enter Try.func10, Try.ntmps10
    go_wp2
    go_ret2
    exact ⟨rfl, rfl⟩
  · have h2 : 256 < n := by omega
    clear h
    go_enter Try.func10, Try.ntmps10
    go_wp2
    go_ret2
    exact ⟨rfl, rfl⟩
def upTo (n : Int) (k : Nat) : Mach := ⟨n, fun i => if i < k then blankFr else zeroFr⟩
theorem build_mach (n : Int) (w : World) : (Instr.build 68 #[(0, .int .i64 n)]).run Try.prog w = .ok (.agg (upTo n 0).cells) w := by
  have e : (flatMach 0 zeroFr).cells.setIfInBounds 0 (.int .i64 n) = (upTo n 0).cells := by
    refine Mach.cells_ext (by simp [Mach.size_cells]) fun k hk => ?_
    rw [Array.getElem?_setIfInBounds]
    cases k with
    | zero => rw [if_pos rfl, Mach.size_cells, if_pos (by rw [cellsN_eq]; omega)]; rfl
    | succ k => rw [if_neg (by omega), Mach.get_cells _ _ hk]; rfl
  have hz := (flatMach 0 zeroFr).size_cells
  have hpos : 1 ≤ (flatMach 0 zeroFr).cells.size := by rw [hz, cellsN_eq]; omega
  have hne : (flatMach 0 zeroFr).cells ≠ #[] := fun hh => by rw [hh] at hpos; simp at hpos
  have i3 : (Try.prog.info? 3).map (·.size) = some 1 := by kernel_rfl
  have i56 : (Try.prog.info? 66).map (·.size) = some 66560 := by kernel_rfl
  cases h3 : Try.prog.info? 3 with
  | none => rw [h3] at i3; cases i3
  | some x =>
  cases h56 : Try.prog.info? 66 with
  | none => rw [h56] at i56; cases i56
  | some y =>
  rw [h3] at i3; rw [h56] at i56
  simp only [Option.map_some, Option.some.injEq] at i3 i56
  simp [Instr.build, zcMach, zero58w, run_underlying Try.underlying68, sizeOf, typeInfo, h3, h56, i3, i56, Instr.fill, Value.cells, hne, ← e]

theorem wpList_build_mach {ops : Array Oper} {rest : List Oper} {o : Oper} {a : Act} {w : World} {Q : Exit → Act → World → Prop} (hgd : o.guard = none) (x : Operand) (ho : o.op = .build 68 #[(0, x)])
    (n : Int) (hx : a.eval x = .int .i64 n) (h : wpList Try.prog ops Q rest (a.put o.dst (.agg (upTo n 0).cells)) w) : wpList Try.prog ops Q (o :: rest) a w :=
  wpList_exec hgd (by unfold execOp; simp [ho, hx, build_mach]) h
theorem wpList_box_mach {ops : Array Oper} {rest : List Oper} {o : Oper} {a : Act} {w : World} {Q : Exit → Act → World → Prop} (hgd : o.guard = none) (x : Operand) (ho : o.op = .box 68 x)
    (M : Mach) (hx : a.eval x = .agg M.cells) (h : ∀ w', w'.heap.size = w.heap.size + 1 → PM w' w.heap.size M → w.grownBy w' none → wpList Try.prog ops Q rest (a.put o.dst (.pointer (some ⟨w.heap.size, 0, none⟩))) w') : wpList Try.prog ops Q (o :: rest) a w :=
  wpList_exec hgd (v := .pointer (some ⟨w.heap.size, 0, none⟩)) (w' := w.alloc (.cells M.cells 68)) (by unfold execOp; simp [ho, hx, Instr.box, newVar, newRow, Value.cells, run_newObj_alloc]) (h _ (by simp) (heap_alloc_new w _) (World.grownBy_alloc w _ none))
theorem upTo_step (n : Int) (k : Nat) : (upTo n k).upd k blankFr = upTo n (k + 1) := by
  simp only [upTo, Mach.upd, Mach.mk.injEq, true_and]
  funext i
  by_cases h : i = k
  · subst h; simp
  · by_cases h2 : i < k
    · rw [if_neg h, if_pos h2, if_pos (by omega)]
    · rw [if_neg h, if_neg h2, if_neg (by omega)]
theorem store_fr_cells (w : World) (b i : Nat) (f : Fr) (M : Mach) (hM : PM w b M) (hi : i < 256) :
    ∃ w', (storeCells ⟨b, 1 + i * 260, none⟩ f.cells.toList).run Try.prog w = .ok () w' ∧ PM w' b (M.upd i f) ∧ w.grownBy w' (some b) := by
  have hl : f.cells.toList.length = 260 := by rw [Array.length_toList, f.size_cells]
  have hfit : 1 + i * 260 + f.cells.toList.length ≤ cellsN := by rw [hl, cellsN_eq]; omega
  have hst := run_storeCells_at Try.prog b (1 + i * 260) _ f.cells.toList 0 M.cells w hM (by rw [M.size_cells]; exact hfit) f.all_one
  simp only [Nat.add_zero] at hst
  refine ⟨_, hst, hM.setRow (vs := f.cells.toList) (M' := M.upd i f) hfit ?_ ?_, grownBy_setRow _ _ _⟩
  · intro j hj
    rw [hl] at hj
    rw [Array.getElem?_toList, f.get_cells j hj, Mach.cell_at _ _ _ hj, Mach.upd_same]
  · intro j _ hj
    rw [hl] at hj
    exact Mach.cell_other _ _ _ _ (by omega)
theorem New_yes (n : Nat) (w : World) (h1 : 1 ≤ n) (h2 : n ≤ 256) : Calls Try.prog 10 #[.int .i64 n] w fun e w' => ∃ v, e = .returned (.tuple #[v, .int .i64 0]) ∧ NewMach w (upTo n n) v w' := by
  have g1 : (1 : Int) ≤ n := by omega
  have g2 : (n : Int) ≤ 256 := by omega
  go_enter Try.func10, Try.ntmps10
  go_wp2_with (first
    | refine wpList_build_mach rfl (.tmp 12) rfl n rfl ?_
    | (refine wpList_box_mach rfl (.tmp 13) rfl (upTo n 0) rfl ?_; intro w1 hs1 hM1 hg1; have HS1 := hid hs1; have HM1 := hid hM1; have HG1 := hid hg1; clear hs1 hM1 hg1))
  go_loopw [16] (fun i wr => ∃ k : Nat, i = .int .i64 k ∧ k ≤ n ∧ PM wr w.heap.size (upTo n k) ∧ w.grownBy wr none) (fun i _ => n - (intOf i).toNat)
  case atStart => exact ⟨0, rfl, by omega, HM1.out, HG1.out⟩
  case round =>
    obtain ⟨k, rfl, hk, hM, hg⟩ := hrel
    have HM := hid hM; have HG := hid hg; clear hM hg
    by_cases hlt : k < n
    · have hlt' : (k : Int) < n := by omega
      go_wp2
      have hk256 : k < 256 := by omega
      have hk256i : (k : Int) < 256 := by omega
      have hbs := blankFr.size_cells
      go_region_with (go_at_call 21; refine (blank_any _).mono ?_; rintro e w1 ⟨rfl, hg1⟩; obtain ⟨w2, hr2, hM2, hg2⟩ := store_fr_cells w1 w.heap.size k blankFr (upTo n k) (HM.out.drew.grown hg1 (by simp)) hk256; have HG1x := hid hg1; have HM2 := hid hM2; have HG2 := hid hg2; clear hg1 hM2 hg2)
      all_goals clear hbs
      all_goals go_wp2
      all_goals go_roundw
      case rel =>
        refine ⟨k + 1, by go_num, by omega, ?_, (HG.out.trans ((grownBy_drew wr none).trans HG1x.out)).andThen HG2.out (fun j hj => by cases hj; exact .inl (Nat.le_refl _))⟩
        rw [← upTo_step]; exact HM2.out
      case measure => simp [intOf]; omega
    · have hge : (n : Int) ≤ k := by omega
      go_wp2
      go_ret2
      obtain rfl : k = n := by omega
      exact ⟨_, rfl, _, rfl, Nat.le_refl _, HM.out, HG.out⟩

end Go.Proofs.Ytbbaplcfhofeeaa
