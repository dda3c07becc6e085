/-
  Contracts of package phys: Copy, Read, Write, New.
-/
import Derived.Test.YtnplkifohocekaaDoorPhysD
import Derived.Laws.CopyOwn
set_option linter.unusedSimpArgs false
set_option linter.unusedVariables false
namespace Go.Proofs.YtnplkifohocekaaDoor
open Go.RowKit
set_option maxHeartbeats 400000

theorem Fr.one_cell_at (M : Mach) (k : Nat) : (M.cell k).oneCell' = true := by
  cases k with
  | zero => rfl
  | succ k => exact Fr.one_cell _ _
theorem Mach.all_one (M : Mach) : ∀ v ∈ M.cells, v.oneCell' = true := by
  intro v hv
  obtain ⟨k, hk, rfl⟩ := Array.mem_iff_getElem.1 hv
  have h := Array.getElem?_eq_getElem hk
  rw [M.get_cells k (by rw [M.size_cells] at hk; exact hk)] at h
  rw [← Option.some.inj h]
  exact Fr.one_cell_at _ _

theorem wpList_load_mach {ops : Array Oper} {rest : List Oper} {o : Oper} {a : Act} {w : World} {Q : Exit → Act → World → Prop} (hgd : o.guard = none) (x : Operand) (ho : o.op = .load 128 x)
    (b : Nat) (M : Mach) (hx : a.eval x = .pointer (some ⟨b, 0, none⟩)) (hM : PM w b M) (h : wpList Tryd.prog ops Q rest (a.put o.dst (.agg M.cells)) w) : wpList Tryd.prog ops Q (o :: rest) a w :=
  wpList_load_row hgd 128 x ho b hx _ M.cells _ _ hM Tryd.underlying128 rfl (by rw [M.size_cells]; exact size58) h
theorem wpList_store_mach {ops : Array Oper} {rest : List Oper} {o : Oper} {a : Act} {w : World} {Q : Exit → Act → World → Prop} (hgd : o.guard = none) (x y : Operand) (ho : o.op = .store 128 x y)
    (b : Nat) (M M' : Mach) (hx : a.eval x = .pointer (some ⟨b, 0, none⟩)) (hy : a.eval y = .agg M'.cells) (hM : PM w b M)
    (h : ∀ w', PM w' b M' → w.grownBy w' (some b) → wpList Tryd.prog ops Q rest (a.put o.dst undef) w') : wpList Tryd.prog ops Q (o :: rest) a w :=
  wpList_store_row hgd 128 x y ho b M'.cells hx hy _ M.cells hM (by rw [M'.size_cells]; exact size58) (by rw [M.size_cells, M'.size_cells]) (Array.all_eq_true_iff_forall_mem.2 M'.all_one)
    (h _ (setRow_heap _ _ _ _ _ _ hM) (grownBy_setRow _ _ _))
theorem wpList_alloc_mach {ops : Array Oper} {rest : List Oper} {o : Oper} {a : Act} {w : World} {Q : Exit → Act → World → Prop} (hgd : o.guard = none) (ho : o.op = .alloc 128)
    (h : ∀ w', w'.heap.size = w.heap.size + 1 → PM w' w.heap.size (flatMach 0 zeroFr) → w.grownBy w' none → wpList Tryd.prog ops Q rest (a.put o.dst (.pointer (some ⟨w.heap.size, 0, none⟩))) w') : wpList Tryd.prog ops Q (o :: rest) a w :=
  wpList_exec hgd (w' := w.alloc (.cells (flatMach 0 zeroFr).cells 128)) (by unfold execOp; simp [ho, Instr.alloc, zcMach, zero58w, newVar, newRow, Value.cells, run_newObj_alloc]) (h _ (by simp) (heap_alloc_new w _) (World.grownBy_alloc w _ none))
/-- a pointer to a new machine -/
def NewMach (w : World) (M : Mach) (v : Value) (w' : World) : Prop := ∃ b, v = .pointer (some ⟨b, 0, none⟩) ∧ w.heap.size ≤ b ∧ PM w' b M ∧ w.grownBy w' none
/-- f.bytes[off:] -/
def sliceAddr (b o off : Nat) : Addr := if 256 = off then ⟨b, o, none⟩ else (⟨b, o, none⟩ : Addr).add (off * 1)
theorem sliceAddr_add {b o off k : Nat} (h : off + k < 256) : (sliceAddr b o off).add k = ⟨b, o + off + k, none⟩ := by
  unfold sliceAddr
  rw [if_neg (by omega)]
  have e : ∀ q n, (⟨b, q, none⟩ : Addr).add n = ⟨b, q + n, none⟩ := fun q n => by unfold Addr.add; split <;> simp_all
  rw [e, e, Nat.mul_one]
theorem run_sliceArr (w : World) (b o off : Nat) (h : off ≤ 256) : (Instr.sliceAt 113 (.pointer (some ⟨b, o, none⟩)) (some (.int .i64 off)) none none).run Tryd.prog w =
    .ok (.slice (some (sliceAddr b o off)) (256 - off) (256 - off)) w := by
  have i5 : (Tryd.prog.info? 5).map (·.size) = some 1 := by kernel_rfl
  cases h5 : Tryd.prog.info? 5 with
  | none => rw [h5] at i5; cases i5
  | some x =>
  rw [h5] at i5
  simp only [Option.map_some, Option.some.injEq] at i5
  have h' : (off : Int) ≤ 256 := by omega
  simp [Instr.sliceAt, run_underlying Tryd.underlying113, Instr.sureAddr, Instr.sliceBounds, Instr.sliceBound, asIntOf, sizeOf, typeInfo, h5, i5, h', sliceAddr]
  intro hh; omega
theorem wpList_slice_arr {ops : Array Oper} {rest : List Oper} {o : Oper} {a : Act} {w : World} {Q : Exit → Act → World → Prop} (hgd : o.guard = none) (x y : Operand) (ho : o.op = .slice 113 x (some y) none none)
    (b p off : Nat) (hx : a.eval x = .pointer (some ⟨b, p, none⟩)) (hy : a.eval y = .int .i64 off) (hoff : off ≤ 256)
    (h : wpList Tryd.prog ops Q rest (a.put o.dst (.slice (some (sliceAddr b p off)) (256 - off) (256 - off))) w) : wpList Tryd.prog ops Q (o :: rest) a w :=
  wpList_exec hgd (by unfold execOp; simp [ho, hx, hy, run_sliceArr w b p off hoff]) h

/-- bytes as cells -/
def bcells (l : List UInt8) : List Value := l.map fun x => .int .u8 x.toNat
theorem bcells_len (l : List UInt8) : (bcells l).length = l.length := by simp [bcells]
theorem bcells_get (l : List UInt8) (k : Nat) : (bcells l)[k]? = l[k]?.map fun x => .int .u8 x.toNat := by simp [bcells]
theorem bcells_one (l : List UInt8) : ∀ v ∈ bcells l, v.oneCell' = true := by
  intro v hv
  simp only [bcells, List.mem_map] at hv
  obtain ⟨x, _, rfl⟩ := hv
  rfl
attribute [irreducible] bcells sliceAddr
/-- a slice of bytes that reads as l, apart from block b -/
def IsBytes (w : World) (b : Nat) (v : Value) (l : List UInt8) : Prop :=
  ((∃ pa cap, v = .slice pa 0 cap) ∧ l = []) ∨ ∃ a cap, v = .slice (some a) l.length cap ∧ a.block ≠ b ∧ ∀ k x, l[k]? = some x → w.cell? (a.add k) = some (.int .u8 x.toNat)
theorem IsBytes.grown {w w' : World} {b : Nat} {v : Value} {l : List UInt8} (h : IsBytes w b v l) (hg : w.grownBy w' (some b)) : IsBytes w' b v l := by
  rcases h with h | ⟨a, cap, rfl, hb, hc⟩
  · exact .inl h
  · refine .inr ⟨a, cap, rfl, hb, fun k x hx => hg.cell (hc k x hx) ?_⟩
    unfold Addr.add; split <;> simpa using hb
/-- a slice of bytes in a block of its own -/
def NewBytes (w : World) (l : List UInt8) (v : Value) (w' : World) : Prop :=
  (v = .slice none 0 0 ∧ l = [] ∧ w.grownBy w' none) ∨
  ∃ b, v = .slice (some ⟨b, 0, none⟩) l.length l.length ∧ w.heap.size ≤ b ∧ w'.heap[b]? = some (.cells (bcells l).toArray 5 (0, 0)) ∧ w.grownBy w' none

theorem u8_size : (Tryd.prog.info? 5).map (·.size) = some 1 := by kernel_rfl
/-- copy into a row that is known whole, from bytes -/
theorem wpList_copy_in {ops : Array Oper} {rest : List Oper} {o : Oper} {a : Act} {w : World} {Q : Exit → Act → World → Prop} (hgd : o.guard = none) (d s : Operand)
    (ho : o.op = .call { callee := .builtin .copy, args := #[d, s], argTypes := #[22, 22] })
    (g n cap : Nat) (hd : a.eval d = .slice (some ⟨g, 0, none⟩) n cap) (ad : Addr) (sLen sCap : Nat) (hs : a.eval s = .slice (some ad) sLen sCap) (hn : n ≤ sLen)
    (l : List UInt8) (hl : l.length = n) (cur : Array Value) (hcur : cur.size = n) (hg : w.heap[g]? = some (.cells cur 5 (0, 0)))
    (hsrc : ∀ k x, l[k]? = some x → w.cell? (ad.add k) = some (.int .u8 x.toNat))
    (h : ∀ w', w'.heap[g]? = some (.cells (bcells l).toArray 5 (0, 0)) → w.grownBy w' (some g) → wpList Tryd.prog ops Q rest (a.put o.dst (goInt (bcells l).length)) w') : wpList Tryd.prog ops Q (o :: rest) a w := by
  have hbl := bcells_len l
  refine wpList_copy_own hgd d s 22 22 ho 5 Tryd.underlying22 u8_size g 0 n cap ad sLen sCap hd hs cur 5 hg (bcells l) (by rw [hbl, hl]; exact (Nat.min_eq_right hn).symm) ?_ (by omega) (bcells_one l) ?_
  · intro j v hv
    rw [bcells_get] at hv
    cases hx : l[j]? with
    | none => rw [hx] at hv; cases hv
    | some x => rw [hx] at hv; cases hv; exact hsrc j x hx
  · refine h _ ?_ (grownBy_setRow _ _ _)
    rw [setRow_heap _ _ _ _ _ _ hg]
    congr 2
    simp [hbl, hl, hcur]

theorem Read_no (b : Nat) (i off n : Int) (w : World) (M : Mach) (T : Int) (hM : PM w b M) (hok : M.ok T) (ho : off ≤ 9223372036854775807) (h : M.is i = false ∨ inP off n = false) :
    Calls Tryd.prog 20 #[.pointer (some ⟨b, 0, none⟩), .int .i64 i, .int .i64 off, .int .i64 n] w fun e w' => e = .returned (.tuple #[.slice none 0 0, .int .i64 1]) ∧ w = w' := by
  have hn1 := hok.n1; have hn2 := hok.n2; have hsz := hM.size
  by_cases hi : i < 0 ∨ M.n ≤ i
  · clear h
    go_enter Tryd.func20, Tryd.ntmps20
    go_wp2_with (go_at_call 44; refine (at_no _ _ _ _ hn1 hi hsz).mono ?_; rintro e w' ⟨rfl, rfl⟩)
    go_ret2
    exact ⟨rfl, rfl⟩
  obtain ⟨j, rfl⟩ := Int.eq_ofNat_of_zero_le (show 0 ≤ i by omega)
  have hj : (j : Int) < M.n := by omega
  have hp : off < 0 ∨ n < 0 ∨ 256 - off < n := by
    rw [Mach.is_yes (by omega) hj] at h
    have h := h.resolve_left (by simp)
    have := mt inP_iff.2 (by rw [h]; simp)
    omega
  clear h hi
  go_enter Tryd.func20, Tryd.ntmps20
  go_wp2_with (first | (go_at_call 44; refine (at_yes _ M.n j _ hn2 hj hsz).mono ?_; rintro e w' ⟨rfl, rfl⟩) | (go_at_call 45; refine (inPage_no _ _ _ ho hp).mono ?_; rintro e w' ⟨rfl, rfl⟩))
  go_ret2
  exact ⟨rfl, rfl⟩
theorem u8_make (w : World) (n : Nat) (hn : n ≤ 256) : (Instr.makeSlice 22 (.int .i64 n) (.int .i64 n)).run Tryd.prog w = .ok (.slice (some ⟨w.heap.size, 0, none⟩) n n) (w.alloc (.cells (madeCells #[.int .u8 0] n) 5)) := by
  have i5 : (Tryd.prog.info? 5).map (fun i => (i.zero, i.size, i.bytes)) = some (some (.int .u8 0), 1, 1) := by kernel_rfl
  obtain ⟨i0, hi, hz0, hz1, hz2⟩ := info_parts i5
  have hr := run_make w 22 5 i0 (.int .u8 0) Tryd.underlying22 hi hz0 .i64 .i64 n n (by omega) (by omega) (by rw [hz2]; omega) (by omega)
  rw [hr, hz1]
  simp [Value.cells]
theorem wpList_make_u8 {ops : Array Oper} {rest : List Oper} {o : Oper} {a : Act} {w : World} {Q : Exit → Act → World → Prop} (hgd : o.guard = none) (x y : Operand) (ho : o.op = .makeSlice 22 x y)
    (n : Nat) (hx : a.eval x = .int .i64 n) (hy : a.eval y = .int .i64 n) (hn : n ≤ 256)
    (h : ∀ w' cur, cur.size = n → w'.heap[w.heap.size]? = some (.cells cur 5 (0, 0)) → w.grownBy w' none → wpList Tryd.prog ops Q rest (a.put o.dst (.slice (some ⟨w.heap.size, 0, none⟩) n n)) w') : wpList Tryd.prog ops Q (o :: rest) a w :=
  wpList_exec hgd (v := .slice (some ⟨w.heap.size, 0, none⟩) n n) (w' := w.alloc (.cells (madeCells #[.int .u8 0] n) 5)) (by unfold execOp; simp [ho, hx, hy, u8_make w n hn]) (h _ _ (size_madeCells _ n) (heap_alloc_new w _) (World.grownBy_alloc w _ none))
theorem Fr.part_len (f : Fr) (off n : Nat) : (f.part off n).length = n := by simp [Fr.part]
theorem Fr.part_get (f : Fr) (off n k : Nat) : (f.part off n)[k]? = if k < n then some (f.bs (off + k)) else none := by
  unfold Fr.part
  by_cases h : k < n
  · simp [h]
  · rw [if_neg h, List.getElem?_eq_none (by simp; omega)]
theorem Read_yes (b : Nat) (j off n : Nat) (w : World) (M : Mach) (T : Int) (hM : PM w b M) (hok : M.ok T) (hj : (j : Int) < M.n) (h : off + n ≤ 256) :
    Calls Tryd.prog 20 #[.pointer (some ⟨b, 0, none⟩), .int .i64 j, .int .i64 off, .int .i64 n] w fun e w' => ∃ v, e = .returned (.tuple #[v, .int .i64 0]) ∧ NewBytes w ((M.fr j).part off n) v w' := by
  have hn1 := hok.n1; have hn2 := hok.n2; have hsz := hM.size
  have hj' : j < 256 := by omega
  have ha : (n : Int) ≤ 256 - off := by omega
  have HM := hid hM
  have HL := hid ((M.fr j).part_len off n)
  have Hlt := hid hM.lt
  clear hM
  go_enter Tryd.func20, Tryd.ntmps20
  go_wp2_with (first
    | (go_at_call 44; refine (at_yes _ M.n j _ hn2 hj hsz).mono ?_; rintro e w' ⟨rfl, rfl⟩)
    | (go_at_call 45; refine (inPage_yes _ _ _ (by omega) (by omega) ha).mono ?_; rintro e w' ⟨rfl, rfl⟩)
    | (refine wpList_make_u8 rfl (.tmp 26) (.tmp 26) rfl n rfl rfl (by omega) ?_; intro w1 cur hc1 hr1 hg1; have HC1 := hid hc1; have HR1 := hid hr1; have HG1 := hid hg1; clear hc1 hr1 hg1)
    | refine wpList_slice_arr rfl (.tmp 31) (.tmp 32) rfl b (1 + j * 260 + 4) off rfl rfl (by omega) ?_
    | (refine wpList_copy_in rfl (.tmp 28) (.tmp 33) rfl w.heap.size n n rfl _ _ _ rfl (by omega) ((M.fr j).part off n) HL.out cur HC1.out HR1.out (fun k x hx => by
        rw [Fr.part_get] at hx
        split at hx
        · cases hx
          rw [sliceAddr_add (by omega)]
          have := (HM.out.grown HG1.out (by simp)).byte hj' (k := off + k) (by omega)
          rwa [← Nat.add_assoc] at this
        · cases hx) ?_; intro w2 hr2 hg2; have HR2 := hid hr2; have HG2 := hid hg2; clear hr2 hg2))
  go_ret2
  refine ⟨_, rfl, .inr ⟨w.heap.size, by rw [HL.out]; rfl, Nat.le_refl _, HR2.out, HG1.out.andThen HG2.out ?_⟩⟩
  intro q hq; cases hq; exact .inl (Nat.le_refl _)

end Go.Proofs.YtnplkifohocekaaDoor
