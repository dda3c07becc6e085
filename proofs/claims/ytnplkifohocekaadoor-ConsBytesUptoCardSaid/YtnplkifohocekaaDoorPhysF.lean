/-
  Contracts of package phys: Write, New.
-/
import Derived.Test.YtnplkifohocekaaDoorPhysE
import Derived.Deep.RegionLaw
import Derived.Deep.RegionWith
set_option linter.unusedSimpArgs false
set_option linter.unusedVariables false
namespace Go.Proofs.YtnplkifohocekaaDoor
open Go.RowKit
set_option maxHeartbeats 400000

theorem sliceAddr_lit {b o off : Nat} (h : off < 256) : sliceAddr b o off = ⟨b, o + off, none⟩ := by
  have := sliceAddr_add (b := b) (o := o) (off := off) (k := 0) (by omega)
  simpa [Addr.add] using this
theorem Fr.laid_byte (f : Fr) (off : Nat) (l : List UInt8) (k : Nat) : (f.laid off l).cell (k + 4) = if off ≤ k ∧ k < off + l.length then .int .u8 (l.getD (k - off) 0).toNat else f.cell (k + 4) := by
  show Value.int .u8 (((f.laid off l).bs k).toNat : Int) = _
  unfold Fr.laid
  simp only
  split <;> rfl
theorem laid_pm {w : World} {b j off : Nat} {M : Mach} {l : List UInt8} (hM : PM w b M) (hj : j < 256) (hoff : off + l.length ≤ 256) :
    PM (w.setRow b (M.cells.toList.take (1 + j * 260 + 4 + off) ++ bcells l ++ M.cells.toList.drop (1 + j * 260 + 4 + off + (bcells l).length)).toArray) b (M.upd j ((M.fr j).laid off l)) := by
  have hbl := bcells_len l
  have hfit : 1 + j * 260 + 4 + off + (bcells l).length ≤ cellsN := by rw [hbl, cellsN_eq]; omega
  refine hM.setRow (vs := bcells l) (M' := M.upd j ((M.fr j).laid off l)) hfit ?_ ?_
  · intro k hk
    rw [hbl] at hk
    rw [bcells_get, show 1 + j * 260 + 4 + off + k = 1 + j * 260 + (off + k + 4) by omega, Mach.cell_at _ _ _ (by omega), Mach.upd_same, Fr.laid_byte, if_pos ⟨by omega, by omega⟩, show off + k - off = k by omega]
    rw [List.getElem?_eq_getElem hk]
    simp [List.getD, List.getElem?_eq_getElem hk]
  · intro k hk hk'
    rw [hbl] at hk'
    by_cases h1 : k < 1 + j * 260 ∨ 1 + j * 260 + 260 ≤ k
    · exact Mach.cell_other _ _ _ _ h1
    · obtain ⟨r, rfl⟩ : ∃ r, k = 1 + j * 260 + r := ⟨k - (1 + j * 260), by omega⟩
      have hr : r < 260 := by omega
      rw [Mach.cell_at _ _ _ hr, Mach.cell_at _ _ _ hr, Mach.upd_same]
      match r, hr with
      | 0, _ => rfl
      | 1, _ => rfl
      | 2, _ => rfl
      | 3, _ => rfl
      | q + 4, _ => rw [Fr.laid_byte, if_neg (by omega)]
theorem laid_nil (M : Mach) (j off : Nat) : M.upd j ((M.fr j).laid off []) = M := by
  have e : (M.fr j).laid off [] = M.fr j := by
    cases hf : M.fr j with | mk a1 a2 a3 a4 a5 =>
    simp only [Fr.laid, List.length_nil, Nat.add_zero, Fr.mk.injEq, true_and]
    funext k
    rw [if_neg (by omega)]
  rw [e]
  cases M with | mk n fr =>
  simp only [Mach.upd, Mach.mk.injEq, true_and]
  funext k
  split
  · rename_i h; subst h; rfl
  · rfl
theorem wpList_copy_frame {ops : Array Oper} {rest : List Oper} {o : Oper} {a : Act} {w : World} {Q : Exit → Act → World → Prop} (hgd : o.guard = none) (d s : Operand)
    (ho : o.op = .call { callee := .builtin .copy, args := #[d, s], argTypes := #[22, 22] })
    (b j off : Nat) (hd : a.eval d = .slice (some (sliceAddr b (1 + j * 260 + 4) off)) (256 - off) (256 - off)) (v : Value) (hs : a.eval s = v) (l : List UInt8) (hv : IsBytes w b v l) (hoff : off + l.length ≤ 256) (hj : j < 256) (M : Mach) (hM : PM w b M)
    (h : ∀ w' n, PM w' b (M.upd j ((M.fr j).laid off l)) → w.grownBy w' (some b) → wpList Tryd.prog ops Q rest (a.put o.dst (goInt n)) w') : wpList Tryd.prog ops Q (o :: rest) a w := by
  have nothing : ∀ (sp : Option Addr) (sLen sCap : Nat), v = .slice sp sLen sCap → l = [] → sLen = 0 → wpList Tryd.prog ops Q (o :: rest) a w := by
    intro sp sLen sCap hv' hl h0
    subst hl h0
    refine wpList_copy_nothing hgd d s 22 22 ho 5 Tryd.underlying22 u8_size _ sp _ _ 0 sCap hd (by rw [hs, hv']) (Nat.min_eq_left (Nat.zero_le _)) (h _ 0 ?_ (World.grownBy.refl _ _))
    rw [laid_nil]; exact hM
  rcases hv with ⟨⟨sp, sc, hv'⟩, hl⟩ | ⟨ad, cap, hv', hab, hc⟩
  · exact nothing sp 0 sc hv' hl rfl
  · by_cases h0 : l = []
    · exact nothing (some ad) l.length cap hv' h0 (by rw [h0]; rfl)
    · have hpos : 0 < l.length := List.length_pos_iff.2 h0
      have hbl := bcells_len l
      rw [sliceAddr_lit (by omega)] at hd
      refine wpList_plain hgd fun K hK => ?_
      have hrun := run_copy_row Tryd.prog w 22 22 o.type 5 b (1 + j * 260 + 4 + off) (256 - off) (256 - off) ad l.length cap M.cells 128 (bcells l) Tryd.underlying22 u8_size hM (by rw [hbl]; exact (Nat.min_eq_left (by omega)).symm) (by
        intro k u hu
        rw [bcells_get] at hu
        cases hx : l[k]? with
        | none => rw [hx] at hu; cases hu
        | some x => rw [hx] at hu; cases hu; exact hc k x hx) (by rw [hbl, M.size_cells, cellsN_eq]; omega) (bcells_one l)
      unfold Oper.wp
      simp only [execOp, ho, resolve, invoke, builtin, hd, hs, hv', Sem.run_bind, Sem.run_pure, Result.andThen_ok, List.map_toArray, List.map_cons, List.map_nil, hrun]
      exact hK _ _ (h _ (bcells l).length (laid_pm hM hj hoff) (grownBy_setRow _ _ _))

theorem Write_any (b : Nat) (i off : Int) (v : Value) (l : List UInt8) (w : World) (M : Mach) (T : Int) (hM : PM w b M) (hok : M.ok T) (ho : off ≤ 9223372036854775807) (hv : IsBytes w b v l) (hmax : l.length ≤ 9223372036854775807) :
    Calls Tryd.prog 22 #[.pointer (some ⟨b, 0, none⟩), .int .i64 i, .int .i64 off, v] w (Left b w (M.write i off l).1 (M.write i off l).2) := by
  have hn1 := hok.n1; have hn2 := hok.n2; have hsz := hM.size
  have Hv := hid hv
  obtain ⟨pa, cap, hvv⟩ : ∃ pa cap, v = .slice pa l.length cap := by
    rcases hv with ⟨⟨sp, sc, rfl⟩, rfl⟩ | ⟨a, cap, rfl, _⟩
    · exact ⟨sp, sc, rfl⟩
    · exact ⟨some a, cap, rfl⟩
  subst hvv
  clear hv
  by_cases hi : i < 0 ∨ M.n ≤ i
  · have H := hid (show M.write i off l = (1, M) by simp [Mach.write, Mach.is_no hi])
    go_enter Tryd.func22, Tryd.ntmps22
    go_wp2_with (go_at_call 44; refine (at_no _ _ _ _ hn1 hi hsz).mono ?_; rintro e w' ⟨rfl, rfl⟩)
    go_ret
    rw [H.out]
    exact ⟨rfl, hM, World.grownBy.refl _ _⟩
  obtain ⟨j, rfl⟩ := Int.eq_ofNat_of_zero_le (show 0 ≤ i by omega)
  have hj : (j : Int) < M.n := by omega
  have his : M.is j = true := Mach.is_yes (by omega) hj
  have hj' : j < 256 := by omega
  have hown := hM.owner hj'
  clear hi
  by_cases hp : off < 0 ∨ (l.length : Int) < 0 ∨ 256 - off < l.length
  · have H := hid (show M.write j off l = (1, M) by simp [Mach.write, his, inP_no hp])
    clear his
    go_enter Tryd.func22, Tryd.ntmps22
    go_wp2_with (first | (go_at_call 44; refine (at_yes _ M.n j _ hn2 hj hsz).mono ?_; rintro e w' ⟨rfl, rfl⟩) | (go_at_call 45; refine (inPage_no _ _ _ ho hp).mono ?_; rintro e w' ⟨rfl, rfl⟩))
    go_ret
    rw [H.out]
    exact ⟨rfl, hM, World.grownBy.refl _ _⟩
  obtain ⟨q, rfl⟩ := Int.eq_ofNat_of_zero_le (show 0 ≤ off by omega)
  have hq : (l.length : Int) ≤ 256 - q := by omega
  have hin := inP_yes (o := q) (n := l.length) (by omega) (by omega) hq
  clear hp
  by_cases hfree : (M.fr j).owner = -1
  · have H := hid (show M.write j q l = (11, M) by simp [Mach.write, his, hin, hfree])
    rw [hfree] at hown
    clear his hfree hin
    go_enter Tryd.func22, Tryd.ntmps22
    go_wp2_with (first | (go_at_call 44; refine (at_yes _ M.n j _ hn2 hj hsz).mono ?_; rintro e w' ⟨rfl, rfl⟩) | (go_at_call 45; refine (inPage_yes _ _ _ (by omega) (by omega) hq).mono ?_; rintro e w' ⟨rfl, rfl⟩))
    go_ret
    rw [H.out]
    exact ⟨rfl, hM, World.grownBy.refl _ _⟩
  · have hfb : ((M.fr j).owner == -1) = false := by simp [hfree]
    have H := hid (show M.write j q l = (0, M.upd j ((M.fr j).laid q l)) by simp [Mach.write, his, hin, hfree])
    have HM := hid hM
    clear his hfree hin hM
    go_enter Tryd.func22, Tryd.ntmps22
    go_wp2_with (first
      | (go_at_call 44; refine (at_yes _ M.n j _ hn2 hj hsz).mono ?_; rintro e w' ⟨rfl, rfl⟩)
      | (go_at_call 45; refine (inPage_yes _ _ _ (by omega) (by omega) hq).mono ?_; rintro e w' ⟨rfl, rfl⟩)
      | refine wpList_slice_arr rfl (.tmp 33) (.tmp 34) rfl b (1 + j * 260 + 4) q rfl rfl (by omega) ?_
      | (refine wpList_copy_frame rfl (.tmp 35) (.tmp 36) rfl b j q rfl _ rfl l Hv.out (by omega) hj' M HM.out ?_; intro w2 n2 hM2 hg2; have HM2 := hid hM2; have HG2 := hid hg2; clear hM2 hg2))
    go_ret
    rw [H.out]
    exact ⟨rfl, HM2.out, HG2.out⟩

/-- New -/
theorem New_no (n : Int) (w : World) (h : n < 1 ∨ 256 < n) : Calls Tryd.prog 25 #[.int .i64 n] w fun e w' => e = .returned (.tuple #[.pointer none, .int .i64 1]) ∧ w = w' := by
  by_cases h1 : n < 1
  · clear h
    go_enter Tryd.func25, Tryd.ntmps25
    go_wp2
    go_ret2
    exact ⟨rfl, rfl⟩
  · have h2 : 256 < n := by omega
    clear h
    go_enter Tryd.func25, Tryd.ntmps25
    go_wp2
    go_ret2
    exact ⟨rfl, rfl⟩
def upTo (n : Int) (k : Nat) : Mach := ⟨n, fun i => if i < k then blankFr else zeroFr⟩
theorem build_mach (n : Int) (w : World) : (Instr.build 128 #[(0, .int .i64 n)]).run Tryd.prog w = .ok (.agg (upTo n 0).cells) w := by
  have e : (flatMach 0 zeroFr).cells.setIfInBounds 0 (.int .i64 n) = (upTo n 0).cells := by
    refine Mach.cells_ext (by simp [Mach.size_cells]) fun k hk => ?_
    rw [Array.getElem?_setIfInBounds]
    cases k with
    | zero => rw [if_pos rfl, Mach.size_cells, if_pos (by rw [cellsN_eq]; omega)]; rfl
    | succ k => rw [if_neg (by omega), Mach.get_cells _ _ hk]; rfl
  have hz := (flatMach 0 zeroFr).size_cells
  have hpos : 1 ≤ (flatMach 0 zeroFr).cells.size := by rw [hz, cellsN_eq]; omega
  have hne : (flatMach 0 zeroFr).cells ≠ #[] := fun hh => by rw [hh] at hpos; simp at hpos
  have i3 : (Tryd.prog.info? 3).map (·.size) = some 1 := by kernel_rfl
  have i56 : (Tryd.prog.info? 126).map (·.size) = some 66560 := by kernel_rfl
  cases h3 : Tryd.prog.info? 3 with
  | none => rw [h3] at i3; cases i3
  | some x =>
  cases h56 : Tryd.prog.info? 126 with
  | none => rw [h56] at i56; cases i56
  | some y =>
  rw [h3] at i3; rw [h56] at i56
  simp only [Option.map_some, Option.some.injEq] at i3 i56
  simp [Instr.build, zcMach, zero58w, run_underlying Tryd.underlying128, sizeOf, typeInfo, h3, h56, i3, i56, Instr.fill, Value.cells, hne, ← e]

theorem wpList_build_mach {ops : Array Oper} {rest : List Oper} {o : Oper} {a : Act} {w : World} {Q : Exit → Act → World → Prop} (hgd : o.guard = none) (x : Operand) (ho : o.op = .build 128 #[(0, x)])
    (n : Int) (hx : a.eval x = .int .i64 n) (h : wpList Tryd.prog ops Q rest (a.put o.dst (.agg (upTo n 0).cells)) w) : wpList Tryd.prog ops Q (o :: rest) a w :=
  wpList_exec hgd (by unfold execOp; simp [ho, hx, build_mach]) h
theorem wpList_box_mach {ops : Array Oper} {rest : List Oper} {o : Oper} {a : Act} {w : World} {Q : Exit → Act → World → Prop} (hgd : o.guard = none) (x : Operand) (ho : o.op = .box 128 x)
    (M : Mach) (hx : a.eval x = .agg M.cells) (h : ∀ w', w'.heap.size = w.heap.size + 1 → PM w' w.heap.size M → w.grownBy w' none → wpList Tryd.prog ops Q rest (a.put o.dst (.pointer (some ⟨w.heap.size, 0, none⟩))) w') : wpList Tryd.prog ops Q (o :: rest) a w :=
  wpList_exec hgd (v := .pointer (some ⟨w.heap.size, 0, none⟩)) (w' := w.alloc (.cells M.cells 128)) (by unfold execOp; simp [ho, hx, Instr.box, newVar, newRow, Value.cells, run_newObj_alloc]) (h _ (by simp) (heap_alloc_new w _) (World.grownBy_alloc w _ none))
theorem upTo_step (n : Int) (k : Nat) : (upTo n k).upd k blankFr = upTo n (k + 1) := by
  simp only [upTo, Mach.upd, Mach.mk.injEq, true_and]
  funext i
  by_cases h : i = k
  · subst h; simp
  · by_cases h2 : i < k
    · rw [if_neg h, if_pos h2, if_pos (by omega)]
    · rw [if_neg h, if_neg h2, if_neg (by omega)]
theorem store_fr_cells (w : World) (b i : Nat) (f : Fr) (M : Mach) (hM : PM w b M) (hi : i < 256) :
    ∃ w', (storeCells ⟨b, 1 + i * 260, none⟩ f.cells.toList).run Tryd.prog w = .ok () w' ∧ PM w' b (M.upd i f) ∧ w.grownBy w' (some b) := by
  have hl : f.cells.toList.length = 260 := by rw [Array.length_toList, f.size_cells]
  have hfit : 1 + i * 260 + f.cells.toList.length ≤ cellsN := by rw [hl, cellsN_eq]; omega
  have hst := run_storeCells_at Tryd.prog b (1 + i * 260) _ f.cells.toList 0 M.cells w hM (by rw [M.size_cells]; exact hfit) f.all_one
  simp only [Nat.add_zero] at hst
  refine ⟨_, hst, hM.setRow (vs := f.cells.toList) (M' := M.upd i f) hfit ?_ ?_, grownBy_setRow _ _ _⟩
  · intro j hj
    rw [hl] at hj
    rw [Array.getElem?_toList, f.get_cells j hj, Mach.cell_at _ _ _ hj, Mach.upd_same]
  · intro j _ hj
    rw [hl] at hj
    exact Mach.cell_other _ _ _ _ (by omega)
theorem New_yes (n : Nat) (w : World) (h1 : 1 ≤ n) (h2 : n ≤ 256) : Calls Tryd.prog 25 #[.int .i64 n] w fun e w' => ∃ v, e = .returned (.tuple #[v, .int .i64 0]) ∧ NewMach w (upTo n n) v w' := by
  have g1 : (1 : Int) ≤ n := by omega
  have g2 : (n : Int) ≤ 256 := by omega
  go_enter Tryd.func25, Tryd.ntmps25
  go_wp2_with (first
    | refine wpList_build_mach rfl (.tmp 12) rfl n rfl ?_
    | (refine wpList_box_mach rfl (.tmp 13) rfl (upTo n 0) rfl ?_; intro w1 hs1 hM1 hg1; have HS1 := hid hs1; have HM1 := hid hM1; have HG1 := hid hg1; clear hs1 hM1 hg1))
  go_loopw [16] (fun i wr => ∃ k : Nat, i = .int .i64 k ∧ k ≤ n ∧ PM wr w.heap.size (upTo n k) ∧ w.grownBy wr none) (fun i _ => n - (intOf i).toNat)
  case atStart => exact ⟨0, rfl, by omega, HM1.out, HG1.out⟩
  case round =>
    obtain ⟨k, rfl, hk, hM, hg⟩ := hrel
    have HM := hid hM; have HG := hid hg; clear hM hg
    by_cases hlt : k < n
    · have hlt' : (k : Int) < n := by omega
      go_wp2
      have hk256 : k < 256 := by omega
      have hk256i : (k : Int) < 256 := by omega
      have hbs := blankFr.size_cells
      go_region_with (go_at_call 51; refine (blank_any _).mono ?_; rintro e w1 ⟨rfl, hg1⟩; obtain ⟨w2, hr2, hM2, hg2⟩ := store_fr_cells w1 w.heap.size k blankFr (upTo n k) (HM.out.drew.grown hg1 (by simp)) hk256; have HG1x := hid hg1; have HM2 := hid hM2; have HG2 := hid hg2; clear hg1 hM2 hg2)
      all_goals clear hbs
      all_goals go_wp2
      all_goals go_roundw
      case rel =>
        refine ⟨k + 1, by go_num, by omega, ?_, (HG.out.trans ((grownBy_drew wr none).trans HG1x.out)).andThen HG2.out (fun j hj => by cases hj; exact .inl (Nat.le_refl _))⟩
        rw [← upTo_step]; exact HM2.out
      case measure => simp [intOf]; omega
    · have hge : (n : Int) ≤ k := by omega
      go_wp2
      go_ret2
      obtain rfl : k = n := by omega
      exact ⟨_, rfl, _, rfl, Nat.le_refl _, HM.out, HG.out⟩

end Go.Proofs.YtnplkifohocekaaDoor
