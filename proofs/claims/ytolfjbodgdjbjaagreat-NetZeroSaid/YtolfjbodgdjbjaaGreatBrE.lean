/-
  Package bridge: Clone of bytes, Head, Counts.
-/
import Derived.Test.YtolfjbodgdjbjaaGreatBrD
import Derived.Laws.Tables
import Derived.Deep.WholeRow
set_option linter.unusedSimpArgs false
set_option linter.unusedVariables false
namespace Go.Proofs.YtolfjbodgdjbjaaGreat.Br
open Go.RowKit Gen Bk
set_option maxHeartbeats 1000000

/-- all blocks that are new have label 0 -/
def lab0 (lab : Nat → Nat) (w : World) : Nat → Nat := fun k => if k < w.heap.size then lab k else 0
theorem lab0_st {C : Nat → Prop} (lab : Nat → Nat) {w w' : World} (hg : w.grownBy w' none) : St C lab w (lab0 lab w) w' := ⟨fun k hk => if_pos hk, Chg.of0 hg⟩
theorem newB_bu {w w' : World} {l : List UInt8} {v : Value} (lab : Nat → Nat) (h : NewB w l v w') : ∃ p c, v = .slice p l.length c ∧ BU (lab0 lab w) w' p l ∧ l.length ≤ c ∧ (p = none → c = 0) := by
  obtain ⟨p, c, rfl, hb, hc, hn⟩ := h.ba
  refine ⟨p, c, rfl, ⟨hb, fun a e => ?_⟩, hc, hn⟩
  subst e
  rcases h.1.2 with ⟨e, _⟩ | ⟨g, cap, cur, e, hlo, hg, _⟩
  · cases e
  · simp only [Value.slice.injEq, Option.some.injEq] at e
    rw [e.1]
    exact ⟨if_neg (Nat.not_lt.2 hlo), (Array.getElem?_eq_some_iff.1 hg).1⟩
set_option maxRecDepth 100000 in
theorem bClone (pa : Option Addr) (cap : Nat) (l : List UInt8) (w : World) (h : BA w pa l) (hl : l.length ≤ 140737488351232) :
    Calls Tryz.prog 30 #[.slice pa l.length cap] w fun e w' => ∃ v, e = .returned v ∧ NewB w l v w' := by
  have hq := fun w => Lib.run_eql_slice_nil (P := Tryz.prog) w 59 _ pa l.length cap 0 0 Tryz.underlying59
  cases pa with
  | none =>
    have hz : l = [] := h.of_none
    subst hz
    clear h
    have hq0 := fun w => Lib.run_eql_slice_nil (P := Tryz.prog) w 59 _ none 0 cap 0 0 Tryz.underlying59
    simp only [List.length_nil]
    clear hq
    go_enter Tryz.func30, Tryz.ntmps30
    go_wp2
    go_ret
    exact ⟨_, rfl, own_nil _ _, World.grownBy.refl _ _⟩
  | some a =>
    obtain ⟨i0, hi, hz0, hz1, hz2⟩ := info_parts info_u8
    have Hi := hid hi; have Hz0 := hid hz0; have Hz1 := hid hz1; have Hz2 := hid hz2
    clear hi hz0 hz1 hz2
    have HG0 := hid (World.grownBy_alloc w (.cells #[] 5) none)
    have HOn := hid (World.ownsRow_made (base := w.heap.size) (e := 5) (size := 1) w #[] 0 (Nat.le_refl _) (by unfold maxLen; omega) (by simp))
    have HNw := hid (show ∀ j u, (bcells l)[j]? = some u → (w.alloc (.cells #[] 5)).cell? (a.add j) = some u from news_ba (h.grown HG0.out))
    have HL := hid (bcells_len l)
    clear h
    go_enter Tryz.func30, Tryz.ntmps30
    go_wp2_with (at_builtin; refine wpList_append_own _ rfl _ _ 59 rfl w.heap.size 5 i0 (.int .u8 0) 1 1 Tryz.underlying59 Hi.out Hz0.out Hz1.out Hz2.out rfl (by decide) _ 0 [] rfl HOn.out a l.length cap (bcells l) rfl (by rw [HL.out, Nat.mul_one]) HNw.out (bcells_one l) (by unfold maxLen; omega) (by omega) (by simp) ?_; intro v' w1 hown' hgrow hnil; clear hnil; simp only [Nat.zero_add, List.nil_append] at hown'; have HO1 := hid hown'; have HG1 := hid (HG0.out.andThen hgrow (fun j hj => .inl (HOn.out.lt j hj).1)); clear hown' hgrow)
    go_ret
    exact ⟨_, rfl, HO1.out, HG1.out⟩
section
variable {C : Nat → Prop} {lab lab' : Nat → Nat} {w w' : World} {b g m : Nat} {lq : Nat → Lq} {S : Sw} {k : Nat} {s : Sd} {T : Nat}
theorem bHead_none (p : Option Addr) (x : Int) (w : World) (h : NoS w p) : Calls Tryz.prog 46 #[.pointer p, .int .i64 x] w fun e w' => e = .returned (.tuple #[.slice none 0 0, .int .i64 7]) ∧ w = w' := by
  have H := hid (bside_none _ x _ h)
  clear h
  go_enter Tryz.func46, Tryz.ntmps46
  go_wp2_with (go_at_call 66; refine H.out.mono ?_; rintro e w' ⟨rfl, rfl⟩)
  go_ret2
  exact ⟨rfl, rfl⟩
theorem bHead (h : PS lab w b g m lq S) (ok : S.ok T) (x : Int) : Calls Tryz.prog 46 #[.pointer (some ⟨b, 0, none⟩), .int .i64 x] w fun e w' => ∃ p c, e = .returned (.tuple #[.slice p (S.headE x).1.length c, .int .i64 ((S.headE x).2 : Nat)]) ∧ BA w' p (S.headE x).1 ∧ w.grownBy w' none := by
  unfold Sw.headE
  cases hp : S.is x with
  | false =>
    have H := hid (bside_no h ok.n1 x hp)
    clear h ok hp
    simp only [Bool.false_eq_true, if_false, List.length_nil]
    go_enter Tryz.func46, Tryz.ntmps46
    go_wp2_with (go_at_call 66; refine H.out.mono ?_; rintro e w' ⟨rfl, rfl⟩)
    go_ret2
    exact ⟨none, 0, rfl, BA.nil _ _, grownBy_refl _ _⟩
  | true =>
    obtain ⟨k, rfl, hk⟩ := Sw.is_yes hp
    have H := hid (bside_yes h k hk ok.n8)
    simp only [if_true, Int.toNat_natCast]
    have c3 := (h.self k).at_q hk
    have fr := (ok.sd k hk).fr
    obtain ⟨xs, hx, hf⟩ := (h.self k).qat hk
    cases hq : (S.P k).q with
    | nil =>
      rw [hq] at c3
      simp only [List.length_nil] at c3 ⊢
      have HF := hid (bfirst_no (k * 13 + 3) _ _ w c3)
      clear h ok hp hx hf fr c3
      go_enter Tryz.func46, Tryz.ntmps46
      go_wp2_with (first
        | (go_at_call 66; refine H.out.mono ?_; rintro e w' ⟨rfl, rfl⟩)
        | (go_at_call 71; refine HF.out.mono ?_; rintro e w' ⟨rfl, rfl⟩))
      go_ret2
      exact ⟨none, 0, rfl, BA.nil _ _, grownBy_refl _ _⟩
    | cons f fs =>
      rw [hq] at hf c3 fr
      cases xs with
      | nil => exact absurd hf (by simp [Frs])
      | cons v xs =>
        obtain ⟨a, o, ep, hc⟩ := hx.head
        obtain ⟨⟨fp, fc, rfl, hb⟩, _⟩ := hf
        rw [ep] at c3
        have hfl := (fr f (by simp)).2
        have HF := hid (bfirst_yes (g := g) (k * 13 + 3) fs.length a o (lq k).c fp f.length fc w (by simpa using c3) hc)
        have HC := hid (bClone fp fc f w hb.1 (by omega))
        clear h ok hp hx hb fr c3 hc ep hq hfl
        simp only
        go_enter Tryz.func46, Tryz.ntmps46
        go_wp2_with (first
          | (go_at_call 66; refine H.out.mono ?_; rintro e w' ⟨rfl, rfl⟩)
          | (go_at_call 71; refine HF.out.mono ?_; rintro e w' ⟨rfl, rfl⟩)
          | (go_at_call 30; refine HC.out.mono ?_; rintro e w1 ⟨v1, rfl, hv⟩; have HV := hid hv; clear hv))
        go_ret2
        obtain ⟨p, c, rfl, hb, _⟩ := HV.out.ba
        exact ⟨p, c, rfl, hb, HV.out.2⟩
/-! ### Counts -/
/-- the numbers as cells -/
def ctC (a b c d e f q h i : Nat) : Array Value := #[.int .i64 a, .int .i64 b, .int .i64 c, .int .i64 d, .int .i64 e, .int .i64 f, .int .i64 q, .int .i64 h, .int .i64 i]
def Sd.cts (s : Sd) : Array Value := ctC s.taken s.fw s.mal s.noCr s.dir s.del s.q.length s.noBuf s.full
def Sw.countsE (S : Sw) (x : Int) : Array Value × Nat := if S.is x = true then ((S.P x.toNat).cts, 0) else (ctC 0 0 0 0 0 0 0 0 0, 1)
theorem ct_size : (Tryz.prog.info? 144).map (·.size) = some 9 := by kernel_rfl
theorem zero_ct (w : World) : (zeroValue 144).run Tryz.prog w = .ok (.agg (ctC 0 0 0 0 0 0 0 0 0)) w := by rw [Tryz.zeroValue144]; rfl
def CtAt (w : World) (g : Nat) (cs : Array Value) : Prop := w.heap[g]? = some (.cells cs 144 (0, 0)) ∧ cs.size = 9
theorem wpList_exec {P : Program} {ops : Array Oper} {rest : List Oper} {o : Oper} {a : Act} {w w' : World} {Q : Exit → Act → World → Prop} {v : Value} (hgd : o.guard = none)
    (hrun : (execOp a.eval o).run P w = .ok (.value v) w') (h : wpList P ops Q rest (a.put o.dst v) w') : wpList P ops Q (o :: rest) a w :=
  wpList_plain hgd fun K hK => by
    unfold Oper.wp
    rw [hrun]
    exact hK _ _ h
theorem CtAt.grown {w w' : World} {g : Nat} {l : Array Value} {row : Option Nat} (h : CtAt w g l) (hg : w.grownBy w' row) (hr : some g ≠ row) : CtAt w' g l :=
  ⟨(hg.block g (Array.getElem?_eq_some_iff.1 h.1).1 hr).trans h.1, h.2⟩
theorem grownBy_setRow (w : World) (b : Nat) (cs : Array Value) : w.grownBy (w.setRow b cs) (some b) :=
  ⟨rfl, rfl, rfl, by simp, fun k _ hk => setRow_other w b k cs (fun e => hk (by rw [e]))⟩
theorem ctC_one (a b c d e f q h i : Nat) : (ctC a b c d e f q h i).all (·.oneCell') = true := by simp [ctC, Value.oneCell']
theorem wpList_alloc_ct {ops : Array Oper} {rest : List Oper} {o : Oper} {a : Act} {w : World} {Q : Exit → Act → World → Prop} (hgd : o.guard = none) (ho : o.op = .alloc 144)
    (h : ∀ w', w'.heap.size = w.heap.size + 1 → CtAt w' w.heap.size (ctC 0 0 0 0 0 0 0 0 0) → w.grownBy w' none → wpList Tryz.prog ops Q rest (a.put o.dst (.pointer (some ⟨w.heap.size, 0, none⟩))) w') : wpList Tryz.prog ops Q (o :: rest) a w :=
  wpList_exec hgd (w' := w.alloc (.cells (ctC 0 0 0 0 0 0 0 0 0) 144)) (by have hz := zero_ct; clear h; unfold execOp; simp [ho, Instr.alloc, hz, newVar, newRow, Value.cells, run_newObj_alloc, -Tryz.zeroValue144]) (h _ (by simp) ⟨heap_alloc_new w _, rfl⟩ (World.grownBy_alloc w _ none))
theorem wpList_store_ct {ops : Array Oper} {rest : List Oper} {o : Oper} {a : Act} {w : World} {Q : Exit → Act → World → Prop} (hgd : o.guard = none) (x y : Operand) (ho : o.op = .store 144 x y)
    (g : Nat) (cs : Array Value) (hcs : cs.size = 9) (h1 : cs.all (·.oneCell') = true) (hx : a.eval x = .pointer (some ⟨g, 0, none⟩)) (hy : a.eval y = .agg cs) (old : Array Value) (hg : CtAt w g old)
    (h : ∀ w', w'.heap.size = w.heap.size → CtAt w' g cs → w.grownBy w' (some g) → wpList Tryz.prog ops Q rest (a.put o.dst undef) w') : wpList Tryz.prog ops Q (o :: rest) a w :=
  wpList_store_row hgd 144 x y ho g cs hx hy _ old hg.1 (by rw [hcs]; exact ct_size) (by rw [hcs, hg.2]) h1
    (h _ (by simp) ⟨setRow_heap _ _ _ _ _ _ hg.1, hcs⟩ (grownBy_setRow _ _ _))
theorem wpList_load_ct {ops : Array Oper} {rest : List Oper} {o : Oper} {a : Act} {w : World} {Q : Exit → Act → World → Prop} (hgd : o.guard = none) (x : Operand) (ho : o.op = .load 144 x)
    (g : Nat) (cs : Array Value) (hx : a.eval x = .pointer (some ⟨g, 0, none⟩)) (hg : CtAt w g cs) (h : wpList Tryz.prog ops Q rest (a.put o.dst (.agg cs)) w) : wpList Tryz.prog ops Q (o :: rest) a w :=
  wpList_load_row hgd 144 x ho g hx _ cs _ _ hg.1 Tryz.underlying144 rfl (by rw [hg.2]; exact ct_size) h
theorem CtAt.cell {w : World} {g : Nat} {cs : Array Value} (h : CtAt w g cs) (k : Nat) : w.cell? ⟨g, k, none⟩ = cs[k]? := cell_of_row w g k _ _ _ h.1
theorem CtAt.fz {w : World} {g : Nat} {cs : Array Value} (h : CtAt w g cs) (k : Nat) : w.frozen? ⟨g, k, none⟩ = false := frozen_of_row w g k _ _ h.1
theorem CtAt.set {w : World} {g : Nat} {cs : Array Value} (h : CtAt w g cs) (k : Nat) (v : Value) : CtAt (w.setCell ⟨g, k, none⟩ v) g (cs.setIfInBounds k v) := ⟨heap_setCell_same w g k cs _ v h.1, by simp [h.2]⟩
end
end Go.Proofs.YtolfjbodgdjbjaaGreat.Br
