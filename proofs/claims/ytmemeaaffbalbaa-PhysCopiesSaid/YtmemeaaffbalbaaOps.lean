/-
  A row of calls that came in, opened.
-/
import Derived.Test.YtmemeaaffbalbaaPlayE
import Derived.ProofKit
import Derived.Below
namespace Go.Proofs.Ytmemeaaffbalbaa
open Go.RowKit Go.ChangeShapes Go.WideShapes Go.ChangeAt Go.Deep
set_option maxHeartbeats 1000000

def opFields : Array (Nat × TypeId) := #[(0, 3), (1, 3), (2, 3), (3, 3), (4, 31)]
theorem op_desc : (Try.prog.underlying 33).map (fun d => match d with | .struct fs => fs.map (fun f => (f.offset, f.type)) | _ => #[]) = some opFields := by kernel_rfl
theorem op_cells : Try.prog.cellsOf 33 = 5 := by kernel_rfl
theorem op_struct : ∃ fs, Try.prog.underlying 33 = some (.struct fs) ∧ fs.map (fun f => (f.offset, f.type)) = opFields := by
  have h := op_desc
  cases hu : Try.prog.underlying 33 with
  | none => rw [hu] at h; cases h
  | some d =>
    rw [hu] at h
    simp only [Option.map_some, Option.some.injEq] at h
    cases d with
    | struct fs => exact ⟨fs, rfl, h⟩
    | _ => cases h

section
variable {H : Type} {enc : TypeId × Value → H} {w : World} {base : Nat} {spare : Nat → Bool} {held : Bool}
/-- the bytes of one call -/
theorem open_bytes {fuel : Nat} {v : Value} {y : DataW H × List MemPlace} (h : DataW.trod enc Try.prog w base spare held fuel 31 [v] = some y) :
    ∃ pa cap l, v = .slice pa (List.length (α := UInt8) l) cap ∧ InBytes w pa l ∧ (y.1 = .nil ∧ l = [] ∨ ∃ el sp, y.1 = .slice el sp ∧ el.length = l.length) := by
  rcases open_ints Try.underlying31 Try.underlying5 (by kernel_rfl) h with ⟨hcs, hy⟩ | ⟨x, len, c, zs, hcs, _, hl, hm, hz, hy, hcell, hwz⟩
  · simp only [List.cons.injEq, and_true] at hcs
    subst hcs
    exact ⟨none, 0, [], rfl, .inl rfl, .inl ⟨by rw [hy], rfl⟩⟩
  · simp only [List.cons.injEq, and_true] at hcs
    subst hcs
    have hlz : len ≤ zs.length := by rw [hz]; split <;> omega
    refine ⟨some x, c, asBytes zs len, by rw [asBytes_len _ _ hlz], asBytes_in hlz hcell hwz, .inr ⟨_, _, by rw [hy], ?_⟩⟩
    rw [asBytes_len _ _ hlz]
    simp [lits]; omega
/-- a call that lies at an address -/
def OpAt (w : World) (b off : Nat) (o : OpV) : Prop :=
  w.cell? ⟨b, off, none⟩ = some (.int .i64 o.x) ∧ w.cell? ⟨b, off + 1, none⟩ = some (.int .i64 o.a) ∧ w.cell? ⟨b, off + 2, none⟩ = some (.int .i64 o.c) ∧ w.cell? ⟨b, off + 3, none⟩ = some (.int .i64 o.d) ∧ w.cell? ⟨b, off + 4, none⟩ = some (.slice o.pa o.l.length o.cap)
set_option maxRecDepth 100000 in
theorem open_op {fuel : Nat} {a : Addr} {cs : List Value} {y : DataW H × List MemPlace} (hc : w.cells? base a 5 = some cs) (h : DataW.trod enc Try.prog w base spare held fuel 33 cs = some y) (hsz : ∀ n ∈ y.1.weights Try.prog 33, n ≤ reachBytes) :
    ∃ b off o, a = ⟨b, off, none⟩ ∧ OpAt w b off o ∧ o.ok ∧ InBytes w o.pa o.l := by
  obtain ⟨fs, hfs, hdesc⟩ := op_struct
  obtain ⟨xs, n, rfl, hy, hcl, hxl, hf⟩ := DataW.trod_struct hfs h
  rw [op_cells] at hcl
  have hfl : fs.size = 5 := by have := congrArg Array.size hdesc; simpa [opFields] using this
  obtain ⟨_, _, hat⟩ := World.cells?_some hc
  have fd : ∀ (j : Nat) (hj : j < 5), ∃ f, fs[j]? = some f ∧ opFields[j]? = some (f.offset, f.type) := fun j hj => by
    have hg : fs[j]? = some (fs[j]'(by omega)) := Array.getElem?_eq_getElem (by omega)
    refine ⟨_, hg, ?_⟩
    rw [← hdesc, Array.getElem?_map, hg]; rfl
  match cs, hcl with
  | [v0, v1, v2, v3, v4], _ =>
  obtain ⟨f0, g0, e0⟩ := fd 0 (by omega)
  obtain ⟨f1, g1, e1⟩ := fd 1 (by omega)
  obtain ⟨f2, g2, e2⟩ := fd 2 (by omega)
  obtain ⟨f3, g3, e3⟩ := fd 3 (by omega)
  obtain ⟨f4, g4, e4⟩ := fd 4 (by omega)
  simp [opFields] at e0 e1 e2 e3 e4
  have c3 : Try.prog.cellsOf 3 = 1 := by kernel_rfl
  have c31 : Try.prog.cellsOf 31 = 1 := by kernel_rfl
  have t0 := hf 0 f0 g0
  have t1 := hf 1 f1 g1
  have t2 := hf 2 f2 g2
  have t3 := hf 3 f3 g3
  have t4 := hf 4 f4 g4
  rw [← e0.1, ← e0.2, c3] at t0
  rw [← e1.1, ← e1.2, c3] at t1
  rw [← e2.1, ← e2.2, c3] at t2
  rw [← e3.1, ← e3.2, c3] at t3
  rw [← e4.1, ← e4.2, c31] at t4
  match xs, hxl.trans hfl with
  | [y0, y1, y2, y3, y4], _ =>
  simp only [List.drop_zero, List.drop_succ_cons, List.take_succ_cons, List.take_zero, List.getElem?_cons_zero, List.getElem?_cons_succ] at t0 t1 t2 t3 t4
  obtain ⟨n0, r0, _, w0⟩ := DataW.trod_int Try.underlying3 t0
  obtain ⟨n1, r1, _, w1⟩ := DataW.trod_int Try.underlying3 t1
  obtain ⟨n2, r2, _, w2⟩ := DataW.trod_int Try.underlying3 t2
  obtain ⟨n3, r3, _, w3⟩ := DataW.trod_int Try.underlying3 t3
  obtain ⟨pa, cap, l, r4, hin, hw⟩ := open_bytes t4
  simp only [List.cons.injEq, and_true] at r0 r1 r2 r3
  subst r0 r1 r2 r3 r4
  obtain ⟨b, off, spot⟩ := a
  have a0 := hat 0 (by omega)
  have a1 := hat 1 (by omega)
  have a2 := hat 2 (by omega)
  have a3 := hat 3 (by omega)
  have a4 := hat 4 (by omega)
  obtain rfl : spot = none := by
    have : w.cell? (⟨b, off, spot⟩ : Addr) = some (.int .i64 n0) := by simpa [Addr.add] using a0
    exact World.cell?_spot this
  have ea : ∀ j, (⟨b, off, none⟩ : Addr).add j = ⟨b, off + j, none⟩ := fun j => by unfold Addr.add; split <;> simp_all
  rw [ea] at a0 a1 a2 a3 a4
  refine ⟨b, off, ⟨n0, n1, n2, n3, pa, cap, l⟩, rfl, ⟨by simpa using a0, by simpa using a1, by simpa using a2, by simpa using a3, by simpa using a4⟩, ⟨(bounds_i64 w2).2, (bounds_i64 w3).2, ?_⟩, hin⟩
  show l.length ≤ 140737488351232
  rcases hw with ⟨_, rfl⟩ | ⟨el, sp, he, hl⟩
  · simp
  · have ht4 : (fs.toList.map (·.type))[4]? = some 31 := by
      rw [List.getElem?_map, Array.getElem?_toList, g4]; simp [← e4.2]
    have hd4 : ([y0, y1, y2, y3, y4].map (·.1))[4]? = some (DataW.slice el sp) := by simp [he]
    have hm := DataW.weights_mem_each (P := Try.prog) ht4 hd4 ((el.length + sp.length) * Try.prog.bytesOf 5) (by simp [DataW.weights, Try.underlying31])
    have hb : Try.prog.bytesOf 5 = 1 := by kernel_rfl
    have := hsz _ (by rw [hy]; simp only [DataW.weights, hfs]; exact hm)
    rw [hb] at this
    simp only [reachBytes] at this
    omega
/-- a row of calls -/
theorem weightsAll_mem {P : Program} {e : TypeId} : ∀ {l : List (DataW H)} {d : DataW H}, d ∈ l → ∀ n ∈ d.weights P e, n ∈ DataW.weightsAll P e l
  | x :: r, d, hd, n, hn => by
    simp only [DataW.weightsAll, List.mem_append]
    rcases List.mem_cons.1 hd with rfl | hd
    · exact .inl hn
    · exact .inr (weightsAll_mem hd n hn)
set_option maxRecDepth 100000 in
theorem open_ops2 {fuel : Nat} {v : Value} {x : DataW H × List MemPlace} (h : DataW.trod enc Try.prog w base spare held fuel 22 [v] = some x) (hsz : ∀ n ∈ x.1.weights Try.prog 22, n ≤ reachBytes) :
    ∃ p len cap, v = .slice p len cap ∧ len ≤ 140737488351232 ∧ ∀ i, i < len → ∃ b off o, p = some ⟨b, off, none⟩ ∧ b < w.heap.size ∧ OpAt w b (off + i * 5) o ∧ o.ok ∧ InBytes w o.pa o.l := by
  rcases open_slice Try.underlying22 h with ⟨hcs, _⟩ | ⟨a, len, cap, m, n, D, Pl, hcs, _, hl, hm, hmm, hx, hi⟩
  · simp only [List.cons.injEq, and_true] at hcs
    exact ⟨none, 0, 0, hcs, by omega, fun i hi => by omega⟩
  · simp only [List.cons.injEq, and_true] at hcs
    have hml : len ≤ m := by rw [hmm]; split <;> omega
    have hbytes : Try.prog.bytesOf 33 = 56 := by kernel_rfl
    refine ⟨some a, len, cap, hcs, ?_, fun i hil => ?_⟩
    · have := hsz ((((List.range len).map D).length + ((List.range (m - len)).map fun j => D (len + j)).length) * Try.prog.bytesOf 33) (by rw [hx]; simp [DataW.weights, Try.underlying22])
      rw [hbytes] at this
      simp only [List.length_map, List.length_range, reachBytes] at this
      omega
    · have one : ∀ i, i < len → ∃ b off o, a.add (i * 5) = ⟨b, off, none⟩ ∧ OpAt w b off o ∧ o.ok ∧ InBytes w o.pa o.l := fun i hil => by
        obtain ⟨cs', hc, ht⟩ := hi i (by omega)
        rw [op_cells] at hc
        exact open_op hc ht (fun n hn => hsz n (by
          rw [hx]
          simp only [DataW.weights, Try.underlying22, List.mem_cons, List.mem_append]
          exact .inr (.inl (weightsAll_mem (List.mem_map.2 ⟨i, List.mem_range.2 hil, rfl⟩) n hn))))
      obtain ⟨b1, off1, _, e1, _, _, _⟩ := one 0 (by omega)
      obtain rfl : a = ⟨b1, off1, none⟩ := by simpa [Addr.add] using e1
      obtain ⟨b, off', o, e, hop, hok, hin⟩ := one i hil
      have e2 : (⟨b1, off1, none⟩ : Addr).add (i * 5) = ⟨b1, off1 + i * 5, none⟩ := by unfold Addr.add; split <;> simp_all
      rw [e2] at e
      cases e
      exact ⟨b1, off1, o, rfl, World.block_lt_of_cell? w _ hop.1, hop, hok, hin⟩
theorem open_ops {fuel : Nat} {v : Value} {x : DataW H × List MemPlace} (h : DataW.trod enc Try.prog w base spare held fuel 22 [v] = some x) (hsz : ∀ n ∈ x.1.weights Try.prog 22, n ≤ reachBytes) :
    ∃ p len cap, v = .slice p len cap ∧ len ≤ 9223372036854775806 ∧ ∀ i, i < len → ∃ b off o, p = some ⟨b, off, none⟩ ∧ b < w.heap.size ∧ OpAt w b (off + i * 5) o ∧ o.ok ∧ InBytes w o.pa o.l := by
  obtain ⟨p, len, cap, e, hl, hs⟩ := open_ops2 h hsz
  exact ⟨p, len, cap, e, by omega, hs⟩
end
end Go.Proofs.Ytmemeaaffbalbaa
