/-
  Package bridge, for the laws: calls that came in.
-/
import Derived.Test.YtakofhhfdgankaaBrPm
import Derived.Test.YtakofhhfdgankaaOpen
import Derived.Test.YtakofhhfdgankaaLift
import Derived.OpenShut
set_option linter.unusedSimpArgs false
set_option linter.unusedVariables false
namespace Go.Proofs.Ytakofhhfdgankaa.Br
open Go.RowKit Gen Bk Go.ChangeShapes Go.WideShapes Go.ChangeAt Go.Deep
set_option maxHeartbeats 1000000

section
variable {H : Type} {enc : TypeId × Value → H} {w w' : World}
/-- calls that stand from pa on -/
def OpsIn (w : World) (pa : Option Addr) (ops : List OpV) : Prop := ∀ i (hi : i < ops.length), ∃ b off, pa = some ⟨b, off, none⟩ ∧ w.cell? ⟨b, off + i * 6, none⟩ = some (.int .i64 ops[i].what) ∧ w.cell? ⟨b, off + i * 6 + 1, none⟩ = some (.int .i64 ops[i].a) ∧
  w.cell? ⟨b, off + i * 6 + 2, none⟩ = some (.int .i64 ops[i].b) ∧ w.cell? ⟨b, off + i * 6 + 3, none⟩ = some (.int .i64 ops[i].c) ∧ w.cell? ⟨b, off + i * 6 + 4, none⟩ = some (.bool ops[i].on) ∧ w.cell? ⟨b, off + i * 6 + 5, none⟩ = some (.slice ops[i].p ops[i].l.length ops[i].cp) ∧ ops[i].fits w
theorem flat_op : Flat.isFlat Try.prog 33 [3, 3, 3, 3, 4, 31] = true := by kernel_rfl
theorem op_bytes : Try.prog.bytesOf 33 = 64 := by kernel_rfl
theorem open_ops {v : Value} (h : Flat.Came enc Try.prog w 0 (fun _ => true) true 22 v) : ∃ pa ops cap, v = .slice pa (List.length (α := OpV) ops) cap ∧ OpsIn w pa ops ∧ ops.length ≤ 140737488351232 := by
  obtain ⟨p, len, cap, rfl, hb, hl, hc⟩ := Flat.open_flats Try.underlying22 flat_op (by decide) h
  obtain ⟨ops, hol, hp⟩ := exists_list (fun i (o : OpV) => ∃ b off, p = some ⟨b, off, none⟩ ∧ w.cell? ⟨b, off + i * 6, none⟩ = some (.int .i64 o.what) ∧ w.cell? ⟨b, off + i * 6 + 1, none⟩ = some (.int .i64 o.a) ∧
    w.cell? ⟨b, off + i * 6 + 2, none⟩ = some (.int .i64 o.b) ∧ w.cell? ⟨b, off + i * 6 + 3, none⟩ = some (.int .i64 o.c) ∧ w.cell? ⟨b, off + i * 6 + 4, none⟩ = some (.bool o.on) ∧ w.cell? ⟨b, off + i * 6 + 5, none⟩ = some (.slice o.p o.l.length o.cp) ∧ o.fits w) len fun i hi => by
    obtain ⟨b, off, e, _, hf⟩ := hc i hi
    obtain ⟨v0, h0, c0⟩ := hf 0 _ rfl
    obtain ⟨v1, h1, c1⟩ := hf 1 _ rfl
    obtain ⟨v2, h2, c2⟩ := hf 2 _ rfl
    obtain ⟨v3, h3, c3⟩ := hf 3 _ rfl
    obtain ⟨v4, h4, c4⟩ := hf 4 _ rfl
    obtain ⟨v5, h5, c5⟩ := hf 5 _ rfl
    obtain ⟨n0, rfl, w0⟩ := c0.int Try.underlying3
    obtain ⟨n1, rfl, w1⟩ := c1.int Try.underlying3
    obtain ⟨n2, rfl, w2⟩ := c2.int Try.underlying3
    obtain ⟨n3, rfl, w3⟩ := c3.int Try.underlying3
    obtain ⟨n4, rfl⟩ := c4.bool Try.underlying4
    obtain ⟨q, l, c, rfl, hba, hl, hn, hcap⟩ := came_bytes c5
    exact ⟨⟨n0, n1, n2, n3, n4, q, l, c⟩, b, off, e, h0, h1, h2, h3, h4, h5, hba, hl, hn⟩
  subst hol
  exact ⟨p, ops, cap, rfl, hp, by rw [op_bytes] at hb; unfold reachBytes at hb; omega⟩
theorem OpV.fits.grown {o : OpV} (h : o.fits w) (hg : w.grownBy w' none) : o.fits w' := ⟨h.ba.grown hg, h.len, h.nil⟩
theorem OpsIn.grown {pa : Option Addr} {ops : List OpV} (h : OpsIn w pa ops) (hg : w.grownBy w' none) : OpsIn w' pa ops := fun i hi => by
  obtain ⟨b, off, e, h0, h1, h2, h3, h4, h5, hf⟩ := h i hi
  exact ⟨b, off, e, hg.cell h0 (by simp), hg.cell h1 (by simp), hg.cell h2 (by simp), hg.cell h3 (by simp), hg.cell h4 (by simp), hg.cell h5 (by simp), hf.grown hg⟩
end
end Go.Proofs.Ytakofhhfdgankaa.Br
