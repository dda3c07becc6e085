/-
  What the program's own check says of a type's zero value: it is made of its parts' zero values. Nothing is computed here.
-/
import Derived.Test.YtnplkifohocekaaDoorChecked
set_option linter.unusedSimpArgs false
set_option linter.unusedVariables false
namespace Go.Proofs.YtnplkifohocekaaDoor

theorem bind_ok {ε α β : Type} {x : Except ε α} {f : α → Except ε β} {b : β} (h : (x >>= f) = .ok b) : ∃ a, x = .ok a ∧ f a = .ok b := by
  cases x with
  | error e => cases h
  | ok a => exact ⟨a, rfl, h⟩
theorem req_ok {b : Bool} {m : String} {u : Unit} (h : Check.require b m = .ok u) : b = true := by
  unfold Check.require at h
  split at h
  · assumption
  · cases h
theorem same_eq {a b : Value} (h : Check.sameZero a b = true) : a = b := by
  unfold Check.sameZero at h
  split at h <;> first | rfl | (simp at h; simp [h]; done) | (cases h; done) | skip
  rename_i s s'
  simp only [Bool.and_eq_true] at h
  have e : ∀ x : ByteArray, x.isEmpty = true → x = ByteArray.empty := fun x hx => by
    cases x with | mk d =>
    simp only [ByteArray.isEmpty, ByteArray.size, beq_iff_eq] at hx
    have : d = #[] := Array.eq_empty_of_size_eq_zero hx
    rw [this]; rfl
  rw [e s h.1, e s' h.2]
def partZero (p : Tables) (u : TypeId) : List Value := (Option.map (fun x => x.cells.toList) (p.types[u]?.getD default).zero).getD []
theorem list_eq_of_same : ∀ (a b : List Value), a.length = b.length → ((a.zip b).all fun x => Check.sameZero x.1 x.2) = true → a = b
  | [], [], _, _ => rfl
  | x :: a, y :: b, hl, h => by
    simp only [List.zip_cons_cons, List.all_cons, Bool.and_eq_true] at h
    rw [same_eq h.1, list_eq_of_same a b (by simpa using hl) h.2]
theorem made_eq {z : Value} {w : List Value} {size : Nat} (h : (z.cells.size == size && w.length == size && (z.cells.toList.zip w).all fun x => Check.sameZero x.1 x.2) = true) : z.cells.toList = w := by
  simp only [Bool.and_eq_true, beq_iff_eq] at h
  exact list_eq_of_same _ _ (by simp [h.1.1, h.1.2]) h.2
theorem type_array {p : Tables} {nf i : Nat} {t : TypeInfo} {z : Value} {n : Nat} {e : TypeId} (h : Check.type p nf i t = .ok ()) (hz : t.zero = some z) (hd : t.desc = .array n e) :
    z.cells.toList = (List.replicate (if ((p.types[e]?.getD default).size == 0) = true then 0 else n) e).flatMap (partZero p) := by
  unfold Check.type at h
  simp only [hz, hd] at h
  obtain ⟨size, -, h⟩ := bind_ok h
  obtain ⟨_, -, h⟩ := bind_ok h
  obtain ⟨_, -, h⟩ := bind_ok h
  obtain ⟨_, -, h⟩ := bind_ok h
  obtain ⟨_, -, h⟩ := bind_ok h
  obtain ⟨_, -, h⟩ := bind_ok h
  obtain ⟨_, -, h⟩ := bind_ok h
  obtain ⟨_, hw, -⟩ := bind_ok h
  obtain ⟨_, -, hw⟩ := bind_ok hw
  obtain ⟨_, -, hw⟩ := bind_ok hw
  exact made_eq (req_ok hw)
theorem type_struct {p : Tables} {nf i : Nat} {t : TypeInfo} {z : Value} {fs : Array Field} (h : Check.type p nf i t = .ok ()) (hz : t.zero = some z) (hd : t.desc = .struct fs) :
    z.cells.toList = (fs.toList.map (·.type)).flatMap (partZero p) := by
  unfold Check.type at h
  simp only [hz, hd] at h
  obtain ⟨size, -, h⟩ := bind_ok h
  obtain ⟨_, -, h⟩ := bind_ok h
  obtain ⟨_, -, h⟩ := bind_ok h
  obtain ⟨_, -, h⟩ := bind_ok h
  obtain ⟨_, -, h⟩ := bind_ok h
  obtain ⟨_, -, h⟩ := bind_ok h
  obtain ⟨_, -, h⟩ := bind_ok h
  obtain ⟨_, hw, -⟩ := bind_ok h
  obtain ⟨_, -, hw⟩ := bind_ok hw
  obtain ⟨_, -, hw⟩ := bind_ok hw
  exact made_eq (req_ok hw)
theorem type_named {p : Tables} {nf i : Nat} {t : TypeInfo} {z : Value} {n : String} {u : TypeId} (h : Check.type p nf i t = .ok ()) (hz : t.zero = some z) (hd : t.desc = .named n u) :
    z.cells.toList = partZero p u := by
  unfold Check.type at h
  simp only [hz, hd] at h
  split at h
  · obtain ⟨_, hx, -⟩ := bind_ok h
    cases hx
  obtain ⟨size, -, h⟩ := bind_ok h
  obtain ⟨_, -, h⟩ := bind_ok h
  obtain ⟨_, -, h⟩ := bind_ok h
  obtain ⟨_, -, h⟩ := bind_ok h
  obtain ⟨_, -, h⟩ := bind_ok h
  obtain ⟨_, -, h⟩ := bind_ok h
  obtain ⟨_, -, h⟩ := bind_ok h
  obtain ⟨_, hw, -⟩ := bind_ok h
  obtain ⟨_, -, hw⟩ := bind_ok hw
  obtain ⟨_, -, hw⟩ := bind_ok hw
  simpa [partZero] using made_eq (req_ok hw)
theorem forM_all {α : Type} {f : α → Except String Unit} : ∀ (l : List α), l.forM f = .ok () → ∀ x ∈ l, f x = .ok ()
  | [], _, x, hx => by cases hx
  | y :: l, h, x, hx => by
    have h' : (f y >>= fun _ => l.forM f) = .ok () := h
    obtain ⟨u, h1, h2⟩ := bind_ok h'
    cases hx with
    | head => exact h1
    | tail _ hm => exact forM_all l h2 x hm
/-- every type of the program has passed its check -/
def WfTypes (p : Source) : Prop := ∀ i t, p.types[i]? = some t → Check.type p.toTables p.decls.size i t = .ok ()
theorem wfTypes : WfTypes Tryd.src := by
  intro i t ht
  have hi : i < Tryd.src.types.size := (Array.getElem?_eq_some_iff.1 ht).1
  have h := forM_all _ Tryd.wf.types i (by simpa using hi)
  unfold Check.typeAt at h
  rw [ht] at h
  simp only [Option.getD_some] at h
  cases hc : Check.type Tryd.src.toTables Tryd.src.decls.size i t with
  | ok u => rfl
  | error e => rw [hc] at h; cases h
section
variable {p : Source} {i : Nat} {t : TypeInfo} {cs : Array Value}
theorem zero_named (hp : WfTypes p) {n : String} {u : TypeId} (ht : p.types[i]? = some t) (hz : t.zero = some (.agg cs)) (hd : t.desc = .named n u) : cs.toList = partZero p.toTables u := type_named (hp i t ht) hz hd
theorem zero_struct (hp : WfTypes p) {fs : Array Field} (ht : p.types[i]? = some t) (hz : t.zero = some (.agg cs)) (hd : t.desc = .struct fs) : cs.toList = (fs.toList.map (·.type)).flatMap (partZero p.toTables) := type_struct (hp i t ht) hz hd
theorem zero_array (hp : WfTypes p) {n : Nat} {e : TypeId} (ht : p.types[i]? = some t) (hz : t.zero = some (.agg cs)) (hd : t.desc = .array n e) {s : Nat} (hs : (p.types[e]?.getD default).size = s) (h0 : (s == 0) = false) :
    cs.toList = (List.replicate n (partZero p.toTables e)).flatten := by
  have h := type_array (hp i t ht) hz hd
  rw [hs, h0] at h
  simp only [Value.cells, Bool.false_eq_true, if_false] at h
  rw [h, List.flatMap_replicate]
end
theorem partZero_of {p : Tables} {u : TypeId} {cs : Array Value} (h : (p.info? u).bind (·.zero) = some (.agg cs)) (hu : u < p.types.size) : partZero p u = cs.toList := by
  unfold Tables.info? at h
  rw [if_pos hu] at h
  unfold partZero
  cases ht : p.types[u]? with
  | none => rw [ht] at h; cases h
  | some t =>
    rw [ht] at h
    simp only [Option.bind_some] at h
    simp [h, Value.cells]
theorem getElem?_flatten_rep {α : Type} (l : List α) (s : Nat) (hl : l.length = s) : ∀ (n k : Nat), k < n * s → (List.replicate n l).flatten[k]? = l[k % s]?
  | 0, k, h => by omega
  | n + 1, k, h => by
    rw [List.replicate_succ, List.flatten_cons]
    by_cases hk : k < s
    · rw [List.getElem?_append_left (by omega), Nat.mod_eq_of_lt hk]
    · rw [List.getElem?_append_right (by omega), hl, getElem?_flatten_rep l s hl n (k - s) (by rw [Nat.add_mul] at h; omega)]
      congr 1
      rw [Nat.mod_eq_sub_mod (by omega : k ≥ s)]
theorem length_flatten_rep {α : Type} (l : List α) (s : Nat) (hl : l.length = s) : ∀ n : Nat, (List.replicate n l).flatten.length = n * s
  | 0 => by simp
  | n + 1 => by rw [List.replicate_succ, List.flatten_cons, List.length_append, hl, length_flatten_rep l s hl n, Nat.add_mul]; omega

end Go.Proofs.YtnplkifohocekaaDoor
