/-
  Package bridge: law14.play of a frame, play whole, same, the script that came in.
-/
import Derived.Test.YtakofhhfdgankaaBrPl
import Derived.Deep.Cut
set_option linter.unusedSimpArgs false
set_option linter.unusedVariables false
namespace Go.Proofs.Ytakofhhfdgankaa.Br
open Go.RowKit Gen Bk
set_option maxHeartbeats 4000000
set_option maxRecDepth 100000

section
variable {w0 w w' w1 : World} {lab lab' lab1 : Nat → Nat} {b y : Nat} {S S' S1 : Sw} {T T' : Nat} {X : Nat} {o : OpV}
theorem BX.op0 (h : BX w0 lab w b y S S' T) {p : Option Addr} {l : List UInt8} (hb : BA w0 p l) : l ≠ [] → ∀ a, p = some a → lab a.block = 0 := fun hne a e => by
  obtain ⟨b, o, e2, hc⟩ := hb 0 (by cases l with | nil => exact absurd rfl hne | cons x l => simp)
  rw [e] at e2
  cases e2
  exact h.l0 _ (World.block_lt_of_cell? _ _ hc)
/-- the bytes of mine behind k rounds -/
def inc (l : List UInt8) (k : Nat) : List Value := (l.take k).map (fun x => .int .u8 (((x.toNat : Int) + 1) % 256)) ++ bcells (l.drop k)
theorem inc_zero (l : List UInt8) : inc l 0 = bcells l := by simp [inc]
theorem inc_len (l : List UInt8) {k : Nat} (hk : k ≤ l.length) : (inc l k).length = l.length := by unfold inc; rw [List.length_append, bcells_len]; simp; omega
theorem inc_at (l : List UInt8) {k : Nat} (hk : k < l.length) : (inc l k)[k]? = some (.int .u8 (l.getD k 0).toNat) := by
  unfold inc
  rw [List.getElem?_append_right (by simp <;> omega), bcells_get]
  simp [List.getD, hk, Nat.min_eq_left (Nat.le_of_lt hk)]
theorem inc_set (l : List UInt8) {k : Nat} (hk : k < l.length) : (inc l k).set k (.int .u8 ((((l.getD k 0).toNat : Int) + 1) % 256)) = inc l (k + 1) := by
  apply List.ext_getElem?
  intro j
  have h1 : (l.take k).length = k := by simp; omega
  unfold inc
  rw [List.getElem?_set, List.length_append, bcells_len, List.length_map, h1, List.length_drop]
  by_cases h : k = j
  · subst h
    rw [if_pos rfl, if_pos (by omega), List.getElem?_append_left (by simp; omega), List.getElem?_map, List.getElem?_take, if_pos (by omega)]
    simp [List.getD, List.getElem?_eq_getElem hk]
  · rw [if_neg h]
    by_cases h2 : j < k
    · rw [List.getElem?_append_left (by simp; omega), List.getElem?_append_left (by simp; omega), List.getElem?_map, List.getElem?_map, List.getElem?_take, List.getElem?_take, if_pos h2, if_pos (by omega)]
    · rw [List.getElem?_append_right (by simp; omega), List.getElem?_append_right (by simp; omega), bcells_get, bcells_get]
      simp only [List.length_map, List.length_take, List.getElem?_drop]
      congr 2
      omega
theorem newB_lab9 {w w' : World} {l : List UInt8} {v : Value} (lab : Nat → Nat) (h : NewB w l v w') : ∃ p c, v = .slice p l.length c ∧ BA w' p l ∧ ∀ a, p = some a → lab9 lab w a.block = 99 := by
  obtain ⟨p, c, rfl, hb, -, -⟩ := h.ba
  refine ⟨p, c, rfl, hb, fun a e => ?_⟩
  subst e
  rcases h.1.2 with ⟨e, _⟩ | ⟨g, cap, cur, e, hlo, hg, _⟩
  · cases e
  · simp only [Value.slice.injEq, Option.some.injEq] at e
    rw [e.1]
    exact lab9_new _ _ hlo
/-- Send, the second of both -/
theorem qSendS (h : BX w0 lab w b y S S' (T + 1)) (h0 : S'.ok T) (hT : T + 1 ≤ 2305843009213693952) (x : Int) (p : Option Addr) (f : List UInt8) (c : Nat) (hb : BA w p f) (hl : f ≠ [] → ∀ a, p = some a → ¬ CR (lab a.block)) : Calls Try.prog 19 #[.pointer (some ⟨y, 0, none⟩), .int .i64 x, .slice p f.length c] w fun e w' => e = .returned (.int .i64 ((S'.sendE x f).2 : Nat)) ∧ NX w0 lab w b y S (S'.sendE x f).1 (T + 1) w' := by
  obtain ⟨r, a, ca, lq, hr⟩ := h.rs
  refine (ySend hr h0 hT x p f c hb hl).mono ?_
  rintro e w' ⟨rfl, ha⟩
  exact ⟨rfl, h.aftQ ha (Sw.send_ok h0 hT x f) (Nat.le_refl _)⟩
theorem own_st {w w' : World} {lab lab' : Nat → Nat} {C : Nat → Prop} {B : Nat} {e : TypeId} {s n : Nat} {xs : List Value} {p : Option Addr} {c : Nat} (h : w.ownsRow B e s (.slice p n c) n xs) (st : St C lab w lab' w') (hl : ∀ a, p = some a → ¬ C (lab a.block)) : w'.ownsRow B e s (.slice p n c) n xs := by
  refine ⟨h.1, ?_⟩
  rcases h.2 with h2 | ⟨g, cap, cur, e1, hb', hg', r⟩
  · exact .inl h2
  · refine .inr ⟨g, cap, cur, e1, hb', ?_, r⟩
    simp only [Value.slice.injEq] at e1
    exact (st.block (Array.getElem?_eq_some_iff.1 hg').1 (hl _ e1.1)).trans hg'
theorem BP.chg9 {B : Nat} (h : BP w0 lab w b y S S' T X o) (hX : X < B) (hc : Chg (fun k => B ≤ k ∧ lab k = 99) w w') : BP w0 lab w' b y S S' T X o := by
  refine ⟨h.x.st (C := fun l => l = 99) ⟨fun _ _ => rfl, hc.mono fun k hk => hk.2⟩ (fun l hl => by omega), ?_⟩
  have n : ∀ j, ¬ (B ≤ (⟨X, j, none⟩ : Addr).block ∧ lab (⟨X, j, none⟩ : Addr).block = 99) := fun j e => absurd e.1 (by show ¬ B ≤ X; omega)
  exact ⟨h.q.lb, Nat.lt_of_lt_of_le h.q.lt hc.size, hc.cell h.q.c0 (n 0), hc.cell h.q.c1 (n 1), hc.cell h.q.c2 (n 2), hc.cell h.q.c3 (n 3), hc.cell h.q.c4 (n 4), hc.cell h.q.c5 (n 5)⟩
theorem St.mid {C : Nat → Prop} {B : Nat} (h : St C lab w lab1 w1) (hB : w.heap.size ≤ B) (hc : Chg (fun k => B ≤ k ∧ lab1 k = 99) w1 w') : St C lab w lab1 w' := ⟨h.keep, h.chg.trans hc fun j hj => .inr (Nat.le_trans hB hj.1)⟩
/-- play of a frame -/
theorem lPlay_send (h : BX w0 lab w b y S S T) (hT : T + 1 ≤ 2305843009213693952) (o : OpV) (hf : o.fits w0) (h0 : o.what = 0) :
    Calls Try.prog 11 #[.pointer (some ⟨b, 0, none⟩), .pointer (some ⟨y, 0, none⟩), o.val] w fun e w' => e = .returned (.bool true) ∧ NX w0 lab w b y (o.go S) (o.go S) (T + 1) w' := by
  have hgo : o.go S = (S.sendE o.a o.l).1 := by unfold OpV.go; rw [if_pos h0]
  rw [hgo]
  obtain ⟨what, xa, xb, xc, on, p, l, cp⟩ := o
  simp only at h0
  subst h0
  obtain ⟨hba, hlen, hnil⟩ := hf
  simp only at hba hlen hnil ⊢
  obtain ⟨W1, hW1⟩ : ∃ W, w.alloc (.cells #[.int .i64 0, .int .i64 xa, .int .i64 xb, .int .i64 xc, .bool on, .slice p l.length cp] 33) = W := ⟨_, rfl⟩
  have hg1 : w.grownBy W1 none := hW1 ▸ World.grownBy_alloc _ _ none
  have hq : Box (lab9 lab w) W1 w.heap.size ⟨0, xa, xb, xc, on, p, l, cp⟩ := hW1 ▸ Box.new lab w ⟨0, xa, xb, xc, on, p, l, cp⟩
  have H := hid (show BP w0 (lab9 lab w) W1 b y S S T w.heap.size ⟨0, xa, xb, xc, on, p, l, cp⟩ from ⟨h.fresh9 hg1, hq⟩)
  have HB := hid (show w.heap.size < W1.heap.size from hq.lt)
  have HOk := hid h.ok
  have HT := hid hT
  have HBA := hid hba
  have HLen := hid hlen
  have HNil := hid hnil
  have HL9 := hid (lab9_st (C := SX) lab hg1)
  obtain ⟨L9, hL9⟩ : ∃ l, lab9 lab w = l := ⟨_, rfl⟩
  rw [hL9] at H hq HL9
  have d0 := hq.c0
  have d1 := hq.c1
  have d5 := hq.c5
  obtain ⟨X, hX⟩ : ∃ X, w.heap.size = X := ⟨_, rfl⟩
  have HWX := hid (Nat.le_of_eq hX)
  rw [hX] at H d0 d1 d5 HB
  obtain ⟨n, hn⟩ : ∃ n, l.length = n := ⟨_, rfl⟩
  have HN := hid hn
  simp only at d0 d1 d5
  rw [hn] at d5
  have HL0 := hid (H.out.x.op0 hba)
  have hA := World.grownBy_alloc W1 (.cells #[] 5) none
  have d5a := hA.cell d5 (by simp)
  have HBA1 := hid (hba.grown H.out.x.g0)
  simp only [OpV.val]
  rw [hn] at hW1 ⊢
  clear h hg1 hq hL9 hT hba hlen hnil hgo hn hA
  go_enter Try.func11, Try.ntmps11
  go_wp2_with (first
    | (at_builtin; refine wpList_append_any rfl (.tmp 22) (.tmp 24) rfl rfl p l cp n HN.out HLen.out HNil.out rfl HBA1.out ?_; intro v w2 hv; obtain ⟨mp, mc, rfl, mba, hml⟩ := newB_lab9 L9 hv; have HMl := hid hml; have HOw := hid hv.1; have Hp := (⟨H.out.x.fresh9 hv.2, H.out.q.st (lab9_st (C := fun _ => False) L9 hv.2) (fun e => e)⟩ : BP w0 (lab9 L9 W1) w2 b y S S T X _); have H2 := hid Hp; have S2 := hid (lab9_st (C := SX) L9 hv.2); have m1 := Hp.q.c1; have HS := hid (pSend Hp.x HT.out xa mp l mc mba (fun _ a e => by rw [HMl.out a e]; exact not_CP99)); simp only at m1; clear hv mba Hp hml d0 d1 d5 d5a)
    | (go_at_call 18; (with_reducible refine HS.out.mono ?_); rintro e w3 ⟨rfl, hn3⟩; obtain ⟨l3, p3, s3⟩ := H2.out.next hn3; have H3 := hid p3; have S3 := hid s3; clear hn3 p3 s3))
  have HMl3 := hid (show ∀ a, mp = some a → l3 a.block = 99 from fun a e => by
    rcases HOw.out.2 with ⟨e2, _⟩ | ⟨g, cap, cur, e2, hlo, hg, _⟩
    · rw [e] at e2; cases e2
    · simp only [Value.slice.injEq] at e2
      rw [e] at e2
      obtain ⟨e2, _⟩ := e2
      cases e2
      exact (S3.out.keep _ (Array.getElem?_eq_some_iff.1 hg).1).trans (HMl.out _ e))
  have HO3 := hid (own_st HOw.out S3.out (fun a e => by rw [HMl.out a e]; exact not_SX99))
  obtain ⟨cd, hcd⟩ : ∃ c, (S.sendE xa l).2 = c := ⟨_, rfl⟩
  rw [hcd]
  obtain ⟨S1, hS1⟩ : ∃ c, (S.sendE xa l).1 = c := ⟨_, rfl⟩
  rw [hS1] at H3
  have HCd := hid (And.intro hcd hS1)
  clear hcd hS1 H2 HOw HS m1
  obtain ⟨B, hB⟩ : ∃ B, W1.heap.size = B := ⟨_, rfl⟩
  rw [hB] at HO3 HB
  obtain ⟨nl, hnl⟩ : ∃ n, l.length = n := ⟨_, rfl⟩
  have HNl := hid hnl
  rw [hnl] at HO3 ⊢
  clear hB hnl
  have HS3 := hid ((HL9.out.tr S2.out).tr S3.out)
  clear HL9 S2 S3
  go_loopw [9] (fun i wr => ∃ k : Nat, i = .int .i64 k ∧ k ≤ nl ∧ wr.ownsRow B 5 1 (.slice mp nl mc) nl (inc l k) ∧ Chg (fun j => B ≤ j ∧ l3 j = 99) w3 wr) (fun i _ => nl - (intOf i).toNat)
  case atStart => exact ⟨0, rfl, by omega, by rw [inc_zero]; exact HO3.out, Chg.refl _ _⟩
  case round =>
    clear HO3
    obtain ⟨k, rfl, hk, ho, hcg⟩ := hrel
    have HO := hid ho
    have HC := hid hcg
    have hk0 : (0 : Int) ≤ k := by omega
    have hlen := HLen.out
    rw [HNl.out] at hlen
    by_cases hlt : k < nl
    · have hlt' : (k : Int) < nl := by omega
      have hkl : k < l.length := by rw [HNl.out]; exact hlt
      obtain ⟨gg, hg1, hgB⟩ : ∃ g, mp = some ⟨g, 0, none⟩ ∧ B ≤ g := by
        rcases ho.2 with ⟨_, e⟩ | ⟨g, cap, cur, e, hb, _⟩
        · omega
        · simp only [Value.slice.injEq] at e; exact ⟨g, e.1, hb⟩
      subst hg1
      have hc := ho.cellAt k (by omega)
      rw [inc_at l hkl] at hc
      have hfz := ho.frozenAt k
      have HStd := hid (ho.stored k (.int .u8 ((((l.getD k 0).toNat : Int) + 1) % 256)))
      rw [inc_set l hkl] at HStd
      have HGB := hid (And.intro hgB (HMl3.out _ rfl))
      obtain ⟨x, hx⟩ : ∃ x, l.getD k 0 = x := ⟨_, rfl⟩
      rw [hx] at hc HStd
      clear ho hcg hx hgB
      go_wp2_with fail
      exact ⟨⟨k + 1, by push_cast; rfl, by omega, HStd.out.1, HC.out.trans (Chg.one HStd.out.2 HGB.out) fun j hj => .inl hj⟩, by simp only [intOf]; omega⟩
    · obtain rfl : k = nl := by omega
      have hge : ¬ ((k : Int) < k) := by omega
      have hp := H3.out.chg9 HB.out hcg
      have m1 := hp.q.c1
      have m5 := hp.q.c5
      have HQ := hid (qSendS hp.x HOk.out HT.out xa p l cp (HBA.out.grown hp.x.g0) (fun hne a e => by rw [hp.x.op0 HBA.out hne a e]; unfold CR; omega))
      simp only at m1 m5
      rw [HCd.out.1, HCd.out.2] at HQ
      clear ho hcg hp H3
      go_wp2_with (go_at_call 19; (with_reducible refine HQ.out.mono ?_); rintro e w4 ⟨rfl, l4, x4, s4⟩; have X4 := hid x4; have S4 := hid s4; clear x4 s4)
      go_ret
      rw [HCd.out.2]
      exact ⟨by simp, l4, X4.out, (HS3.out.mid (Nat.le_of_lt (Nat.lt_of_le_of_lt HWX.out HB.out)) HC.out).tr S4.out⟩
/-- play of any call -/
theorem lPlay (h : BX w0 lab w b y S S T) (hT : T + 1 ≤ 2305843009213693952) (o : OpV) (hf : o.fits w0) :
    Calls Try.prog 11 #[.pointer (some ⟨b, 0, none⟩), .pointer (some ⟨y, 0, none⟩), o.val] w fun e w' => e = .returned (.bool true) ∧ NX w0 lab w b y (o.go S) (o.go S) (T + 1) w' := by
  by_cases e : o.what = 0
  · exact lPlay_send h hT o hf e
  · exact lPlay_rest h hT o e
end
end Go.Proofs.Ytakofhhfdgankaa.Br
