/-
  Package tenementref04: Store.
-/
import Derived.Test.YtdjhkacjgdnglaaPteY2
import Derived.Test.YtdjhkacjgdnglaaPteI
import Derived.IntWalk
namespace Go.Proofs.Ytdjhkacjgdnglaa
open Go.RowKit
set_option maxHeartbeats 2000000

/-- bytes laid one by one -/
def Mach.byteV (M : Mach) (fs os : List Nat) (l : List UInt8) : Nat → Mach
  | 0 => M
  | k + 1 => ((M.byteV fs os l k).write (fs.getD k 0 : Nat) (os.getD k 0 : Nat) [l.getD k 0]).2
/-- a slice of bytes apart from the ref machine, with its room -/
def SR (w : World) (L : Lay) (b : Nat) (v : Value) (l : List UInt8) : Prop := ∃ p c, v = .slice p l.length c ∧ l.length ≤ c ∧ (l ≠ [] → ∃ sb so, p = some ⟨sb, so, none⟩ ∧ ¬ L.foot b sb ∧ sb < w.heap.size ∧ ∀ k, k < l.length → w.cell? ⟨sb, so + k, none⟩ = some (.int .u8 (l.getD k 0).toNat))
set_option maxRecDepth 100000 in
theorem rStore_of (b : Nat) (r : Int) (va : Nat) (v : Value) (l : List UInt8) (w : World) (M : Mach) (L : Lay) (hR : RM w b M L) (hl : SR w L b v l) (hmax : l.length ≤ 9223372036854775807) (fs os : List Nat) (c : Int) (hE : Calls Try.prog 73 #[.pointer (some ⟨b, 0, none⟩), .int .i64 r, .int .u32 va, .int .i64 l.length, .bool true] w (EachLeft w fs os c)) (hp : PlOk M fs os) (hz : c ≠ 0 → fs = []) (hfl : c = 0 → fs.length = l.length) :
    Calls Try.prog 32 #[.pointer (some ⟨b, 0, none⟩), .int .i64 r, .int .u32 va, v] w (RLeft b L w c (M.byteV fs os l fs.length)) := by
  obtain ⟨p, cp, rfl, hcap, hx⟩ := hl
  have HE := hid hE; have HP := hid hp; have HZ := hid hz; have HR := hid hR; have HX := hid hx
  have hlt0 := hid (fun j (hj : L.foot b j) => hR.lt hj)
  clear hE hp hz hR hx
  by_cases hc : c = 0
  · subst hc
    have hfl' := hfl rfl
    clear hfl
    have HFL := hid hfl'
    clear hfl'
    go_enter Try.func32, Try.ntmps32
    go_wp2_with (go_at_call 73; refine HE.out.mono ?_; rintro e w1 ⟨vf, vo, rfl, ⟨pf, cf, rfl, hf⟩, ⟨po, co, rfl, ho⟩, hg⟩; have HF := hid hf; have HO := hid ho; have HG := hid hg; clear hf ho hg)
    have hlen : fs.length ≤ 256 := HP.out.2.1
    go_loopw [12] (fun i wr => ∃ (k : Nat) (L' : Lay), k ≤ fs.length ∧ i = .int .i64 k ∧ RM wr b (M.byteV fs os l k) L' ∧ L'.n = L.n ∧ Chg (L.foot b) w1 wr ∧ ∀ j, L'.foot b j → L.foot b j ∨ w1.heap.size ≤ j) (fun i _ => fs.length - (intOf i).toNat)
    case atStart => exact ⟨0, L, Nat.zero_le _, rfl, HR.out.grown HG.out, rfl, Chg.refl _ _, fun j hj => .inl hj⟩
    case round =>
      obtain ⟨k, L', hk, rfl, hr, hn, hch, hft⟩ := hrel
      have HRr := hid hr; have HCh := hid hch; have HFt := hid hft; have HN := hid hn
      clear hr hn hft
      by_cases hlt : k < fs.length
      · have hlt' : (k : Int) < fs.length := by omega
        have hkl : k < l.length := by have := HFL.out; omega
        have hlo : (k : Int) < os.length := by have := HP.out.1; omega
        obtain ⟨gf, rfl, hgf, hgl, d0⟩ := HF.out k hlt
        obtain ⟨go, rfl, hgo, hgl2, d1⟩ := HO.out k (by have := HP.out.1; omega)
        obtain ⟨sb, so, rfl, hsf, hsl, hcell⟩ := HX.out (fun e => by rw [e] at hkl; simp at hkl)
        have e0 := hch.cell d0 (fun h => by have := hlt0.out _ h; simp only at this; omega)
        have e1 := hch.cell d1 (fun h => by have := hlt0.out _ h; simp only at this; omega)
        have HC := hid (show wr.cell? ⟨sb, so + k, none⟩ = some (.int .u8 (l.getD k 0).toNat) from hch.cell (HG.out.cell (hcell k hkl) (by simp)) hsf)
        have HA := hid (show ¬ L'.foot b sb from fun h => by
          rcases HFt.out sb h with h | h
          · exact hsf h
          · have := HG.out.size; omega)
        have HS := hid (show M.byteV fs os l (k + 1) = ((M.byteV fs os l k).write (fs.getD k 0 : Nat) (os.getD k 0 : Nat) [l.getD k 0]).2 from rfl)
        have HW := hid (fun (W : World) (hg : wr.grownBy W none) (cap : Nat) => rWrite_n b (fs.getD k 0 : Nat) (os.getD k 0 : Nat) (some ⟨sb, so + k, none⟩) 1 cap [l.getD k 0] W (M.byteV fs os l k) L' (HRr.out.grown hg) rfl (by omega) (fun j hj => by
          have : j = 0 := by simp at hj; omega
          subst this
          exact ⟨sb, so + k, rfl, HA.out, hg.cell HC.out (by simp)⟩))
        generalize fs.getD k 0 = m at *
        generalize os.getD k 0 = o at *
        generalize l.getD k 0 = x at *
        have hkl' : (k : Int) < l.length := by omega
        have hkc : (k : Int) + 1 ≤ cp := by omega
        have hck : ¬ cp = k := by omega
        have hll : (l.length : Int) ≤ cp := by omega
        have hmx : (l.length : Int) ≤ 9223372036854775807 := by omega
        have hwr : IntKind.i64.wrap ((k : Int) + 1) = (k : Int) + 1 := IntWalk.i64_in _ (by omega)
        have hk0 : (0 : Int) ≤ k := by omega
        have hk1 : (0 : Int) ≤ (k : Int) + 1 := by omega
        have hk2 : ((k : Int) + 1).toNat = k + 1 := by omega
        clear d0 d1 hch hcell
        go_wp2_with fail
        go_still_tail 14, (by kernel_rfl)
        change wpList _ _ _ _ _ wr.drew
        clear hwr hk1 hk2
        go_wp2_with (go_at_call 60; (with_reducible refine (HW.out _ (grownBy_drew _ _) _).mono ?_); rintro e w3 ⟨rfl, L4, h4, hn4, c4, f4⟩; have HR4 := hid h4; have HN4 := hid (hn4.trans HN.out); have HC4 := hid (HCh.out.trans ((Chg.of0 (S := L'.foot b) (grownBy_drew wr none)).trans c4 (fun j hj => .inl hj)) (fun j hj => HFt.out j hj)); have HF4 := hid (fun j (hj : L4.foot b j) => (f4 j hj).elim (HFt.out j) (fun h => .inr (Nat.le_trans HCh.out.size h))); clear h4 hn4 c4 f4)
        go_roundw
        case rel => exact ⟨k + 1, L4, hlt, by go_num, by rw [HS.out]; exact HR4.out, HN4.out, HC4.out, HF4.out⟩
        case measure => simp [intOf]; omega
      · obtain rfl : k = fs.length := by omega
        have hge : ¬ (fs.length : Int) < fs.length := by omega
        clear hlt hch
        go_wp2
        go_ret
        exact ⟨rfl, L', HRr.out, HN.out, (Chg.of0 HG.out).trans HCh.out (fun j hj => .inl hj), fun j hj => (HFt.out j hj).imp id fun h => Nat.le_trans HG.out.size h⟩
  · have hc' : (c != 0) = true := by simpa using hc
    have HC := hid hc
    clear hc hfl
    go_enter Try.func32, Try.ntmps32
    go_wp2_with (go_at_call 73; refine HE.out.mono ?_; rintro e w1 ⟨vf, vo, rfl, hf, ho, hg⟩; have HG := hid hg; clear hf ho hg)
    go_ret
    obtain rfl := HZ.out HC.out
    exact ⟨rfl, L, HR.out.grown HG.out, rfl, Chg.of0 HG.out, fun _ h => .inl h⟩
end Go.Proofs.Ytdjhkacjgdnglaa
