/-
  Package tenementref04: each, whole; Fetch.
-/
import Derived.Test.YtdjhkacjgdnglaaPteY
import Derived.Deep.AppendLies
namespace Go.Proofs.Ytdjhkacjgdnglaa
open Go.RowKit
set_option maxHeartbeats 2000000

set_option maxRecDepth 100000 in
theorem each_zero (b : Nat) (r : Int) (va : Nat) (x : Bool) (w : World) : Calls Try.prog 73 #[.pointer (some ⟨b, 0, none⟩), .int .i64 r, .int .u32 va, .int .i64 0, .bool x] w (EachLeft w [] [] 0) := by
  go_enter Try.func73, Try.ntmps73
  go_wp2_with fail
  refine wp_loop_rounds 1 ?_
  rw [rounds_succ]
  go_wp2_with fail
  go_ret3
  exact ⟨_, _, rfl, intsAt_nil _ _, intsAt_nil _ _, World.grownBy.refl _ _⟩
def eachOf (off n : Nat) (p1 p2 : Int × Int) : List Nat × List Nat × Int :=
  if p1.2 ≠ 0 then ([], [], p1.2) else if n ≤ 256 - off then (mks off p1.1.toNat p2.1.toNat n, oks off n, 0) else if p2.2 ≠ 0 then ([], [], p2.2) else (mks off p1.1.toNat p2.1.toNat n, oks off n, 0)
def Mach.eachV (M : Mach) (root : Int) (va : Nat) (n : Int) (wr : Bool) : List Nat × List Nat × Int :=
  if n = 0 then ([], [], 0) else if badR va n then ([], [], 1) else eachOf (va % 256) n.toNat (M.pageV root (va / 256) wr) (M.pageV root (va / 256 + 1) wr)
theorem rEach (b : Nat) (r : Int) (va : Nat) (n : Int) (x : Bool) (w : World) (M : Mach) (L : Lay) (hR : RM w b M L) (hv : va < 4294967296) : Calls Try.prog 73 #[.pointer (some ⟨b, 0, none⟩), .int .i64 r, .int .u32 va, .int .i64 n, .bool x] w (EachLeft w (M.eachV r va n x).1 (M.eachV r va n x).2.1 (M.eachV r va n x).2.2) := by
  unfold Mach.eachV
  by_cases h0 : n = 0
  · subst h0; rw [if_pos rfl]; exact each_zero b r va x w
  rw [if_neg h0]
  by_cases hb : badR va n
  · rw [if_pos hb]; exact each_bad b r va n x w hv h0 hb
  rw [if_neg hb]
  unfold badR at hb
  obtain ⟨k, rfl⟩ : ∃ k : Nat, n = k := ⟨n.toNat, by omega⟩
  have hat := fun j (hj : j < k) => M.walkV_at r va j x (by omega) (by omega)
  unfold eachOf
  simp only [Int.toNat_natCast]
  obtain ⟨p1, hp1⟩ : ∃ p, M.pageV r (va / 256) x = p := ⟨_, rfl⟩
  obtain ⟨p2, hp2⟩ : ∃ p, M.pageV r (va / 256 + 1) x = p := ⟨_, rfl⟩
  have i1 : p1.2 = 0 → (p1.1.toNat : Int) = p1.1 := fun h => by have := Mach.is_iff.1 (hp1 ▸ M.page_is r (va / 256) x (hp1 ▸ h)); omega
  have i2 : p2.2 = 0 → (p2.1.toNat : Int) = p2.1 := fun h => by have := Mach.is_iff.1 (hp2 ▸ M.page_is r (va / 256 + 1) x (hp2 ▸ h)); omega
  simp only [hp1, hp2] at hat
  rw [hp1, hp2]
  by_cases h1 : p1.2 ≠ 0
  · rw [if_pos h1]
    have := each_go b r va k 0 x w M L hR (by omega) (by omega) (by omega) (va % 256) p1.1.toNat p2.1.toNat p1.2 (fun j hj => absurd hj (by omega)) (fun _ => ⟨by
      rw [hat 0 (by omega), if_pos (by omega), if_pos h1], h1⟩) (by omega)
    unfold eF eO eC at this
    rwa [if_neg (by omega), if_neg (by omega), if_neg (by omega)] at this
  rw [if_neg h1]
  have h1' : p1.2 = 0 := Classical.byContradiction h1
  by_cases h2 : k ≤ 256 - va % 256
  · rw [if_pos h2]
    have := each_go b r va k k x w M L hR (by omega) (by omega) (by omega) (va % 256) p1.1.toNat p2.1.toNat 0 (fun j hj => by
      rw [hat j hj, if_pos (by omega), if_neg h1]; unfold mkK okK; rw [if_pos (by omega), if_pos (by omega), i1 h1']) (fun h => absurd h (by omega)) (by omega)
    unfold eF eO eC at this
    rwa [if_pos rfl, if_pos rfl, if_pos rfl] at this
  rw [if_neg h2]
  by_cases h3 : p2.2 ≠ 0
  · rw [if_pos h3]
    have := each_go b r va k (256 - va % 256) x w M L hR (by omega) (by omega) (by omega) (va % 256) p1.1.toNat p2.1.toNat p2.2 (fun j hj => by
      rw [hat j (by omega), if_pos (by omega), if_neg h1]; unfold mkK okK; rw [if_pos (by omega), if_pos (by omega), i1 h1']) (fun _ => ⟨by
      rw [hat _ (by omega), if_neg (by omega), if_pos h3], h3⟩) (by omega)
    unfold eF eO eC at this
    rwa [if_neg (by omega), if_neg (by omega), if_neg (by omega)] at this
  · rw [if_neg h3]
    have h3' : p2.2 = 0 := Classical.byContradiction h3
    have := each_go b r va k k x w M L hR (by omega) (by omega) (by omega) (va % 256) p1.1.toNat p2.1.toNat 0 (fun j hj => by
      rw [hat j hj]
      unfold mkK okK
      by_cases hc : va % 256 + j < 256
      · rw [if_pos hc, if_neg h1, if_pos hc, if_pos hc, i1 h1']
      · rw [if_neg hc, if_neg h3, if_neg hc, if_neg hc, i2 h3']) (fun h => absurd h (by omega)) (by omega)
    unfold eF eO eC at this
    rwa [if_pos rfl, if_pos rfl, if_pos rfl] at this
/-- places that lie in frames of the machine -/
def PlOk (M : Mach) (fs os : List Nat) : Prop := fs.length = os.length ∧ fs.length ≤ 256 ∧ ∀ j, j < fs.length → ((fs.getD j 0 : Nat) : Int) < M.n ∧ os.getD j 0 < 256
def Mach.atPl (M : Mach) (fs os : List Nat) (k : Nat) : List UInt8 := (List.range k).map fun j => (M.fr (fs.getD j 0)).bs (os.getD j 0)
theorem Mach.atPl_succ (M : Mach) (fs os : List Nat) (k : Nat) : M.atPl fs os (k + 1) = M.atPl fs os k ++ [(M.fr (fs.getD k 0)).bs (os.getD k 0)] := by simp [Mach.atPl, List.range_succ]
theorem Mach.atPl_len (M : Mach) (fs os : List Nat) (k : Nat) : (M.atPl fs os k).length = k := by simp [Mach.atPl]
theorem bcells_nil' : bcells [] = [] := List.eq_nil_of_length_eq_zero (by rw [bcells_len]; rfl)
theorem bcells_snoc' (l : List UInt8) (x : UInt8) : bcells (l ++ [x]) = bcells l ++ [.int .u8 x.toNat] := by unfold bcells; simp
set_option maxRecDepth 100000 in
theorem rFetch_of (b : Nat) (r : Int) (va : Nat) (n : Int) (w : World) (M : Mach) (L : Lay) (hR : RM w b M L) (fs os : List Nat) (c : Int) (hE : Calls Try.prog 73 #[.pointer (some ⟨b, 0, none⟩), .int .i64 r, .int .u32 va, .int .i64 n, .bool false] w (EachLeft w fs os c)) (hp : PlOk M fs os) (hz : c ≠ 0 → fs = []) :
    Calls Try.prog 30 #[.pointer (some ⟨b, 0, none⟩), .int .i64 r, .int .u32 va, .int .i64 n] w fun e w' => ∃ v, e = .returned (.tuple #[v, .int .i64 c]) ∧ OutBytes w (M.atPl fs os fs.length) v w' := by
  have HE := hid hE; have HP := hid hp; have HZ := hid hz; have HR := hid hR
  have hnn := hid hR.hn
  obtain ⟨i0, hi, hz0, hz1, hz2⟩ := info_parts info_u8
  have Hi := hid hi; have Hz0 := hid hz0; have Hz1 := hid hz1; have Hz2 := hid hz2
  clear hE hp hz hR hi hz0 hz1 hz2
  by_cases hc : c = 0
  · subst hc
    go_enter Try.func30, Try.ntmps30
    go_wp2_with (go_at_call 73; refine HE.out.mono ?_; rintro e w1 ⟨vf, vo, rfl, ⟨pf, cf, rfl, hf⟩, ⟨po, co, rfl, ho⟩, hg⟩; have HF := hid hf; have HO := hid ho; have HG := hid hg; clear hf ho hg)
    have hlen : fs.length ≤ 256 := HP.out.2.1
    go_loopw [13, 14] (fun v i wr => ∃ k : Nat, k ≤ fs.length ∧ i = .int .i64 k ∧ wr.ownsRow w1.heap.size 5 1 v k (bcells (M.atPl fs os k)) ∧ w1.grownBy wr none) (fun _ i _ => fs.length - (intOf i).toNat)
    case atStart => exact ⟨0, Nat.zero_le _, rfl, by rw [show M.atPl fs os 0 = [] from rfl, bcells_nil']; exact World.ownsRow_nil _ _ _ _, World.grownBy.refl _ _⟩
    case round =>
      obtain ⟨k, hk, rfl, hown, hg⟩ := hrel
      have HW := hid hown; have HGr := hid hg
      by_cases hlt : k < fs.length
      · have hlt' : (k : Int) < fs.length := by omega
        have hlo : (k : Int) < os.length := by have := HP.out.1; omega
        obtain ⟨gf, rfl, hgf, hgl, d0⟩ := HF.out k hlt
        obtain ⟨go, rfl, hgo, hgl2, d1⟩ := HO.out k (by have := HP.out.1; omega)
        obtain ⟨hm, ho⟩ := HP.out.2.2 k hlt
        have HS := hid (M.atPl_succ fs os k)
        generalize fs.getD k 0 = m at *
        generalize os.getD k 0 = o at *
        have hRr := HR.out.grown (HG.out.trans hg)
        have hm' : m < L.n := by have := hnn.out; omega
        have hmi : (m : Int) < L.n := by omega
        have hoi : (o : Int) < 256 := by omega
        have e0 := hg.cell d0 (by simp)
        have e1 := hg.cell d1 (by simp)
        have s1 := hRr.slB
        have s2 := hRr.sl hm'
        have s3 := hRr.byte hm' ho
        obtain ⟨x, hx⟩ : ∃ x, (M.fr m).bs o = x := ⟨_, rfl⟩
        rw [hx] at s3 HS
        clear hown hg d0 d1 hm hx hRr
        go_wp2_with fail
        obtain ⟨X, hX⟩ : ∃ X, wr.alloc (.cells #[.int .u8 x.toNat] 5) = X := ⟨_, rfl⟩
        have hXg : wr.grownBy X none := hX ▸ World.grownBy_alloc _ _ none
        have HXg := hid hXg
        have HXo := hid (ownsRow_grown' HW.out hXg)
        have HXs := hid (show X.heap.size = wr.heap.size + 1 by rw [← hX]; simp)
        have HXn := hid (show X.heap[wr.heap.size]? = some (.cells #[.int .u8 x.toNat] 5 (0, 0)) from by rw [← hX]; exact heap_alloc_new wr _)
        have HbX := hid (show w1.heap.size ≤ X.heap.size from Nat.le_trans HGr.out.size hXg.size)
        clear hXg
        go_region_law (refine step_append_lies _ (by rfl) _ _ 31 (by rfl) w1.heap.size 5 i0 (.int .u8 0) 1 1 Try.underlying31 Hi.out Hz0.out Hz1.out Hz2.out rfl (by decide) u13 k (bcells (M.atPl fs os k)) (by rfl) HXo.out ⟨wr.heap.size, 0, none⟩ 1 1 [.int .u8 x.toNat] (by rfl) rfl (World.news_of_block HXn.out) (by simp [Value.oneCell']) (by omega) (by unfold maxLen; omega) (by omega) HbX.out (wr.heap.size + 1) HXs.out ?_; intro gb cb w3 hown hgrow hat hlt2; have hgrow2 : X.grownBy w3 u13.ownBlock := (by first | exact hgrow | exact (grownBy_drew X _).trans hgrow); have HO3 := hid hown; have HG3 := hid ((HGr.out.trans HXg.out).andThen hgrow2 (fun j hj => .inl (HW.out.lt j hj).1)); clear hown hgrow hat hlt2 hgrow2)
        all_goals clear hX
        all_goals go_wp2
        all_goals go_roundw
        all_goals first
          | exact ⟨k + 1, hlt, by go_num, by rw [HS.out, bcells_snoc']; exact HO3.out, HG3.out⟩
          | exact ⟨k + 1, hlt, by go_num, by rw [HS.out, bcells_snoc']; exact ownsRow_grown' HO3.out (grownBy_drew _ none), HG3.out.trans (grownBy_drew _ none)⟩
          | (simp [intOf]; omega)
      · obtain rfl : k = fs.length := by omega
        have hge : ¬ (fs.length : Int) < fs.length := by omega
        clear hlt hown hg
        go_wp2
        go_ret2
        exact ⟨_, rfl, outBytes_of HW.out (M.atPl_len _ _ _) (HG.out.trans HGr.out)⟩
  · have hc' : (c != 0) = true := by simpa using hc
    have HC := hid hc
    clear hc
    go_enter Try.func30, Try.ntmps30
    go_wp2_with (go_at_call 73; refine HE.out.mono ?_; rintro e w1 ⟨vf, vo, rfl, hf, ho, hg⟩; have HG := hid hg; clear hf ho hg)
    go_ret2
    obtain rfl := HZ.out HC.out
    exact ⟨_, rfl, none, 0, rfl, .inl rfl, HG.out⟩
end Go.Proofs.Ytdjhkacjgdnglaa
