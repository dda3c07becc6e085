/-
  Package blk, plain: requests, segments and responses as bytes. No walk, no program here.
-/
import Init
set_option linter.unusedSimpArgs false
set_option linter.unusedVariables false
namespace Go.Proofs.Ytfpemajbgnfflaa.Bk
set_option maxHeartbeats 1000000

/-- a segment -/
structure Seg where
  ref : Int
  first : Int
  last : Int
deriving DecidableEq
/-- a request -/
structure Rq where
  op : Int
  id : Int
  sec : Int
  segs : List Seg
deriving DecidableEq
/-- the numbers of 8, 2, 16, 32 bits -/
def fitsV (n : Int) (top : Int) : Bool := decide (0 ≤ n) && decide (n < top)
def Seg.ok (s : Seg) : Bool := fitsV s.ref 256 && fitsV s.first 4 && fitsV s.last 4
def Seg.back (s : Seg) : Bool := decide (s.first > s.last)
/-- may a request of an op have so many segments, in itself or in a page? -/
def mayV (op : Int) (n : Int) (page : Int) : Bool :=
  if op = 0 ∨ op = 1 then decide (1 ≤ n) && decide (n ≤ (if page = -1 then 4 else 16))
  else if op = 2 then decide (n = 0) && decide (page = -1)
  else false
/-- the number of some bytes, the lowest one first -/
def numV : List UInt8 → Nat
  | [] => 0
  | x :: l => x.toNat + 256 * numV l
theorem numV_lt (l : List UInt8) : numV l < 256 ^ l.length := by
  induction l with
  | nil => simp [numV]
  | cons x l ih =>
    have := UInt8.toNat_lt x
    simp only [numV, List.length_cons, Nat.pow_succ]
    omega
/-- a byte of a number -/
def byteV (n : Int) : UInt8 := UInt8.ofNat (n % 256).toNat
theorem byteV_nat (n : Int) : ((byteV n).toNat : Int) = n % 256 := by
  unfold byteV
  have h : (n % 256).toNat < 256 := by omega
  rw [UInt8.toNat_ofNat_of_lt' (by simpa using h)]
  omega
/-- so many bytes of a number -/
def leV : Nat → Int → List UInt8
  | 0, _ => []
  | k + 1, n => byteV n :: leV k (n / 256)
theorem leV_len (k : Nat) (n : Int) : (leV k n).length = k := by
  induction k generalizing n with
  | zero => rfl
  | succ k ih => simp [leV, ih]
theorem numV_leV (k : Nat) (n : Int) (h0 : 0 ≤ n) (h1 : n < 256 ^ k) : (numV (leV k n) : Int) = n := by
  induction k generalizing n with
  | zero => simp [leV, numV]; simp at h1; omega
  | succ k ih =>
    have e : ((256 : Int) ^ (k + 1)) = 256 ^ k * 256 := by rw [Int.pow_succ]
    rw [e] at h1
    have := ih (n / 256) (by omega) (by omega)
    simp only [leV, numV, Int.natCast_add, Int.natCast_mul, this, byteV_nat]
    omega
/-- segments as bytes -/
def segB (s : Seg) : List UInt8 := [byteV s.ref, byteV (s.first + 4 * s.last)]
def segsB : List Seg → List UInt8
  | [] => []
  | s :: l => segB s ++ segsB l
theorem segsB_len (l : List Seg) : (segsB l).length = 2 * l.length := by
  induction l with
  | nil => rfl
  | cons s l ih => simp [segsB, segB, ih]; omega
theorem segsB_app (a b : List Seg) : segsB (a ++ b) = segsB a ++ segsB b := by
  induction a with
  | nil => rfl
  | cons s a ih => simp [segsB, ih]
/-- a segment of two bytes -/
def segOf (x y : UInt8) : Seg := ⟨x.toNat, (y.toNat % 4 : Nat), (y.toNat / 4 : Nat)⟩
def segGood (s : Seg) : Bool := decide (s.last ≤ 3) && decide (s.first ≤ s.last)
/-- all segments of some bytes -/
def segsV : List UInt8 → List Seg
  | x :: y :: l => segOf x y :: segsV l
  | _ => []
theorem segsV_len (l : List UInt8) : (segsV l).length = l.length / 2 := by
  match l with
  | [] => rfl
  | [_] => simp [segsV]
  | x :: y :: l => simp only [segsV, List.length_cons, segsV_len l]; omega
theorem segsV_get : ∀ (l : List UInt8) (k : Nat), 2 * k + 1 < l.length → (segsV l)[k]? = some (segOf (l.getD (2 * k) 0) (l.getD (2 * k + 1) 0))
  | [], k, h => by simp at h
  | [_], k, h => by simp at h
  | x :: y :: l, 0, _ => by simp [segsV]
  | x :: y :: l, k + 1, h => by
    simp only [List.length_cons] at h
    simp only [segsV, List.getElem?_cons_succ]
    rw [segsV_get l k (by omega), show 2 * (k + 1) = 2 * k + 1 + 1 by omega]
    simp [List.getD]
def segsOk (l : List UInt8) : Bool := (segsV l).all segGood
/-- Segments: the segments and the error -/
def segsR (l : List UInt8) : List Seg × Int :=
  if l.length % 2 = 1 then ([], 1) else if segsOk l then (segsV l, 0) else ([], 4)
theorem segsV_app2 (l : List UInt8) (x y : UInt8) (h : l.length % 2 = 0) : segsV (l ++ [x, y]) = segsV l ++ [segOf x y] := by
  match l with
  | [] => rfl
  | [a] => simp at h
  | a :: b :: l =>
    simp only [List.cons_append, segsV]
    rw [segsV_app2 l x y (by simp only [List.length_cons] at h; omega)]
/-- what was packed is unpacked as itself -/
theorem segOf_segB (s : Seg) (h : s.ok = true) (hb : s.back = false) : segOf (byteV s.ref) (byteV (s.first + 4 * s.last)) = s ∧ segGood s = true := by
  obtain ⟨r, f, l⟩ := s
  simp only [Seg.ok, fitsV, Seg.back, Bool.and_eq_true, decide_eq_true_eq, decide_eq_false_iff_not] at h hb
  have e1 := byteV_nat r
  have e2 := byteV_nat (f + 4 * l)
  constructor
  · simp only [segOf, Seg.mk.injEq]
    omega
  · simp [segGood]; omega
theorem segsV_segsB (l : List Seg) (h : l.all Seg.ok = true) (hb : l.any Seg.back = false) : segsV (segsB l) = l ∧ segsOk (segsB l) = true := by
  induction l with
  | nil => exact ⟨rfl, rfl⟩
  | cons s l ih =>
    simp only [List.all_cons, Bool.and_eq_true, List.any_cons, Bool.or_eq_false_iff] at h hb
    obtain ⟨i1, i2⟩ := ih h.2 hb.2
    obtain ⟨j1, j2⟩ := segOf_segB s h.1 hb.1
    simp only [segsOk] at i2 ⊢
    simp [segsB, segB, segsV, i1, j1, j2]
    simpa [i1] using i2
/-- Pack: the bytes, those of the page, the error -/
def rqOk (r : Rq) (page : Int) : Bool := decide (0 ≤ r.op) && decide (r.op ≤ 2) && fitsV r.id 65536 && fitsV r.sec 4294967296 && r.segs.all Seg.ok && (decide (page = -1) || fitsV page 256)
def rqForm (r : Rq) (page : Int) : Bool := mayV r.op r.segs.length page && !r.segs.any Seg.back
def padV (l : List UInt8) : List UInt8 := l ++ List.replicate (16 - l.length) 0
def headV (op n : Int) (r : Rq) : List UInt8 := byteV op :: byteV n :: (leV 2 r.id ++ leV 4 r.sec)
def packB (r : Rq) (page : Int) : List UInt8 := if page = -1 then padV (headV r.op r.segs.length r ++ segsB r.segs) else padV (headV 3 r.segs.length r ++ [byteV page, byteV r.op])
def packP (r : Rq) (page : Int) : List UInt8 := if page = -1 then [] else segsB r.segs
def packE (r : Rq) (page : Int) : Int := if rqOk r page then (if rqForm r page then 0 else 4) else 1
/-- Unpack: the request, the page, how many, the error -/
def unpR (b : List UInt8) (op page : Int) : Rq × Int × Int × Int :=
  let n : Int := (b.getD 1 0).toNat
  if mayV op n page then
    if page = -1 then
      let s := segsR ((b.drop 8).take (2 * (b.getD 1 0).toNat))
      if s.2 = 0 then (⟨op, numV [b.getD 2 0, b.getD 3 0], numV [b.getD 4 0, b.getD 5 0, b.getD 6 0, b.getD 7 0], s.1⟩, page, n, 0) else (⟨0, 0, 0, []⟩, 0, 0, 4)
    else (⟨op, numV [b.getD 2 0, b.getD 3 0], numV [b.getD 4 0, b.getD 5 0, b.getD 6 0, b.getD 7 0], []⟩, page, n, 0)
  else (⟨0, 0, 0, []⟩, 0, 0, 4)
def unpV (b : List UInt8) : Rq × Int × Int × Int :=
  if b.length = 16 then
    if (b.getD 0 0).toNat = 3 then unpR b (b.getD 9 0).toNat (b.getD 8 0).toNat else unpR b (b.getD 0 0).toNat (-1)
  else (⟨0, 0, 0, []⟩, 0, 0, 1)
/-- a response -/
structure Rp where
  id : Int
  op : Int
  st : Int
deriving DecidableEq
def Rp.ok (p : Rp) : Bool := fitsV p.id 65536 && fitsV p.op 256 && fitsV p.st 256
def rpB (p : Rp) : List UInt8 := [byteV p.id, byteV (p.id / 256), byteV p.op, byteV p.st, 0, 0, 0, 0]
def unrV (b : List UInt8) : Rp × Int := if b.length = 8 then (⟨numV [b.getD 0 0, b.getD 1 0], (b.getD 2 0).toNat, (b.getD 3 0).toNat⟩, 0) else (⟨0, 0, 0⟩, 1)
theorem rp_back (p : Rp) (h : p.ok = true) : unrV (rpB p) = (p, 0) := by
  obtain ⟨i, o, s⟩ := p
  simp only [Rp.ok, fitsV, Bool.and_eq_true, decide_eq_true_eq] at h
  have e1 := byteV_nat i
  have e2 := byteV_nat (i / 256)
  have e3 := byteV_nat o
  have e4 := byteV_nat s
  simp only [unrV, rpB, List.length_cons, List.length_nil, if_true, numV, List.getD_cons_zero, List.getD_cons_succ, Prod.mk.injEq, and_true, Rp.mk.injEq]
  omega
end Go.Proofs.Ytfpemajbgnfflaa.Bk
