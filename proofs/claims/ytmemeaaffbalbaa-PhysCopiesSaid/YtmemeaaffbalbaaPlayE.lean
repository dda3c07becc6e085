/-
  Contract of play, any call; a row of calls that came in.
-/
import Derived.Test.YtmemeaaffbalbaaPlayD
import Derived.Deep.Slices
import Derived.Deep.Fields
import Derived.ChangeSame
import Derived.SizedLaws
namespace Go.Proofs.Ytmemeaaffbalbaa
open Go.RowKit Go.ChangeShapes Go.WideShapes Go.Deep
set_option maxHeartbeats 1000000

/-- an Op as a value -/
structure OpV where
  x : Int
  a : Int
  c : Int
  d : Int
  pa : Option Addr
  cap : Nat
  l : List UInt8
def OpV.val (o : OpV) : Value := .agg #[.int .i64 o.x, .int .i64 o.a, .int .i64 o.c, .int .i64 o.d, .slice o.pa o.l.length o.cap]
/-- what is asked of one -/
structure OpV.ok (o : OpV) : Prop where
  c : o.c ≤ 9223372036854775807
  d : o.d ≤ 9223372036854775807
  l : o.l.length ≤ 140737488351232
theorem play_any (o : OpV) (ho : o.ok) (B b : Nat) (w : World) (M : Mach) (L : Lay) (T : Int) (hP : Pair w B b M L) (hok : M.ok T) (hT : T < 9223372036854775807) (hsrc : Src w B b L o.pa o.l) :
    Calls Try.prog 17 #[.pointer (some ⟨B, 0, none⟩), .pointer (some ⟨b, 0, none⟩), o.val] w fun e w' => e = .returned (.bool true) ∧ Played B b M L T w w' := by
  obtain ⟨x, a, c, d, pa, cap, l⟩ := o
  obtain ⟨hc, hd, hl⟩ := ho
  unfold OpV.val
  by_cases h0 : x = 0
  · subst h0; exact play_alloc B b a c d _ w M L T hP hok
  by_cases h1 : x = 1
  · subst h1; exact play_free B b a c d _ w M L T hP hok
  by_cases h2 : x = 2
  · subst h2; exact play_give B b a c d _ w M L T hP hok
  by_cases h3 : x = 3
  · subst h3; exact play_get B b a c d _ w M L T hP hok hT
  by_cases h4 : x = 4
  · subst h4; exact play_put B b a c d _ w M L T hP hok hT
  by_cases h5 : x = 5
  · subst h5; exact play_read B b a c d _ w M L T hP hok hc hd
  exact play_write B b x a c d pa cap l w M L T hP hok hc hl hsrc (by simp [h0]) (by simp [h1]) (by simp [h2]) (by simp [h3]) (by simp [h4]) (by simp [h5])
end Go.Proofs.Ytmemeaaffbalbaa
