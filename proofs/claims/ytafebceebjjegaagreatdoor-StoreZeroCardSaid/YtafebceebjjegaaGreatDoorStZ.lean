/-
  Package store: its calls on a store that nobody made.
-/
import Derived.Test.YtafebceebjjegaaGreatDoorRows
import Derived.Test.YtafebceebjjegaaGreatDoorGen
import Derived.WalkKit
import Derived.WalkSpells
import Derived.WalkLawsBesides
import Derived.Handy
import Derived.Carry
import Derived.BigQuiet
import Derived.Deep.QuietTactic
import Derived.Maps.OwnOps
import Derived.Lib.LazyBuf
set_option linter.unusedSimpArgs false
set_option linter.unusedVariables false
namespace Go.Proofs.YtafebceebjjegaaGreatDoor
open Go.RowKit Gen
set_option maxHeartbeats 1000000

/-- nobody made the store that p points to -/
def NoSt (w : World) (p : Option Addr) : Prop := p = none ∨ ∃ b, p = some ⟨b, 0, none⟩ ∧ w.cell? ⟨b, 0, none⟩ = some (.map none)
theorem NoSt.nil (w : World) : NoSt w none := .inl rfl
theorem NoSt.grown {w w' : World} {p : Option Addr} (h : NoSt w p) (hg : w.grownBy w' none) : NoSt w' p := by
  rcases h with h | ⟨b, h, hc⟩
  · exact .inl h
  · exact .inr ⟨b, h, hg.cell hc (by simp)⟩
theorem neq_tree (w : World) (r : Option Nat) : (binOp .neq 42 (.map r) (.map none)).run Tryz.prog w = .ok (.bool (!r.isNone)) w := run_neq_map_nil w _ _ _ r Tryz.underlying42
theorem zSmade (p : Option Addr) (w : World) (h : NoSt w p) : Calls Tryz.prog 41 #[.pointer p] w fun e w' => e = .returned (.bool false) ∧ w = w' := by
  rcases h with rfl | ⟨b, rfl, hc⟩
  · go_enter Tryz.func41, Tryz.ntmps41
    go_wp2
    go_ret
    exact ⟨rfl, rfl⟩
  · have hn := neq_tree w none
    go_enter Tryz.func41, Tryz.ntmps41
    go_wp2
    go_ret
    exact ⟨rfl, rfl⟩
theorem zSadmit (p : Option Addr) (d : Int) (w : World) (h : NoSt w p) : Calls Tryz.prog 37 #[.pointer p, .int .i64 d] w fun e w' => e = .returned (.int .i64 7) ∧ w = w' := by
  have H := hid (zSmade p w h)
  clear h
  go_enter Tryz.func37, Tryz.ntmps37
  go_wp2_with (go_at_call 41; refine H.out.mono ?_; rintro e w' ⟨rfl, rfl⟩)
  go_ret
  exact ⟨rfl, rfl⟩
theorem zSname (p : Option Addr) (d : Int) (s : ByteArray) (w : World) (h : NoSt w p) : Calls Tryz.prog 62 #[.pointer p, .int .i64 d, .string s] w fun e w' => e = .returned (.int .i64 7) ∧ w = w' := by
  have H := hid (zSadmit p d w h)
  clear h
  go_enter Tryz.func62, Tryz.ntmps62
  go_wp2_with (go_at_call 37; refine H.out.mono ?_; rintro e w' ⟨rfl, rfl⟩)
  go_ret
  exact ⟨rfl, rfl⟩
theorem zSdraft (p : Option Addr) (d t : Int) (s : ByteArray) (w : World) (h : NoSt w p) : Calls Tryz.prog 90 #[.pointer p, .int .i64 d, .int .i64 t, .string s] w fun e w' => e = .returned (.tuple #[.pointer none, .int .i64 7]) ∧ w = w' := by
  have H := hid (zSname p d s w h)
  clear h
  go_enter Tryz.func90, Tryz.ntmps90
  go_wp2_with (go_at_call 62; refine H.out.mono ?_; rintro e w' ⟨rfl, rfl⟩)
  go_ret2
  exact ⟨rfl, rfl⟩
theorem zSlook (p : Option Addr) (d t : Int) (s : ByteArray) (w : World) (h : NoSt w p) : Calls Tryz.prog 46 #[.pointer p, .int .i64 d, .int .i64 t, .string s] w fun e w' => e = .returned (.tuple #[.map none, .agg #[.slice none 0 0, .slice none 0 0, .slice none 0 0], .int .i64 7]) ∧ w.grownBy w' none := by
  have h1 := fun W (hg : w.grownBy W none) => zSdraft p d t s W (h.grown hg)
  have H := hid (h1 _ (World.grownBy_alloc w (.cells #[.slice none 0 0, .slice none 0 0, .slice none 0 0] 96) none))
  clear h h1
  go_enter Tryz.func46, Tryz.ntmps46
  go_wp2_with (go_at_call 90; refine H.out.mono ?_; rintro e w' ⟨rfl, rfl⟩)
  go_returns
  exact ⟨rfl, World.grownBy_alloc _ _ none⟩
theorem zClone (w : World) : Calls Tryz.prog 47 #[.slice none 0 0] w fun e w' => e = .returned (.slice none 0 0) ∧ w = w' := by
  have hn := Go.run_eql_slice_nil (P := Tryz.prog) w 26 _ none 0 0 Tryz.underlying26
  go_enter Tryz.func47, Tryz.ntmps47
  go_wp2
  go_ret
  exact ⟨rfl, rfl⟩
theorem zCloneP (w : World) : Calls Tryz.prog 50 #[.slice none 0 0] w fun e w' => e = .returned (.slice none 0 0) ∧ w = w' := by
  have hn := Go.run_eql_slice_nil (P := Tryz.prog) w 94 _ none 0 0 Tryz.underlying94
  go_enter Tryz.func50, Tryz.ntmps50
  go_wp2
  go_ret
  exact ⟨rfl, rfl⟩
theorem zSread (p : Option Addr) (d t : Int) (s : ByteArray) (w : World) (h : NoSt w p) : Calls Tryz.prog 15 #[.pointer p, .int .i64 d, .int .i64 t, .string s] w fun e w' => e = .returned (.tuple #[.slice none 0 0, .int .i64 7]) ∧ w.grownBy w' none := by
  have H := hid (zSlook p d t s w h)
  clear h
  go_enter Tryz.func15, Tryz.ntmps15
  go_wp2_with (first
    | (go_at_call 46; refine H.out.mono ?_; rintro e w1 ⟨rfl, g1⟩; have G1 := hid g1; clear g1)
    | (go_at_call 47; refine (zClone _).mono ?_; rintro e w' ⟨rfl, rfl⟩))
  go_ret2
  exact ⟨rfl, G1.out.trans (World.grownBy_alloc _ _ none)⟩
theorem zSperms (p : Option Addr) (d t : Int) (s : ByteArray) (w : World) (h : NoSt w p) : Calls Tryz.prog 17 #[.pointer p, .int .i64 d, .int .i64 t, .string s] w fun e w' => e = .returned (.tuple #[.slice none 0 0, .int .i64 7]) ∧ w.grownBy w' none := by
  have H := hid (zSlook p d t s w h)
  clear h
  go_enter Tryz.func17, Tryz.ntmps17
  go_wp2_with (first
    | (go_at_call 46; refine H.out.mono ?_; rintro e w1 ⟨rfl, g1⟩; have G1 := hid g1; clear g1)
    | (go_at_call 50; refine (zCloneP _).mono ?_; rintro e w' ⟨rfl, rfl⟩))
  go_ret2
  exact ⟨rfl, G1.out.trans (World.grownBy_alloc _ _ none)⟩
theorem zSlist (p : Option Addr) (d t : Int) (s : ByteArray) (w : World) (h : NoSt w p) : Calls Tryz.prog 16 #[.pointer p, .int .i64 d, .int .i64 t, .string s] w fun e w' => e = .returned (.tuple #[.slice none 0 0, .int .i64 7]) ∧ w.grownBy w' none := by
  have H := hid (zSlook p d t s w h)
  clear h
  go_enter Tryz.func16, Tryz.ntmps16
  go_wp2_with (go_at_call 46; refine H.out.mono ?_; rintro e w1 ⟨rfl, g1⟩; have G1 := hid g1; clear g1)
  go_ret2
  exact ⟨rfl, G1.out.trans (World.grownBy_alloc _ _ none)⟩
theorem zSbegin (p : Option Addr) (d : Int) (w : World) (h : NoSt w p) : Calls Tryz.prog 9 #[.pointer p, .int .i64 d] w fun e w' => e = .returned (.tuple #[.int .i64 0, .int .i64 7]) ∧ w = w' := by
  have H := hid (zSadmit p d w h)
  clear h
  go_enter Tryz.func9, Tryz.ntmps9
  go_wp2_with (go_at_call 37; refine H.out.mono ?_; rintro e w' ⟨rfl, rfl⟩)
  go_ret2
  exact ⟨rfl, rfl⟩
theorem zSnext (p : Option Addr) (d : Int) (w : World) (h : NoSt w p) : Calls Tryz.prog 18 #[.pointer p, .int .i64 d] w fun e w' => e = .returned (.tuple #[.agg #[.string ⟨#[]⟩, .string ⟨#[]⟩], .int .i64 7]) ∧ w.grownBy w' none := by
  have H := hid (zSadmit p d _ (h.grown (World.grownBy_alloc w (.cells #[.string ⟨#[]⟩, .string ⟨#[]⟩] 60) none)))
  clear h
  go_enter Tryz.func18, Tryz.ntmps18
  go_wp2_with (go_at_call 37; refine H.out.mono ?_; rintro e w' ⟨rfl, rfl⟩)
  go_returns
  exact ⟨rfl, World.grownBy_alloc _ _ none⟩
theorem zSchange (p : Option Addr) (d t : Int) (s : ByteArray) (f : Value) (w : World) (h : NoSt w p) : Calls Tryz.prog 52 #[.pointer p, .int .i64 d, .int .i64 t, .string s, f] w fun e w' => e = .returned (.int .i64 7) ∧ w = w' := by
  have H := hid (zSdraft p d t s w h)
  clear h
  go_enter Tryz.func52, Tryz.ntmps52
  go_wp2_with (go_at_call 90; refine H.out.mono ?_; rintro e w' ⟨rfl, rfl⟩)
  go_ret
  exact ⟨rfl, rfl⟩
theorem grown2 (w : World) (a b : Obj) : w.grownBy ((w.alloc a).alloc b) none := (World.grownBy_alloc w a none).trans (World.grownBy_alloc _ b none)
theorem grown3 (w : World) (a b c : Obj) : w.grownBy (((w.alloc a).alloc b).alloc c) none := (grown2 w a b).trans (World.grownBy_alloc _ c none)
theorem zSwrite (p : Option Addr) (d t : Int) (s : ByteArray) (q : Option Addr) (n c : Nat) (w : World) (h : NoSt w p) : Calls Tryz.prog 19 #[.pointer p, .int .i64 d, .int .i64 t, .string s, .slice q n c] w fun e w' => e = .returned (.int .i64 7) ∧ w.grownBy w' none := by
  have H := hid (fun f => zSchange p d t s f _ (h.grown (grown3 w (.cells #[.int .i64 d] 3) (.cells #[.string s] 9) (.cells #[.slice q n c] 26))))
  clear h
  go_enter Tryz.func19, Tryz.ntmps19
  go_wp2_with (go_at_call 52; refine (H.out _).mono ?_; rintro e w' ⟨rfl, rfl⟩)
  go_ret
  exact ⟨rfl, grown3 _ _ _ _⟩
theorem zSsetp (p : Option Addr) (d t : Int) (s : ByteArray) (q : Option Addr) (n c : Nat) (w : World) (h : NoSt w p) : Calls Tryz.prog 22 #[.pointer p, .int .i64 d, .int .i64 t, .string s, .slice q n c] w fun e w' => e = .returned (.int .i64 7) ∧ w.grownBy w' none := by
  have H := hid (fun f => zSchange p d t s f _ (h.grown (grown3 w (.cells #[.int .i64 d] 3) (.cells #[.string s] 9) (.cells #[.slice q n c] 27))))
  clear h
  go_enter Tryz.func22, Tryz.ntmps22
  go_wp2_with (go_at_call 52; refine (H.out _).mono ?_; rintro e w' ⟨rfl, rfl⟩)
  go_ret
  exact ⟨rfl, grown3 _ _ _ _⟩
theorem zSmake (p : Option Addr) (d t : Int) (s : ByteArray) (w : World) (h : NoSt w p) : Calls Tryz.prog 20 #[.pointer p, .int .i64 d, .int .i64 t, .string s] w fun e w' => e = .returned (.int .i64 7) ∧ w.grownBy w' none := by
  have H := hid (fun f => zSchange p d t s f _ (h.grown (grown2 w (.cells #[.int .i64 d] 3) (.cells #[.string s] 9))))
  clear h
  go_enter Tryz.func20, Tryz.ntmps20
  go_wp2_with (go_at_call 52; refine (H.out _).mono ?_; rintro e w' ⟨rfl, rfl⟩)
  go_ret
  exact ⟨rfl, grown2 _ _ _⟩
theorem zSremove (p : Option Addr) (d t : Int) (s : ByteArray) (w : World) (h : NoSt w p) : Calls Tryz.prog 21 #[.pointer p, .int .i64 d, .int .i64 t, .string s] w fun e w' => e = .returned (.int .i64 7) ∧ w.grownBy w' none := by
  have H := hid (fun f => zSchange p d t s f _ (h.grown (grown2 w (.cells #[.int .i64 d] 3) (.cells #[.string s] 9))))
  clear h
  go_enter Tryz.func21, Tryz.ntmps21
  go_wp2_with (go_at_call 52; refine (H.out _).mono ?_; rintro e w' ⟨rfl, rfl⟩)
  go_ret
  exact ⟨rfl, grown2 _ _ _⟩
theorem zSend (p : Option Addr) (d t : Int) (b : Bool) (w : World) (h : NoSt w p) : Calls Tryz.prog 11 #[.pointer p, .int .i64 d, .int .i64 t, .bool b] w fun e w' => e = .returned (.int .i64 7) ∧ w = w' := by
  have H := hid (zSadmit p d w h)
  clear h
  go_enter Tryz.func11, Tryz.ntmps11
  go_wp2_with (go_at_call 37; refine H.out.mono ?_; rintro e w' ⟨rfl, rfl⟩)
  go_ret
  exact ⟨rfl, rfl⟩
theorem zSwatch (p : Option Addr) (d : Int) (s t : ByteArray) (w : World) (h : NoSt w p) : Calls Tryz.prog 23 #[.pointer p, .int .i64 d, .string s, .string t] w fun e w' => e = .returned (.int .i64 7) ∧ w = w' := by
  have H := hid (zSname p d s w h)
  clear h
  go_enter Tryz.func23, Tryz.ntmps23
  go_wp2_with (go_at_call 62; refine H.out.mono ?_; rintro e w' ⟨rfl, rfl⟩)
  go_ret
  exact ⟨rfl, rfl⟩
theorem zSunwatch (p : Option Addr) (d : Int) (s t : ByteArray) (w : World) (h : NoSt w p) : Calls Tryz.prog 24 #[.pointer p, .int .i64 d, .string s, .string t] w fun e w' => e = .returned (.int .i64 7) ∧ w = w' := by
  have H := hid (zSname p d s w h)
  clear h
  go_enter Tryz.func24, Tryz.ntmps24
  go_wp2_with (go_at_call 62; refine H.out.mono ?_; rintro e w' ⟨rfl, rfl⟩)
  go_ret
  exact ⟨rfl, rfl⟩
theorem zSdrop (p : Option Addr) (d : Int) (w : World) (h : NoSt w p) : Calls Tryz.prog 25 #[.pointer p, .int .i64 d] w fun e w' => e = .returned (.int .i64 7) ∧ w.grownBy w' none := by
  have H := hid (zSadmit p d _ (h.grown (World.grownBy_alloc w (.cells #[.int .i64 d] 3) none)))
  clear h
  go_enter Tryz.func25, Tryz.ntmps25
  go_wp2_with (go_at_call 37; refine H.out.mono ?_; rintro e w' ⟨rfl, rfl⟩)
  go_ret
  exact ⟨rfl, World.grownBy_alloc _ _ none⟩
theorem zSwaiting (p : Option Addr) (d : Int) (w : World) (h : NoSt w p) : Calls Tryz.prog 26 #[.pointer p, .int .i64 d] w fun e w' => e = .returned (.slice none 0 0) ∧ w = w' := by
  have H := hid (zSadmit p d w h)
  clear h
  go_enter Tryz.func26, Tryz.ntmps26
  go_wp2_with (go_at_call 37; refine H.out.mono ?_; rintro e w' ⟨rfl, rfl⟩)
  go_ret
  exact ⟨rfl, rfl⟩
theorem zSnodes (p : Option Addr) (w : World) (h : NoSt w p) : Calls Tryz.prog 27 #[.pointer p] w fun e w' => e = .returned (.slice none 0 0) ∧ w = w' := by
  have H := hid (zSmade p w h)
  clear h
  go_enter Tryz.func27, Tryz.ntmps27
  go_wp2_with (go_at_call 41; refine H.out.mono ?_; rintro e w' ⟨rfl, rfl⟩)
  go_ret
  exact ⟨rfl, rfl⟩
theorem zSgen (p : Option Addr) (w : World) (h : NoSt w p) : Calls Tryz.prog 10 #[.pointer p] w fun e w' => e = .returned (.int .i64 0) ∧ w = w' := by
  have H := hid (zSmade p w h)
  clear h
  go_enter Tryz.func10, Tryz.ntmps10
  go_wp2_with (go_at_call 41; refine H.out.mono ?_; rintro e w' ⟨rfl, rfl⟩)
  go_ret
  exact ⟨rfl, rfl⟩
end Go.Proofs.YtafebceebjjegaaGreatDoor
