/- SamePacket of two equal packets. -/
import Derived.Test.YtpccpkjfnmclfaaEqual
import Derived.Test.YtpccpkjfnmclfaaCheck
import Derived.Test.YtpccpkjfnmclfaaBase
namespace Go.Proofs.Ytpccpkjfnmclfaa
open Go.RowKit

set_option maxRecDepth 100000 in
set_option maxHeartbeats 1000000 in
theorem same_yes (s : Int) (cm : Bool) (pt nm : Int) (A A' : Option Addr) (c c' : Nat) (l : List UInt8) (w : World) (hl : l.length ≤ 9223372036854775807) (h : BR w w.heap.size A l) (h' : BR w w.heap.size A' l) :
    Calls Try.prog 34 #[pv s cm pt nm A l.length c, pv s cm pt nm A' l.length c'] w fun e w' => e = .returned (.bool true) ∧ Below w.heap.size w w' := by
  have hq : ∀ o o' : Obj, Calls Try.prog 73 #[.slice A l.length c, .slice A' l.length c'] ((w.alloc o).alloc o') fun e w' => e = .returned (.bool true) ∧ Below w.heap.size w w' := by
    intro o o'
    have hb : Below w.heap.size w ((w.alloc o).alloc o') := ((Below.refl _ _).alloc (Nat.le_refl _) _).alloc (by simp) _
    have := equal_any A A' c c' l l w.heap.size ((w.alloc o).alloc o') hl hl (h.below hb) (h'.below hb)
    simp only [decide_true] at this
    exact this.mono fun e w' ⟨he, hb'⟩ => ⟨he, hb.trans (hb'.mono hb.size)⟩
  have HQ := Lib.hid hq
  clear hq
  unfold pv
  go_enter Try.func34, Try.ntmps34
  go_wp2_with fail
  refine (HQ.out _ _).mono ?_
  rintro e w1 ⟨rfl, hb1⟩
  go_wp2
  go_ret
  exact ⟨rfl, hb1⟩
end Go.Proofs.Ytpccpkjfnmclfaa
