/- Bytes of the program and of the reference: the same for every packet. -/
import Derived.Test.YtpccpkjfnmclfaaRBytes
namespace Go.Proofs.Ytpccpkjfnmclfaa
open Go.RowKit

def outBytes (s : Int) (cm : Bool) (pt nm : Int) (l : List UInt8) : List UInt8 := if ckP s pt nm l.length = 0 then pBytes s.toNat cm pt.toNat nm.toNat l else []
theorem ckP_zero {s pt nm : Int} {n : Nat} (h : ckP s pt nm n = 0) : (0 ≤ s ∧ s ≤ 2047) ∧ (0 ≤ pt ∧ pt ≤ 3) ∧ (0 ≤ nm ∧ nm ≤ 16383) ∧ 0 < n ∧ n ≤ 1000 := by
  unfold ckP at h
  repeat' split at h
  all_goals first | omega | (simp at h)
theorem nat_of {z : Int} (h : 0 ≤ z) : ∃ n : Nat, z = n := ⟨z.toNat, by omega⟩

set_option maxRecDepth 100000 in
set_option maxHeartbeats 1000000 in
theorem bytes_any (s : Int) (cm : Bool) (pt nm : Int) (A : Option Addr) (cap : Nat) (l : List UInt8) (w : World) (h : BR w w.heap.size A l) :
    Calls Try.prog 26 #[pv s cm pt nm A l.length cap] w fun e w' => ∃ v, e = .returned (.tuple #[v, .int .i64 (ckP s pt nm l.length)]) ∧ Own w' w.heap.size v (outBytes s cm pt nm l) ∧ Below w.heap.size w w' := by
  by_cases hck : ckP s pt nm l.length = 0
  · obtain ⟨⟨a1, a2⟩, ⟨b1, b2⟩, ⟨c1, c2⟩, d1, d2⟩ := ckP_zero hck
    obtain ⟨S, rfl⟩ := nat_of a1
    obtain ⟨PT, rfl⟩ := nat_of b1
    obtain ⟨NM, rfl⟩ := nat_of c1
    have HO : Hid (outBytes S cm PT NM l = pBytes S cm PT NM l) := by unfold Hid outBytes; rw [if_pos hck]; simp
    have hc := check_any S cm PT NM A l.length cap
    rw [hck] at hc ⊢
    have HC := Lib.hid hc
    clear hc hck a1 b1 c1
    unfold pv at HC ⊢
    go_enter Try.func26, Try.ntmps26
    go_wp2_with fail
    refine (HC.out _).mono ?_
    rintro e w1 ⟨rfl, hb1⟩
    have hc1 := fun k => Below.at_ hb1 w.heap.size (by simp) k
    have hs1 : w.heap.size + 1 ≤ w1.heap.size := by have := hb1.size; simpa using this
    have hb0 : Below w.heap.size w w1 := ((Below.refl _ _).alloc (Nat.le_refl _) _).trans (hb1.mono (by simp))
    have h1 := (h.below hb0).lift hb0.size
    clear hb1
    go_wp2_with fail
    refine (packetBytes_any S cm PT NM A cap l _ (by omega) (by omega) (by omega) (by omega) h1).mono ?_
    rintro e w2 ⟨v2, rfl, ho2, hb2⟩
    go_wp2
    go_ret2
    exact ⟨v2, rfl, by rw [HO.out]; exact ho2.lower hb0.size, hb0.trans (hb2.mono hb0.size)⟩
  · have HO : Hid (outBytes s cm pt nm l = []) := by unfold Hid outBytes; rw [if_neg hck]
    have hc := check_any s cm pt nm A l.length cap
    have hne : (ckP s pt nm l.length != 0) = true := by simpa using hck
    generalize ckP s pt nm l.length = F at *
    have HC := Lib.hid hc
    clear hc hck
    unfold pv at HC ⊢
    go_enter Try.func26, Try.ntmps26
    go_wp2_with fail
    refine (HC.out _).mono ?_
    rintro e w1 ⟨rfl, hb1⟩
    have hb0 : Below w.heap.size w w1 := ((Below.refl _ _).alloc (Nat.le_refl _) _).trans (hb1.mono (by simp))
    clear hb1
    go_wp2
    go_ret2
    exact ⟨_, rfl, by rw [HO.out]; exact Own.nil _ _, hb0⟩

end Go.Proofs.Ytpccpkjfnmclfaa
