/- the bytes of a packet, made by the program. -/
import Derived.Test.YtpccpkjfnmclfaaSum
import Derived.Test.YtpccpkjfnmclfaaCheck
import Derived.Test.YtpccpkjfnmclfaaBase

namespace Go.Proofs.Ytpccpkjfnmclfaa
open Go.RowKit

def pHead (s : Nat) (cm : Bool) (pt nm : Nat) (l : List UInt8) : List UInt8 := two (if cm then s + 4096 else s) ++ two (pt * 16384 + nm) ++ two (l.length + 1) ++ l
def pBytes (s : Nat) (cm : Bool) (pt nm : Nat) (l : List UInt8) : List UInt8 := pHead s cm pt nm l ++ two (crcN (pHead s cm pt nm l))
theorem two_len (n : Nat) : (two n).length = 2 := rfl
theorem pHead_len (s : Nat) (cm : Bool) (pt nm : Nat) (l : List UInt8) : (pHead s cm pt nm l).length = l.length + 6 := by simp [pHead, two_len]; omega
theorem pBytes_len (s : Nat) (cm : Bool) (pt nm : Nat) (l : List UInt8) : (pBytes s cm pt nm l).length = l.length + 8 := by simp [pBytes, two_len, pHead_len]
theorem or_place (pt nm : Nat) (h1 : pt < 65536) (h2 : nm < 16384) : bits .or .i64 ((pt : Int) * 16384) (nm : Int) = ((pt * 16384 + nm : Nat) : Int) := by
  have := or64 (pt * 16384) nm (by omega) (by omega)
  rw [Int.natCast_mul] at this
  rw [show ((pt : Int) * 16384) = (pt : Int) * ((16384 : Nat) : Int) by rfl, this]
  have h := Nat.two_pow_add_eq_or_of_lt (i := 14) (b := nm) (by omega) pt
  rw [show pt * 16384 = 2 ^ 14 * pt by omega, ← h]

set_option maxHeartbeats 400000 in
theorem packetSize_any (s : Int) (cm : Bool) (pt nm : Int) (A : Option Addr) (n cap : Nat) (w : World) (hn : n ≤ 140737488355328) :
    Calls Try.prog 92 #[pv s cm pt nm A n cap] w fun e w' => e = .returned (.int .i64 (8 + n : Nat)) ∧ Below w.heap.size w w' := by
  unfold pv
  go_enter Try.func92, Try.ntmps92
  go_wp2
  go_ret
  exact ⟨ret_int (by omega), (Below.refl _ _).alloc (Nat.le_refl _) _⟩

theorem sumOwn_any (base : Nat) (v : Value) (l : List UInt8) (w : World) (hl : l.length ≤ 9223372036854775807) (h : Own w base v l) :
    Calls Try.prog 39 #[v] w fun e w' => e = .returned (.int .i64 (crc l)) ∧ w = w' := by
  obtain ⟨A, c, rfl, hB⟩ := h.form
  exact sum_any A c l _ w hl hB
set_option maxRecDepth 100000 in
set_option maxHeartbeats 2000000 in
theorem packetBytes_any (s : Nat) (cm : Bool) (pt nm : Nat) (A : Option Addr) (cap : Nat) (l : List UInt8) (w : World) (h1 : s ≤ 2047) (h2 : pt ≤ 3) (h3 : nm ≤ 16383) (h4 : l.length ≤ 1000) (h : BR w w.heap.size A l) :
    Calls Try.prog 64 #[pv s cm pt nm A l.length cap] w fun e w' => ∃ v, e = .returned v ∧ Own w' w.heap.size v (pBytes s cm pt nm l) ∧ Below w.heap.size w w' := by
  have hor := or_place pt nm (by omega) (by omega)
  obtain ⟨_, i0, z0, hi, hz0, hz1, hz2, hz3, -⟩ := elem8
  have HZ := Lib.hid hz0
  have HZ1 := Lib.hid hz1
  have HZ2 := Lib.hid hz2
  have HI := Lib.hid hi
  clear hz0 hz1 hz2 hz3 hi
  have HL : Hid (8 + l.length ≤ 1008) := by unfold Hid; omega
  obtain ⟨S, hS⟩ : ∃ S : Nat, S = if cm then s + 4096 else s := ⟨_, rfl⟩
  have hP : pHead s cm pt nm l = ((two S ++ two (pt * 16384 + nm)) ++ two (l.length + 1)) ++ l := by rw [hS]; rfl
  have hPl := pHead_len s cm pt nm l
  have HPL : Hid (pBytes s cm pt nm l = pHead s cm pt nm l ++ two (crcN (pHead s cm pt nm l))) := rfl
  generalize pBytes s cm pt nm l = PB at *
  generalize pHead s cm pt nm l = PH at *
  have HP := Lib.hid hP
  have HPl := Lib.hid hPl
  have HS := Lib.hid hS
  clear hP hPl hS
  cases cm
  all_goals
    unfold pv
    go_enter Try.func64, Try.ntmps64
    go_wp2_with fail
    refine (packetSize_any s _ pt nm A l.length cap _ (by omega)).mono ?_
    rintro e w1 ⟨rfl, hb1⟩
    have hc1 := fun k => Below.at_ hb1 w.heap.size (by simp) k
    have hs1 : w.heap.size + 1 ≤ w1.heap.size := by have := hb1.size; simpa using this
    simp only [World.size_alloc] at hb1
    go_wp2_with (first | (at_make; refine wpList_make_own _ rfl _ _ 22 rfl (w.heap.size + 1) 5 i0 z0 1 Try.underlying22 HI.out HZ.out HZ1.out .i64 .i64 _ (8 + l.length) rfl rfl (by omega) (by rw [HZ2.out]; have := HL.out; omega) (by have := HL.out; unfold maxLen; omega) hs1 ?_; intro w2 hown2 hgrow2) | fail)
    have ho2 : Own w2 (w.heap.size + 1) _ [] := hown2
    have hb2 := hb1.grown hgrow2 hs1 (fun k hk => by cases hk)
    have hs2 : w.heap.size + 1 ≤ w2.heap.size := by have := hgrow2.size; omega
    clear hown2 hgrow2 hc1
    refine (appendTwo_any _ _ _ _ S _ (by have := HS.out; simp at this; unfold Hid; omega) (by simp) ho2 hs2).mono ?_
    rintro e w3 ⟨v3, rfl, ho3, hn3⟩
    have hb3 := hn3.below ho2 hb2 hs2
    have hs3 : w.heap.size + 1 ≤ w3.heap.size := by have := hn3.1.size; omega
    have hc3 := fun k => Below.at_ hb3 w.heap.size (by simp) k
    clear hn3 ho2 hb2
    go_wp2_with fail
    refine (appendTwo_any _ _ _ _ (pt * 16384 + nm) _ (Lib.hid (by omega)) (by simp [two_len]) ho3 hs3).mono ?_
    rintro e w4 ⟨v4, rfl, ho4, hn4⟩
    have hb4 := hn4.below ho3 hb3 hs3
    have hs4 : w.heap.size + 1 ≤ w4.heap.size := by have := hn4.1.size; omega
    have hc4 := fun k => Below.at_ hb4 w.heap.size (by simp) k
    clear hn4 ho3 hb3 hc3
    go_wp2_with fail
    refine (appendTwo_any _ _ _ _ (l.length + 1) _ (Lib.hid (by omega)) (by simp [two_len]) ho4 hs4).mono ?_
    rintro e w5 ⟨v5, rfl, ho5, hn5⟩
    have hb5 := hn5.below ho4 hb4 hs4
    have hs5 : w.heap.size + 1 ≤ w5.heap.size := by have := hn5.1.size; omega
    have hc5 := fun k => Below.at_ hb5 w.heap.size (by simp) k
    have hw5 : Below w.heap.size w w5 := ((Below.refl _ _).alloc (Nat.le_refl _) _).trans (hb5.mono (by omega))
    have h5 := h.below hw5
    clear hn5 ho4 hb4 hc4
    have HL5 : Hid ((([] ++ two S ++ two (pt * 16384 + nm)) ++ two (l.length + 1)).length = 6) := by unfold Hid; simp [two_len]
    go_wp2_with (first | (at_builtin; refine wpList_app _ rfl (.tmp 31) (.tmp 33) 22 5 1 1 rfl elem8 (w.heap.size + 1) v5 _ _ rfl ho5 w.heap.size A l.length cap (l.map bv) rfl (by simp) h5 (bv_one _) (by rw [HL5.out]; unfold maxLen; omega) (by rw [HL5.out]; omega) hs5 ?_; intro v6 w6 hown6 hgrow6 hat6) | fail)
    have ho6 : Own w6 (w.heap.size + 1) v6 PH := by
      rw [HP.out]
      exact Own.of hown6 rfl
    have hb6 := hb5.grown hgrow6 hs5 (fun k hk => (ho5.lt k hk).1)
    have hs6 : w.heap.size + 1 ≤ w6.heap.size := by have := hgrow6.size; omega
    have HL6 : Hid (PH.length ≤ 1006) := by unfold Hid; have := HPl.out; omega
    clear hown6 hgrow6 hat6 ho5 hb5 h5 hc5
    refine (sumOwn_any _ _ _ _ (by have := HL6.out; omega) ho6).mono ?_
    rintro e w7 ⟨rfl, rfl⟩
    go_wp2_with fail
    refine (appendTwo_any _ _ _ _ (crcN PH) _ (Lib.hid rfl) (by have := HL6.out; omega) ho6 hs6).mono ?_
    rintro e w8 ⟨v8, rfl, ho8, hn8⟩
    have hb8 := hn8.below ho6 hb6 hs6
    go_wp2
    go_ret
    refine ⟨v8, rfl, ?_, ((Below.refl _ _).alloc (Nat.le_refl _) _).trans (hb8.mono (by omega))⟩
    rw [HPL.out]
    exact ho8.lower (by omega)
end Go.Proofs.Ytpccpkjfnmclfaa
