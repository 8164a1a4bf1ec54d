/- the parts of spreading: what a number stands for, a beginning that is cut off. -/
import Derived.Test.YtdcnpbdkhcdinaaSpW
import Derived.Test.YtdcnpbdkhcdinaaBytesEq
namespace Go.Proofs.Ytdcnpbdkhcdinaa
open Go.RowKit

set_option maxRecDepth 100000 in
set_option maxHeartbeats 400000 in
theorem signed_any (n : Nat) (w : World) (hn : n < 34359738368) :
    Calls Try.prog 74 #[.int .i64 n] w fun e w' => e = .returned (.int .i64 (sgnN n)) ∧ w = w' := by
  have n0 : (0 : Int) ≤ (n : Int) := by omega
  by_cases h : n % 2 = 1
  · have e1 : (n : Int) % 2 = 1 := by omega
    have hs : sgnN n = -(((n + 1) / 2 : Nat) : Int) := by unfold sgnN; rw [if_pos h]
    obtain ⟨q, hq⟩ : ∃ q, (n + 1) / 2 = q := ⟨_, rfl⟩
    have hnq : (n : Int) + 1 = 2 * (q : Int) := by omega
    rw [hq] at hs
    have e3 : (-((n : Int) + 1)).tdiv 2 = -(q : Int) := by rw [hnq, Int.neg_tdiv, Int.mul_tdiv_cancel_left _ (by omega)]
    have e4 : wrap64 (-(q : Int)) = -(q : Int) := IntWalk.wrap64_in _ (by omega)
    have HS := Lib.hid hs
    clear h hs hq hnq
    go_enter Try.func74, Try.ntmps74
    go_wp2_with fail
    go_ret
    exact ⟨by rw [HS.out]; simp [e4], rfl⟩
  · have e1 : (n : Int) % 2 = 0 := by omega
    have hs : sgnN n = ((n / 2 : Nat) : Int) := by unfold sgnN; rw [if_neg h]
    have HS := Lib.hid hs
    clear h hs
    go_enter Try.func74, Try.ntmps74
    go_wp2_with fail
    go_ret
    exact ⟨by rw [HS.out]; rfl, rfl⟩
set_option maxRecDepth 100000 in
set_option maxHeartbeats 1000000 in
theorem hasPrefix_any (A A2 : Option Addr) (b : List UInt8) (c c2 B : Nat) (w : World) (hbl : b.length ≤ 9223372036854775807) (hbc : b.length ≤ c) (h : BR w B A b) (h2 : BR w B A2 [128, 0]) :
    Calls Try.prog 88 #[.slice A b.length c, .slice A2 2 c2] w fun e w' => e = .returned (.bool (decide (b.take 2 = [128, 0]))) ∧ w = w' := by
  by_cases hl : 2 ≤ b.length
  · have i2 : (2 : Int) ≤ (b.length : Int) := by omega
    have htl : (b.take 2).length = 2 := by simp; omega
    have hq := bytesEqual_any A A2 c c2 (b.take 2) [128, 0] B w (h.front 2) h2
    rw [htl] at hq
    have HQ := Lib.hid hq
    have hc2 : 2 ≤ c := by omega
    clear hq htl
    generalize decide (b.take 2 = [128, 0]) = D at *
    have hl2 : ([128, 0] : List UInt8).length = 2 := rfl
    rw [hl2] at HQ
    go_enter Try.func88, Try.ntmps88
    go_wp2_with fail
    refine HQ.out.mono ?_
    rintro e w' ⟨rfl, rfl⟩
    go_wp2_with fail
    all_goals
      go_ret
      exact ⟨rfl, rfl⟩
  · have i2 : ¬ (2 : Int) ≤ (b.length : Int) := by omega
    have hD : Hid (decide (b.take 2 = [128, 0]) = false) := Lib.hid (decide_eq_false (fun e => by have := congrArg List.length e; simp at this; omega))
    generalize decide (b.take 2 = [128, 0]) = D at *
    go_enter Try.func88, Try.ntmps88
    go_wp2_with fail
    all_goals
      go_ret
      exact ⟨by rw [hD.out]; first | done | rfl, rfl⟩
set_option maxRecDepth 100000 in
set_option maxHeartbeats 1000000 in
theorem cut_yes (ad : Addr) (A2 : Option Addr) (b : List UInt8) (c c2 B : Nat) (w : World) (hbl : b.length ≤ 9223372036854775807) (hbc : b.length ≤ c) (h : BR w B (some ad) b) (h2 : BR w B A2 [128, 0]) (hy : b.take 2 = [128, 0]) :
    Calls Try.prog 73 #[.slice (some ad) b.length c, .slice A2 2 c2] w fun e w' => e = .returned (.tuple #[.slice (if c = 2 then some ad else some (ad.add 2)) (b.length - 2) (c - 2), .bool true]) ∧ w = w' := by
  have HH := Lib.hid (hasPrefix_any (some ad) A2 b c c2 B w hbl hbc h h2)
  rw [decide_eq_true hy] at HH
  have hl : 2 ≤ b.length := by have := congrArg List.length hy; simp at this; omega
  have i2 : (2 : Int) ≤ (b.length : Int) := by omega
  have hc2 : 2 ≤ c := by omega
  clear hy
  go_enter Try.func73, Try.ntmps73
  go_wp2_with fail
  refine HH.out.mono ?_
  rintro e w' ⟨rfl, rfl⟩
  go_wp2_with fail
  all_goals
    go_ret2
    simp_all
set_option maxRecDepth 100000 in
set_option maxHeartbeats 1000000 in
theorem cut_no (A A2 : Option Addr) (b : List UInt8) (c c2 B : Nat) (w : World) (hbl : b.length ≤ 9223372036854775807) (hbc : b.length ≤ c) (h : BR w B A b) (h2 : BR w B A2 [128, 0]) (hy : ¬ b.take 2 = [128, 0]) :
    Calls Try.prog 73 #[.slice A b.length c, .slice A2 2 c2] w fun e w' => e = .returned (.tuple #[.slice A b.length c, .bool false]) ∧ w = w' := by
  have HH := Lib.hid (hasPrefix_any A A2 b c c2 B w hbl hbc h h2)
  rw [decide_eq_false hy] at HH
  clear hy
  go_enter Try.func73, Try.ntmps73
  go_wp2_with fail
  refine HH.out.mono ?_
  rintro e w' ⟨rfl, rfl⟩
  go_wp2_with fail
  go_ret2
  exact ⟨rfl, rfl⟩
end Go.Proofs.Ytdcnpbdkhcdinaa
