/- rows of values, squeezed: plain mathematics. -/
import Derived.Test.YtdcnpbdkhcdinaaAppend
import Derived.Test.YtdcnpbdkhcdinaaBigNum
import Derived.Test.YtdcnpbdkhcdinaaBigApp
namespace Go.Proofs.Ytdcnpbdkhcdinaa
open Go.RowKit

def zigN (n : Int) : Nat := if n < 0 then (-2 * n - 1).toNat else (2 * n).toNat
/-- a number in groups of 7 bits, the lowest ones first -/
def grpN (n : Nat) : List UInt8 := if 127 < n then UInt8.ofNat (n % 128 + 128) :: grpN (n / 128) else [UInt8.ofNat n]
termination_by n
theorem grp_more {n : Nat} (h : 127 < n) : grpN n = UInt8.ofNat (n % 128 + 128) :: grpN (n / 128) := by rw [grpN, if_pos h]
theorem grp_last {n : Nat} (h : ¬ 127 < n) : grpN n = [UInt8.ofNat n] := by rw [grpN, if_neg h]
theorem grp_len : ∀ (k n : Nat), n < 128 ^ (k + 1) → (grpN n).length ≤ k + 1
  | 0, n, h => by rw [grp_last (by simp at h; omega)]; simp
  | k + 1, n, h => by
    by_cases h1 : 127 < n
    · rw [grp_more h1]
      have : n / 128 < 128 ^ (k + 1) := by
        rw [Nat.div_lt_iff_lt_mul (by omega)]
        rw [Nat.pow_succ] at h
        exact h
      have := grp_len k (n / 128) this
      simp; omega
    · rw [grp_last h1]; simp
/-- how many are the one before -/
def sameN (before : Int) : List Int → Nat
  | [] => 0
  | x :: l => if x = before then sameN before l + 1 else 0
theorem same_le (before : Int) : ∀ l, sameN before l ≤ l.length
  | [] => by simp [sameN]
  | x :: l => by
    unfold sameN
    split
    · have := same_le before l; simp; omega
    · omega
/-- the bytes of values behind a value -/
def sqz (before : Int) (l : List Int) : List UInt8 :=
  match l with
  | [] => []
  | x :: r => if 3 ≤ sameN before (x :: r) then [128, 0] ++ grpN (sameN before (x :: r)) ++ sqz before ((x :: r).drop (sameN before (x :: r))) else grpN (zigN (x - before)) ++ sqz x r
termination_by l.length
decreasing_by
  · simp; omega
  · simp
theorem sqz_row {before : Int} {l : List Int} (h : 3 ≤ sameN before l) : sqz before l = [128, 0] ++ grpN (sameN before l) ++ sqz before (l.drop (sameN before l)) := by
  match l with
  | [] => simp [sameN] at h
  | x :: r => rw [sqz, if_pos h]
theorem sqz_one {before x : Int} {r : List Int} (h : ¬ 3 ≤ sameN before (x :: r)) : sqz before (x :: r) = grpN (zigN (x - before)) ++ sqz x r := by rw [sqz, if_neg h]
def meaB (n : Int) : Bool := decide (-1000000000 ≤ n ∧ n ≤ 1000000000)
def sqF (l : List Int) : Int := if 5000 < l.length then 2 else if l.all meaB = true then 0 else 1
def sqR (l : List Int) : List UInt8 := if sqF l = 0 then bigE l.length 2 ++ sqz 0 l else []
theorem zig_lt {n : Int} (h1 : -2000000000 ≤ n) (h2 : n ≤ 2000000000) : zigN n < 34359738368 := by unfold zigN; split <;> omega
end Go.Proofs.Ytdcnpbdkhcdinaa
