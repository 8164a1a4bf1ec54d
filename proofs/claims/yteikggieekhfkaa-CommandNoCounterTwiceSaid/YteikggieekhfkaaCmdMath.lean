/- boards and commands as numbers: what a board becomes by a command. -/
import Derived.Test.YteikggieekhfkaaAppend
namespace Go.Proofs.Yteikggieekhfkaa
open Go.RowKit

structure Upl where
  n : Int
  v : Int
  L : Bool
  R : Bool
  T : Bool
  k : Int
/-- a board as a value -/
def uplV (n v : Int) (L R T : Bool) (k : Int) : Value := .agg #[.int .i64 n, .int .i64 v, .bool L, .bool R, .bool T, .int .i64 k]
def Upl.val (b : Upl) : Value := uplV b.n b.v b.L b.R b.T b.k
/-- the fault of a board -/
def brdS (n v k : Int) : Int := if 0 ≤ n ∧ n ≤ 255 then (if v.tmod 2 = 0 then (if 2 ≤ v ∧ v ≤ 254 then (if 0 ≤ k ∧ k ≤ 1000000 then 0 else 1) else 1) else 1) else 1
structure BrdOk (n v k : Int) : Prop where
  n0 : 0 ≤ n
  n1 : n ≤ 255
  v0 : 2 ≤ v
  v1 : v ≤ 254
  ev : v.tmod 2 = 0
  k0 : 0 ≤ k
  k1 : k ≤ 1000000
theorem brd_ok {n v k : Int} (h : brdS n v k = 0) : BrdOk n v k := by
  unfold brdS at h
  repeat' split at h
  all_goals first | (simp at h; done) | skip
  rename_i a b c d
  exact ⟨a.1, a.2, c.1, c.2, b, d.1, d.2⟩
/-- has a kind a number, a body -/
def numK (c : Int) : Bool := decide (c = 1) || decide (c = 4)
def bodK (c : Int) : Bool := decide (c = 1) || decide (c = 2)
/-- the fault of a body -/
def bodS (n : Nat) : Int := if n = 0 then 9 else if 200 < n then 2 else 0
/-- the fault of a command -/
def ordS (c m : Int) (n : Nat) : Int :=
  if 1 ≤ c ∧ c ≤ 5 then (if 0 ≤ m ∧ m ≤ 255 then (if m ≠ 0 ∧ numK c = false then 1 else if bodK c = true then bodS n else if 0 < n then 3 else 0) else 1) else 4
/-- how far a number is after another one -/
def aft (n m : Int) : Int := (n - m + 256) % 256
/-- a board behind a plain command -/
def plainS (b : Upl) (m : Int) : Upl × Int :=
  if b.L = true then (b, 5)
  else if m = b.n then (if b.T = true then (⟨b.n, b.v, b.L, true, b.T, b.k⟩, 6) else (⟨(b.n + 1) % 256, b.v, b.L, false, b.T, b.k + 1⟩, 1))
  else if aft m b.n < b.v / 2 then (⟨b.n, b.v, b.L, true, b.T, b.k⟩, 2)
  else if aft b.n m ≤ b.v / 2 then (b, 3)
  else (⟨b.n, b.v, true, b.R, b.T, b.k⟩, 4)
/-- a board behind a right command -/
def tookS (b : Upl) (c m : Int) : Upl × Int :=
  if c = 1 then plainS b m
  else if c = 2 then (⟨b.n, b.v, b.L, b.R, b.T, b.k + 1⟩, 1)
  else if c = 3 then (⟨b.n, b.v, false, false, false, b.k⟩, 7)
  else if c = 4 then (if b.L = true then (b, 5) else (⟨m, b.v, b.L, false, b.T, b.k⟩, 7))
  else if c = 5 then (⟨b.n, b.v, b.L, b.R, true, b.k⟩, 7)
  else (b, 7)
def zeroU : Upl := ⟨0, 0, false, false, false, 0⟩
/-- what Take answers: the board, what became, the fault -/
def takeS (b : Upl) (c m : Int) (n : Nat) : Upl × Int × Int :=
  if brdS b.n b.v b.k ≠ 0 then (zeroU, 0, brdS b.n b.v b.k)
  else if ordS c m n ≠ 0 then (zeroU, 0, ordS c m n)
  else if 1000000 < (tookS b c m).1.k then (zeroU, 0, 16)
  else ((tookS b c m).1, (tookS b c m).2, 0)
end Go.Proofs.Yteikggieekhfkaa
