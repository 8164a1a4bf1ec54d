/- the small checks, and the two closures of the counters. -/
import Derived.Test.YtpccpkjfnmclfaaWords
import Derived.Test.YtpccpkjfnmclfaaCountMath
import Derived.WalkKit
import Derived.Outline
import Derived.Handy
import Derived.OneCell
import Derived.Lib.Hide
import Derived.Laws.BitsAllLaws
import Derived.RegionTactic
import Derived.Deep.QuietTactic
import Derived.BigQuiet
import Derived.OwnWalk
namespace Go.Proofs.Ytpccpkjfnmclfaa
open Go.RowKit

set_option maxHeartbeats 400000 in
theorem within_any (n lo hi : Int) (w : World) :
    Calls Try.prog 48 #[.int .i64 n, .int .i64 lo, .int .i64 hi] w fun e w' => e = .returned (.bool (decide (lo ≤ n ∧ n ≤ hi))) ∧ w = w' := by
  by_cases h1 : lo ≤ n
  · by_cases h2 : n ≤ hi
    all_goals
      go_enter Try.func48, Try.ntmps48
      go_wp2
      go_ret
      exact ⟨ret_bool (by simp [h1, h2]), rfl⟩
  · go_enter Try.func48, Try.ntmps48
    go_wp2
    go_ret
    exact ⟨ret_bool (by simp; omega), rfl⟩
set_option maxHeartbeats 400000 in
theorem upTo_any (n hi : Int) (w : World) :
    Calls Try.prog 46 #[.int .i64 n, .int .i64 hi] w fun e w' => e = .returned (.bool (decide (0 ≤ n ∧ n ≤ hi))) ∧ w = w' := by
  by_cases h1 : 0 ≤ n
  · by_cases h2 : n ≤ hi
    all_goals
      go_enter Try.func46, Try.ntmps46
      go_wp2
      go_ret
      exact ⟨ret_bool (by simp [h1, h2]), rfl⟩
  · go_enter Try.func46, Try.ntmps46
    go_wp2
    go_ret
    exact ⟨ret_bool (by simp; omega), rfl⟩

theorem and_low (n : Int) (k : Nat) (hk : k ≤ 40) : bits .and .i64 n (2 ^ k - 1) = n % 2 ^ k := by
  have hp : 0 < 2 ^ k := Nat.pos_of_ne_zero (by simp)
  have hle : 2 ^ k ≤ 2 ^ 40 := Nat.pow_le_pow_right (by omega) hk
  have e1 : ((2 : Int) ^ k - 1) = ((2 ^ k - 1 : Nat) : Int) := by
    rw [Int.natCast_sub (by omega)]; simp
  have h2 : (BitVec.ofInt 64 ((2 ^ k - 1 : Nat) : Int)).toNat = 2 ^ k - 1 := by
    rw [BitVec.ofInt_natCast, BitVec.toNat_ofNat]; exact Nat.mod_eq_of_lt (by omega)
  have key : (BitVec.ofInt 64 n &&& BitVec.ofInt 64 ((2 ^ k - 1 : Nat) : Int)).toNat = (n % ((2 ^ 64 : Nat) : Int)).toNat % 2 ^ k := by
    rw [BitVec.toNat_and, BitVec.toNat_ofInt, h2, Nat.and_two_pow_sub_one_eq_mod]
  rw [e1]
  show IntKind.i64.wrap ((BitVec.ofInt 64 n &&& BitVec.ofInt 64 ((2 ^ k - 1 : Nat) : Int)).toNat : Nat) = n % 2 ^ k
  rw [key]
  have e3 : (((n % ((2 ^ 64 : Nat) : Int)).toNat % 2 ^ k : Nat) : Int) = n % 2 ^ k := by
    rw [Int.natCast_emod, Int.toNat_of_nonneg (Int.emod_nonneg _ (by omega))]
    rw [show (((2 ^ k : Nat)) : Int) = (2 : Int) ^ k by simp]
    apply Int.emod_emod_of_dvd
    have : (2 : Nat) ^ k ∣ 2 ^ 64 := Nat.pow_dvd_pow 2 (by omega)
    have := Int.natCast_dvd_natCast.2 this
    simpa using this
  rw [e3]
  have g1 := Int.emod_nonneg n (show ((2 : Int) ^ k) ≠ 0 by rw [show ((2 : Int) ^ k) = ((2 ^ k : Nat) : Int) by simp]; omega)
  have g2 := Int.emod_lt_of_pos n (show 0 < ((2 : Int) ^ k) by rw [show ((2 : Int) ^ k) = ((2 ^ k : Nat) : Int) by simp]; omega)
  have g3 : ((2 : Int) ^ k) ≤ 1099511627776 := by rw [show ((2 : Int) ^ k) = ((2 ^ k : Nat) : Int) by simp]; omega
  exact IntWalk.i64_in _ (by omega)

/-- the block of a captured number -/
def Held1 (w : World) (p : Nat) (t : Int) : Prop := w.heap[p]? = some (.cells #[.int .i64 t] 3 (0, 0))
theorem Held1.kept {w w' : World} {p : Nat} {t : Int} {row : Option Nat} (h : Held1 w p t) (hg : w.grownBy w' row) (hne : some p ≠ row) : Held1 w' p t :=
  (hg.block p (lt_of_block h) hne).trans h
theorem grownBy_set (w : World) (g k : Nat) (u : Value) : w.grownBy (w.setCell ⟨g, k, none⟩ u) (some g) :=
  ⟨rfl, rfl, rfl, by simp [World.setCell], fun i _ hne => Below.heap_setCell w ⟨g, k, none⟩ u i (fun e => hne (by rw [e]))⟩
theorem grownBy_none {w w' : World} {row : Option Nat} (h : w.grownBy w' none) : w.grownBy w' row := ⟨h.os, h.tape, h.output, h.size, fun k hk _ => h.block k hk (by simp)⟩
theorem grownBy_trans {a b c : World} {row : Option Nat} (h1 : a.grownBy b row) (h2 : b.grownBy c row) : a.grownBy c row :=
  ⟨h2.os.trans h1.os, h2.tape.trans h1.tape, h2.output.trans h1.output, Nat.le_trans h1.size h2.size, fun k hk hne => (h2.block k (Nat.lt_of_lt_of_le hk h1.size) hne).trans (h1.block k hk hne)⟩
/-- a write to a row of new memory is no write to what was -/
theorem grownBy_new {a b c : World} {row : Option Nat} {v : Option Nat} (h1 : a.grownBy b row) (h2 : b.grownBy c v) (hv : ∀ g, v = some g → a.heap.size ≤ g) : a.grownBy c row :=
  ⟨h2.os.trans h1.os, h2.tape.trans h1.tape, h2.output.trans h1.output, Nat.le_trans h1.size h2.size, fun k hk hne => (h2.block k (Nat.lt_of_lt_of_le hk h1.size) (fun e => by have := hv k e.symm; omega)).trans (h1.block k hk hne)⟩

/-- what a closure with one captured number does -/
def StepPost (p : Nat) (s : Int × Int × Int) (w : World) (e : Ending) (w' : World) : Prop :=
  e = .returned (.tuple #[.int .i64 s.2.1, .int .i64 s.2.2]) ∧ w.grownBy w' (some p) ∧ (s.2.2 = 0 → Held1 w' p s.1)
def StepC (f : FuncId) (step : Int → Int → Int → Int × Int × Int) : Prop :=
  ∀ (b x t : Int) (p : Nat) (w : World), 4 ≤ b → b ≤ 40 → 0 ≤ t → t ≤ 1000000000000 → Held1 w p t →
    Calls Try.prog f #[.int .i64 x, .int .i64 (roundOf b), .pointer (some ⟨p, 0, none⟩)] w (StepPost p (step (roundOf b) t x) w)

set_option maxHeartbeats 400000 in
theorem stepR_any : StepC 82 stepR := by
  intro b x t p w hb4 hb40 ht0 ht1 hp
  obtain ⟨hR1, hR2⟩ := roundOf_bd b hb4 hb40
  have hc := cell_of_one hp
  have hf := free_of_one hp
  have hset := one_setCell (u := .int .i64 x) hp
  have HSET := Lib.hid hset
  clear hset
  unfold stepR
  generalize roundOf b = R at *
  by_cases h1 : x < 0 ∨ 1000000000000 < x
  · rw [if_pos h1]
    have hd : (decide (0 ≤ x ∧ x ≤ 1000000000000)) = false := by simp; omega
    clear h1
    go_enter Try.func82, Try.ntmps82
    go_wp2_with (go_at_call 46; refine (upTo_any _ _ _).mono ?_; rintro e w' ⟨rfl, rfl⟩)
    go_ret2
    exact ⟨rfl, World.grownBy.refl _ _, fun e => by simp at e⟩
  · rw [if_neg h1]
    have hd : (decide (0 ≤ x ∧ x ≤ 1000000000000)) = true := by simp; omega
    have h2 : 0 ≤ x := by omega
    have h3 : x ≤ 1000000000000 := by omega
    clear h1
    by_cases h4 : x < t
    · rw [if_pos h4]
      go_enter Try.func82, Try.ntmps82
      go_wp2_with (go_at_call 46; refine (upTo_any _ _ _).mono ?_; rintro e w' ⟨rfl, rfl⟩)
      go_ret2
      exact ⟨rfl, World.grownBy.refl _ _, fun e => by simp at e⟩
    · rw [if_neg h4]
      have h5 : t ≤ x := by omega
      go_enter Try.func82, Try.ntmps82
      go_wp2_with (go_at_call 46; refine (upTo_any _ _ _).mono ?_; rintro e w' ⟨rfl, rfl⟩)
      go_ret2
      exact ⟨rfl, grownBy_set _ _ _ _, fun _ => HSET.out⟩
end Go.Proofs.Ytpccpkjfnmclfaa
