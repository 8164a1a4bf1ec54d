/- the walks of both ReadAck, and of the comparison of commands. -/
import Derived.Test.YteikggieekhfkaaCodes
import Derived.Test.YteikggieekhfkaaAwk
import Derived.RegionTactic
import Derived.BigRegion
namespace Go.Proofs.Yteikggieekhfkaa
open Go.RowKit

attribute [local go_sem] setCell_draws alloc_draws
def bitOf (y k : Int) : Bool := bits .and .u8 y k != 0
/-- what reading a report gives -/
def rdA : List UInt8 → Int × Bool × Bool × Bool × Int
  | [x, y] => if 7 < (y.toNat : Int) then (0, false, false, false, 3) else ((x.toNat : Int), bitOf (y.toNat : Int) 1, bitOf (y.toNat : Int) 2, bitOf (y.toNat : Int) 4, 0)
  | _ => (0, false, false, false, 3)
def AckPost (s : Int × Bool × Bool × Bool × Int) (w : World) (e : Ending) (w' : World) : Prop :=
  e = .returned (.tuple #[ackV s.1 s.2.1 s.2.2.1 s.2.2.2.1, .int .i64 s.2.2.2.2]) ∧ Below w.heap.size w w'
set_option maxRecDepth 100000 in
set_option maxHeartbeats 1000000 in
theorem p_readAck_any (A : Option Addr) (l : List UInt8) (k B : Nat) (w : World) (hB : B ≤ w.heap.size) (hl : l.length ≤ 9223372036854775807) (h : BR w B A l) :
    Calls Try.prog 47 #[.slice A l.length k] w (AckPost (rdA l) w) := by
  by_cases hn : l.length = 2
  · obtain ⟨x, y, rfl⟩ : ∃ x y, l = [x, y] := by
      match l, hn with
      | [x, y], _ => exact ⟨x, y, rfl⟩
    have HE := Lib.hid (show rdA [x, y] = if 7 < (y.toNat : Int) then (0, false, false, false, 3) else ((x.toNat : Int), bitOf (y.toNat : Int) 1, bitOf (y.toNat : Int) 2, bitOf (y.toNat : Int) 4, 0) from rfl)
    obtain ⟨ad, rfl, hbk, c0⟩ := h.get 0 (by simp)
    obtain ⟨ad1, e1, -, c1⟩ := h.get 1 (by simp)
    obtain rfl : ad = ad1 := by injection e1
    rw [addr_zero] at c0
    simp only [List.getElem_cons_zero, List.getElem_cons_succ] at c0 c1
    rw [show ad.add 1 = ⟨ad.block, ad.off + 1, none⟩ by simp [Addr.add]] at c1
    have hx := x.toNat_lt
    have hy := y.toNat_lt
    rw [show [x, y].length = 2 from rfl]
    generalize rdA [x, y] = Z at *
    generalize x.toNat = X at *
    generalize y.toNat = Y at *
    have hlt := Nat.lt_of_lt_of_le hbk hB
    obtain ⟨w0, hw0⟩ : ∃ w0, w.alloc (.cells #[.int .i64 0, .bool false, .bool false, .bool false] 32) = w0 := ⟨_, rfl⟩
    have hb0 : Below w.heap.size w w0 := by rw [← hw0]; exact (Below.refl _ _).alloc (Nat.le_refl _) _
    have g0 : Blk w0 w.heap.size (ackC 0 false false false) 32 := by rw [← hw0]; exact Blk.new w _ _
    have c0 : w0.cell? ad = some (.int .u8 (X : Int)) := (hb0.cell hlt).trans c0
    have c1 : w0.cell? ⟨ad.block, ad.off + 1, none⟩ = some (.int .u8 (Y : Int)) := (Below.at_ hb0 _ hlt _).trans c1
    obtain ⟨q0, q1, q2, q3⟩ := blk_a g0
    obtain ⟨f0, f1, f2, f3, -, -⟩ := blk_f g0
    have n1 : ad.block ≠ w.heap.size := by omega
    have n2 : w.heap.size ≠ ad.block := by omega
    clear h hl hn e1
    by_cases h7 : 7 < (Y : Int)
    · have HZ : Hid (Z = (0, false, false, false, 3)) := Lib.hid (by rw [HE.out, if_pos h7])
      have d7 : decide ((7 : Int) < (Y : Int)) = true := decide_eq_true h7
      clear HE
      go_enter Try.func47, Try.ntmps47
      go_wp2_with fail
      refine bodyPost_ret (v := .tuple #[ackV 0 false false false, .int .i64 3]) (by simp [results, Try.results47, go_sem, ackV, q0, q1, q2, q3]) rfl ?_
      unfold AckPost
      rw [HZ.out]
      exact ⟨rfl, (((hb0.setCell (Nat.le_refl _) _).setCell (Nat.le_refl _) _).setCell (Nat.le_refl _) _).setCell (Nat.le_refl _) _⟩
    · have HZ : Hid (Z = ((X : Int), bitOf (Y : Int) 1, bitOf (Y : Int) 2, bitOf (Y : Int) 4, 0)) := Lib.hid (by rw [HE.out, if_neg h7])
      have d7 : decide ((7 : Int) < (Y : Int)) = false := decide_eq_false h7
      clear HE
      go_enter Try.func47, Try.ntmps47
      go_wp2_with fail
      refine bodyPost_ret (v := .tuple #[ackV X (bitOf (Y : Int) 1) (bitOf (Y : Int) 2) (bitOf (Y : Int) 4), .int .i64 0]) (by simp [results, Try.results47, go_sem, ackV, bitOf, q0, q1, q2, q3]) rfl ?_
      unfold AckPost
      rw [HZ.out]
      exact ⟨rfl, (((hb0.setCell (Nat.le_refl _) _).setCell (Nat.le_refl _) _).setCell (Nat.le_refl _) _).setCell (Nat.le_refl _) _⟩
  · have HZ : Hid (rdA l = (0, false, false, false, 3)) := Lib.hid (by
      match l, hn with
      | [], _ => rfl
      | [_], _ => rfl
      | [_, _], h => simp at h
      | _ :: _ :: _ :: _, h => rfl)
    have d1 : ((l.length : Int) != 2) = true := by simp; omega
    generalize rdA l = Z at *
    clear hn h
    go_enter Try.func47, Try.ntmps47
    go_wp2_with fail
    refine bodyPost_ret (v := .tuple #[ackV 0 false false false, .int .i64 3]) (by simp [results, Try.results47, go_sem, ackV]) rfl ?_
    unfold AckPost
    rw [HZ.out]
    exact ⟨rfl, (Below.refl _ _).alloc (Nat.le_refl _) _⟩
set_option maxRecDepth 100000 in
set_option maxHeartbeats 1000000 in
theorem r_readAck_any (A : Option Addr) (l : List UInt8) (k B : Nat) (w : World) (hB : B ≤ w.heap.size) (hl : l.length ≤ 9223372036854775807) (h : BR w B A l) :
    Calls Try.prog 49 #[.slice A l.length k] w (AckPost (rdA l) w) := by
  by_cases hn : l.length = 2
  · obtain ⟨x, y, rfl⟩ : ∃ x y, l = [x, y] := by
      match l, hn with
      | [x, y], _ => exact ⟨x, y, rfl⟩
    have HE := Lib.hid (show rdA [x, y] = if 7 < (y.toNat : Int) then (0, false, false, false, 3) else ((x.toNat : Int), bitOf (y.toNat : Int) 1, bitOf (y.toNat : Int) 2, bitOf (y.toNat : Int) 4, 0) from rfl)
    obtain ⟨ad, rfl, hbk, c0⟩ := h.get 0 (by simp)
    obtain ⟨ad1, e1, -, c1⟩ := h.get 1 (by simp)
    obtain rfl : ad = ad1 := by injection e1
    rw [addr_zero] at c0
    simp only [List.getElem_cons_zero, List.getElem_cons_succ] at c0 c1
    rw [show ad.add 1 = ⟨ad.block, ad.off + 1, none⟩ by simp [Addr.add]] at c1
    have hx := x.toNat_lt
    have hy := y.toNat_lt
    rw [show [x, y].length = 2 from rfl]
    generalize rdA [x, y] = Z at *
    generalize x.toNat = X at *
    generalize y.toNat = Y at *
    have hlt := Nat.lt_of_lt_of_le hbk hB
    obtain ⟨w0, hw0⟩ : ∃ w0, w.alloc (.cells #[.int .i64 0, .bool false, .bool false, .bool false] 32) = w0 := ⟨_, rfl⟩
    have hb0 : Below w.heap.size w w0 := by rw [← hw0]; exact (Below.refl _ _).alloc (Nat.le_refl _) _
    have g0 : Blk w0 w.heap.size (ackC 0 false false false) 32 := by rw [← hw0]; exact Blk.new w _ _
    have c0 : w0.cell? ad = some (.int .u8 (X : Int)) := (hb0.cell hlt).trans c0
    have c1 : w0.cell? ⟨ad.block, ad.off + 1, none⟩ = some (.int .u8 (Y : Int)) := (Below.at_ hb0 _ hlt _).trans c1
    obtain ⟨q0, q1, q2, q3⟩ := blk_a g0
    obtain ⟨f0, f1, f2, f3, -, -⟩ := blk_f g0
    have n1 : ad.block ≠ w.heap.size := by omega
    have n2 : w.heap.size ≠ ad.block := by omega
    clear h hl hn e1
    by_cases h7 : 7 < (Y : Int)
    · have HZ : Hid (Z = (0, false, false, false, 3)) := Lib.hid (by rw [HE.out, if_pos h7])
      have d7 : decide ((7 : Int) < (Y : Int)) = true := decide_eq_true h7
      clear HE
      go_enter Try.func49, Try.ntmps49
      go_wp2_with fail
      refine bodyPost_ret (v := .tuple #[ackV 0 false false false, .int .i64 3]) (by simp [results, Try.results49, go_sem, ackV, q0, q1, q2, q3]) rfl ?_
      unfold AckPost
      rw [HZ.out]
      exact ⟨rfl, (((hb0.setCell (Nat.le_refl _) _).setCell (Nat.le_refl _) _).setCell (Nat.le_refl _) _).setCell (Nat.le_refl _) _⟩
    · have HZ : Hid (Z = ((X : Int), bitOf (Y : Int) 1, bitOf (Y : Int) 2, bitOf (Y : Int) 4, 0)) := Lib.hid (by rw [HE.out, if_neg h7])
      have d7 : decide ((7 : Int) < (Y : Int)) = false := decide_eq_false h7
      clear HE
      go_enter Try.func49, Try.ntmps49
      go_wp2_with fail
      clear hw0
      go_region
      all_goals
        go_wp2_with fail
        refine bodyPost_ret (v := .tuple #[ackV X (bitOf (Y : Int) 1) (bitOf (Y : Int) 2) (bitOf (Y : Int) 4), .int .i64 0]) (by simp [results, Try.results49, go_sem, ackV, bitOf, q0, q1, q2, q3]) rfl ?_
        unfold AckPost
        rw [HZ.out]
        exact ⟨rfl, (((hb0.drew.setCell (Nat.le_refl _) _).setCell (Nat.le_refl _) _).setCell (Nat.le_refl _) _).setCell (Nat.le_refl _) _⟩
  · have HZ : Hid (rdA l = (0, false, false, false, 3)) := Lib.hid (by
      match l, hn with
      | [], _ => rfl
      | [_], _ => rfl
      | [_, _], h => simp at h
      | _ :: _ :: _ :: _, h => rfl)
    have d1 : ((l.length : Int) != 2) = true := by simp; omega
    generalize rdA l = Z at *
    clear hn h
    go_enter Try.func49, Try.ntmps49
    go_wp2_with fail
    refine bodyPost_ret (v := .tuple #[ackV 0 false false false, .int .i64 3]) (by simp [results, Try.results49, go_sem, ackV]) rfl ?_
    unfold AckPost
    rw [HZ.out]
    exact ⟨rfl, (Below.refl _ _).alloc (Nat.le_refl _) _⟩
end Go.Proofs.Yteikggieekhfkaa
