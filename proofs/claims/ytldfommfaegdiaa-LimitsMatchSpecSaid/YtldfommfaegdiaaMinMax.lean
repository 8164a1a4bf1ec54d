/- slices.Min, slices.Max, slices.IsSorted of numbers. -/
import Derived.Test.YtldfommfaegdiaaLimMath
import Derived.Test.YtldfommfaegdiaaAppend
import Derived.WalkKit
import Derived.Outline
import Derived.Handy
import Derived.Lib.Hide
import Derived.WalkLawsBesides
import Derived.Deep.QuietTactic
import Derived.BigQuiet
namespace Go.Proofs.Ytldfommfaegdiaa
open Go.RowKit

set_option maxHeartbeats 400000 in
theorem min_any (A : Option Addr) (c : Nat) (l : List Int) (B : Nat) (w : World) (hl : l.length ≤ 9223372036854775807) (h0 : 0 < l.length) (h : IR w B A l) :
    Calls Try.prog 46 #[.slice A l.length c] w fun e w' => e = .returned (.int .i64 (minL l)) ∧ w = w' := by
  obtain ⟨ad, rfl, hbk, c0⟩ := h.get 0 h0
  rw [addr_zero] at c0
  have H := Lib.hid h
  have i0 : (0 : Int) < (l.length : Int) := by omega
  have i1 : ¬ (l.length : Int) < 1 := by omega
  have HM := Lib.hid (minL_one l h0)
  obtain ⟨m0, hm0⟩ : ∃ m0, m0 = l[0] := ⟨_, rfl⟩
  rw [← hm0] at c0 HM
  clear h hm0
  go_enter Try.func46, Try.ntmps46
  go_wp2_with fail
  go_loop [3, 4] (fun m i => ∃ k : Nat, 1 ≤ k ∧ k ≤ l.length ∧ i = .int .i64 k ∧ m = .int .i64 (minL (l.take k))) (fun _ i => l.length - (intOf i).toNat)
  case atStart => exact ⟨1, by omega, by omega, rfl, by rw [HM.out]⟩
  case round =>
    obtain ⟨k, hk1, hk, rfl, rfl⟩ := hrel
    by_cases hlt : k < l.length
    · obtain ⟨ad', hadd, -, d0⟩ := H.out.get k hlt
      obtain rfl : ad = ad' := by injection hadd
      have HS := Lib.hid (minL_snoc l k hk1 hlt)
      generalize l[k] = x at *
      generalize minL (l.take k) = m at *
      have j0 : (0 : Int) ≤ (k : Int) := by omega
      have j1 : (k : Int) < (l.length : Int) := by omega
      clear hadd c0
      go_wp2_with fail
      go_round
      case rel => exact ⟨k + 1, by omega, by omega, by go_num, by rw [HS.out]; congr 1; split <;> omega⟩
      case measure => simp [intOf]; omega
    · obtain rfl : k = l.length := by omega
      rw [List.take_length]
      clear c0
      go_wp2_with fail
      go_ret
      exact ⟨rfl, rfl⟩
set_option maxHeartbeats 400000 in
theorem max_any (A : Option Addr) (c : Nat) (l : List Int) (B : Nat) (w : World) (hl : l.length ≤ 9223372036854775807) (h0 : 0 < l.length) (h : IR w B A l) :
    Calls Try.prog 47 #[.slice A l.length c] w fun e w' => e = .returned (.int .i64 (maxL l)) ∧ w = w' := by
  obtain ⟨ad, rfl, hbk, c0⟩ := h.get 0 h0
  rw [addr_zero] at c0
  have H := Lib.hid h
  have i0 : (0 : Int) < (l.length : Int) := by omega
  have i1 : ¬ (l.length : Int) < 1 := by omega
  have HM := Lib.hid (maxL_one l h0)
  obtain ⟨m0, hm0⟩ : ∃ m0, m0 = l[0] := ⟨_, rfl⟩
  rw [← hm0] at c0 HM
  clear h hm0
  go_enter Try.func47, Try.ntmps47
  go_wp2_with fail
  go_loop [3, 4] (fun m i => ∃ k : Nat, 1 ≤ k ∧ k ≤ l.length ∧ i = .int .i64 k ∧ m = .int .i64 (maxL (l.take k))) (fun _ i => l.length - (intOf i).toNat)
  case atStart => exact ⟨1, by omega, by omega, rfl, by rw [HM.out]⟩
  case round =>
    obtain ⟨k, hk1, hk, rfl, rfl⟩ := hrel
    by_cases hlt : k < l.length
    · obtain ⟨ad', hadd, -, d0⟩ := H.out.get k hlt
      obtain rfl : ad = ad' := by injection hadd
      have HS := Lib.hid (maxL_snoc l k hk1 hlt)
      generalize l[k] = x at *
      generalize maxL (l.take k) = m at *
      have j0 : (0 : Int) ≤ (k : Int) := by omega
      have j1 : (k : Int) < (l.length : Int) := by omega
      clear hadd c0
      go_wp2_with fail
      go_round
      case rel => exact ⟨k + 1, by omega, by omega, by go_num, by rw [HS.out]; congr 1; split <;> omega⟩
      case measure => simp [intOf]; omega
    · obtain rfl : k = l.length := by omega
      rw [List.take_length]
      clear c0
      go_wp2_with fail
      go_ret
      exact ⟨rfl, rfl⟩
set_option maxHeartbeats 400000 in
theorem less_any (a b : Int) (w : World) :
    Calls Try.prog 58 #[.int .i64 a, .int .i64 b] w fun e w' => e = .returned (.bool (decide (a < b))) ∧ w = w' := by
  go_enter Try.func58, Try.ntmps58
  go_wp2
  go_ret
  exact ⟨by simp, rfl⟩
/-- the answer of a check on whether a row of numbers rises -/
def SrtE (l : List Int) (e : Ending) : Prop := ∃ b : Bool, e = .returned (.bool b) ∧ (b = true ↔ ∀ i (h : i + 1 < l.length), l[i] ≤ l[i + 1])
def SortedPost (l : List Int) (w : World) (e : Ending) (w' : World) : Prop := SrtE l e ∧ ∃ d : Nat, w' = w.drewN d
set_option maxHeartbeats 1000000 in
theorem sorted_any (A : Option Addr) (c : Nat) (l : List Int) (B : Nat) (w : World) (hl : l.length ≤ 9223372036854775807) (h0 : 0 < l.length) (h : IR w B A l) :
    Calls Try.prog 48 #[.slice A l.length c] w (SortedPost l w) := by
  have H := Lib.hid h
  unfold SortedPost
  clear h
  go_enter Try.func48, Try.ntmps48
  go_wp2_with fail
  go_loopw [3] (fun i wr => ∃ k d : Nat, k < l.length ∧ i = .int .i64 k ∧ (∀ j (hj : j + 1 < l.length), k ≤ j → l[j] ≤ l[j + 1]) ∧ wr = w.drewN d) (fun i _ => (intOf i).toNat)
  case atStart => exact ⟨l.length - 1, 0, by omega, by first | (congr 1; omega) | rfl, fun j hj hk => absurd hj (by omega), rfl⟩
  case round =>
    obtain ⟨k, d, hk, rfl, hso, hwr⟩ := hrel
    have HWR := Lib.hid hwr
    rcases Nat.eq_zero_or_pos k with hk0 | hk0
    · have HSO : Hid (∀ i (h : i + 1 < l.length), l[i] ≤ l[i + 1]) := Lib.hid (fun i hi => hso i hi (by omega))
      have z0 : ¬ (0 : Int) < (k : Int) := by omega
      have z1 : decide (0 < k) = false := by simp; omega
      have z2 : decide ((0 : Int) < (k : Int)) = false := by simp; omega
      clear hso hk0 hwr
      go_wp2_with fail
      go_ret
      exact ⟨⟨true, rfl, ⟨fun _ => HSO.out, fun _ => rfl⟩⟩, d, HWR.out⟩
    · obtain ⟨J, rfl⟩ : ∃ J, k = J + 1 := ⟨k - 1, by omega⟩
      obtain ⟨ad, rfl, -, c1⟩ := H.out.get (J + 1) hk
      obtain ⟨ad', hadd, -, c0⟩ := H.out.get J (by omega)
      obtain rfl : ad = ad' := by injection hadd
      replace c1 : wr.cell? (ad.add (J + 1)) = some (.int .i64 l[J + 1]) := by rw [hwr]; exact c1
      replace c0 : wr.cell? (ad.add J) = some (.int .i64 l[J]) := by rw [hwr]; exact c0
      clear hwr
      have HL := Lib.hid (less_any l[J + 1] l[J])
      by_cases hlt : l[J + 1] < l[J]
      · rw [decide_eq_true hlt] at HL
        have HNO : Hid (¬ ∀ i (h : i + 1 < l.length), l[i] ≤ l[i + 1]) := Lib.hid (fun hh => by have := hh J hk; omega)
        generalize l[J + 1] = y at *
        generalize l[J] = x at *
        obtain ⟨K, hK⟩ : ∃ K, K = J + 1 := ⟨_, rfl⟩
        rw [← hK] at c1 hk hk0 ⊢
        have e1 : (K : Int) - 1 = (J : Int) := by omega
        have e2 : IntKind.i64.wrap (J : Int) = (J : Int) := IntWalk.i64_in _ (by omega)
        have e3 : IntKind.i64.wrap ((K : Int) - 1) = (J : Int) := by rw [e1]; exact e2
        have e4 : (0 : Int) < (K : Int) := by omega
        have e5 : (K : Int) < (l.length : Int) := by omega
        have e6 : (J : Int) < (l.length : Int) := by omega
        have e7 : (0 : Int) ≤ (J : Int) := by omega
        clear hso hlt hadd hK
        go_wp2_with fail
        go_quiet ((go_at_call 58; exact Calls.quiet_of_same ((HL.out _).mono fun e w' h => ⟨h.1, h.2.symm⟩)))
        go_wp2_with fail
        go_ret
        exact ⟨⟨false, rfl, ⟨fun h => absurd h (by simp), fun h => absurd h HNO.out⟩⟩, _, by rw [HWR.out]; exact World.drewN_drewN _ _ _⟩
      · rw [decide_eq_false hlt] at HL
        have HSO : Hid (∀ j (hj : j + 1 < l.length), J ≤ j → l[j] ≤ l[j + 1]) := Lib.hid (fun j hj hJ => by
          by_cases e : j = J
          · subst e; omega
          · exact hso j hj (by omega))
        generalize l[J + 1] = y at *
        generalize l[J] = x at *
        obtain ⟨K, hK⟩ : ∃ K, K = J + 1 := ⟨_, rfl⟩
        rw [← hK] at c1 hk hk0 ⊢
        have e1 : (K : Int) - 1 = (J : Int) := by omega
        have e2 : IntKind.i64.wrap (J : Int) = (J : Int) := IntWalk.i64_in _ (by omega)
        have e3 : IntKind.i64.wrap ((K : Int) - 1) = (J : Int) := by rw [e1]; exact e2
        have e4 : (0 : Int) < (K : Int) := by omega
        have e5 : (K : Int) < (l.length : Int) := by omega
        have e6 : (J : Int) < (l.length : Int) := by omega
        have e7 : (0 : Int) ≤ (J : Int) := by omega
        clear hso hlt hadd hK
        go_wp2_with fail
        go_quiet ((go_at_call 58; exact Calls.quiet_of_same ((HL.out _).mono fun e w' h => ⟨h.1, h.2.symm⟩)))
        go_wp2_with fail
        go_roundw
        case rel => exact ⟨J, d + nq, by omega, by first | rfl | rw [e1], HSO.out, by rw [HWR.out]; exact World.drewN_drewN _ _ _⟩
        case measure => simp [intOf]; omega
end Go.Proofs.Ytldfommfaegdiaa
