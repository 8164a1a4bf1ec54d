/- rows of numbers, compared by the reference of stage 4. -/
import Derived.Test.YtpccpkjfnmclfaaWords
import Derived.WalkKit
import Derived.Outline
import Derived.Lib.Hide
import Derived.RegionTactic
import Derived.Deep.QuietTactic
import Derived.BigQuiet
import Derived.Deep.RegionHeld3
namespace Go.Proofs.Ytpccpkjfnmclfaa
open Go.RowKit

set_option maxRecDepth 100000 in
set_option maxHeartbeats 1000000 in
theorem sameInts_any (A A' : Option Addr) (c c' : Nat) (l l' : List Int) (B : Nat) (w : World) (hl : l.length ≤ 9223372036854775807) (hl' : l'.length ≤ 9223372036854775807) (h : IR w B A l) (h' : IR w B A' l') :
    Calls Try.prog 61 #[.slice A l.length c, .slice A' l'.length c'] w fun e w' => e = .returned (.bool (decide (l = l'))) ∧ Below w.heap.size w w' := by
  by_cases hn : l.length = l'.length
  · have hne : ((l.length : Int) != (l'.length : Int)) = false := by simp [hn]
    have HN := Lib.hid hn
    have hle : l'.length ≤ l.length := by omega
    have hge : l.length ≤ l'.length := by omega
    clear hn
    go_enter Try.func61, Try.ntmps61
    go_wp2_with fail
    go_loopw [5] (fun i wr => ∃ k d : Nat, k ≤ l.length ∧ i = .int .i64 k ∧ l.take k = l'.take k ∧ wr = w.drewN d) (fun i _ => l.length - (intOf i).toNat)
    case atStart => exact ⟨0, 0, Nat.zero_le _, rfl, rfl, rfl⟩
    case round =>
      obtain ⟨k, d, hk, rfl, ht, rfl⟩ := hrel
      by_cases hlt : k < l.length
      · obtain ⟨ad, rfl, -, hc⟩ := h.get k hlt
        obtain ⟨ad', rfl, -, hc'⟩ := h'.get k (by omega)
        have hk0 : (0 : Int) ≤ (k : Int) := Int.natCast_nonneg _
        have hk1 : (k : Int) < (l.length : Int) := by omega
        have hk2 : (k : Int) < (l'.length : Int) := by omega
        have HE : Hid (l.take (k + 1) = l'.take (k + 1) ↔ l[k] = l'[k]) := by
          unfold Hid
          rw [List.take_succ_eq_append_getElem hlt, List.take_succ_eq_append_getElem (show k < l'.length by omega), ht, List.append_right_inj]
          simp
        have HD : Hid (l[k] ≠ l'[k] → l ≠ l') := by
          intro hd he
          subst he
          exact hd rfl
        generalize l[k] = x at *
        generalize l'[k] = y at *
        clear ht
        by_cases hxy : x = y
        · have HXY := Lib.hid hxy
          have ht : (x != y) = false := by rw [hxy]; simp
          clear hxy
          go_wp2_with fail
          go_quiet (fail)
          all_goals
            go_wp2
            go_roundw
            case rel => exact ⟨k + 1, _, by omega, by go_num, HE.out.2 HXY.out, rfl⟩
            case measure => simp [intOf]; omega
        · have HXY := Lib.hid hxy
          have ht : (x != y) = true := by simpa using hxy
          clear hxy
          go_wp2_with fail
          go_quiet (fail)
          all_goals
            go_wp2
            go_ret
            exact ⟨ret_bool (by have := HD.out HXY.out; simp [this]), below_draws (below_draws (Below.refl _ _) _) _⟩
      · have hkk : k = l.length := by omega
        have HK := Lib.hid hkk
        have HT := Lib.hid ht
        clear hkk ht
        go_wp2
        go_ret
        refine ⟨ret_bool ?_, below_draws (Below.refl _ _) _⟩
        have e1 := HK.out
        have e2 := HN.out
        have e3 := HT.out
        rw [List.take_of_length_le (by omega), List.take_of_length_le (by omega)] at e3
        simp [e3]
  · have hne : ((l.length : Int) != (l'.length : Int)) = true := by simp; omega
    have HN := Lib.hid hn
    clear hn
    go_enter Try.func61, Try.ntmps61
    go_wp2
    go_ret
    exact ⟨ret_bool (by simp; intro e; exact HN.out (by rw [e])), Below.refl _ _⟩
/-- two equal lists -/
theorem equalI_yes (A A' : Option Addr) (c c' : Nat) (l : List Int) (B : Nat) (w : World) (hl : l.length ≤ 9223372036854775807) (h : IR w B A l) (h' : IR w B A' l) :
    Calls Try.prog 61 #[.slice A l.length c, .slice A' l.length c'] w fun e w' => e = .returned (.bool true) ∧ Below w.heap.size w w' := by
  have := sameInts_any A A' c c' l l B w hl hl h h'
  simpa using this
end Go.Proofs.Ytpccpkjfnmclfaa
