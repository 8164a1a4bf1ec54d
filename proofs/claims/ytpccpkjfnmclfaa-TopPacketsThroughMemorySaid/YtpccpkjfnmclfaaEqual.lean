/- slices.Equal of bytes. -/
import Derived.Test.YtpccpkjfnmclfaaBase
import Derived.WalkKit
import Derived.Outline
import Derived.Lib.Hide
import Derived.RegionTactic
import Derived.Deep.QuietTactic
import Derived.BigQuiet
import Derived.Deep.RegionHeld3
namespace Go.Proofs.Ytpccpkjfnmclfaa
open Go.RowKit

set_option maxRecDepth 100000 in
set_option maxHeartbeats 1000000 in
theorem equal_any (A A' : Option Addr) (c c' : Nat) (l l' : List UInt8) (B : Nat) (w : World) (hl : l.length ≤ 9223372036854775807) (hl' : l'.length ≤ 9223372036854775807) (h : BR w B A l) (h' : BR w B A' l') :
    Calls Try.prog 73 #[.slice A l.length c, .slice A' l'.length c'] w fun e w' => e = .returned (.bool (decide (l = l'))) ∧ Below w.heap.size w w' := by
  by_cases hn : l.length = l'.length
  · have hne : ((l.length : Int) != (l'.length : Int)) = false := by simp [hn]
    have HN := Lib.hid hn
    have hle : l'.length ≤ l.length := by omega
    have hge : l.length ≤ l'.length := by omega
    clear hn
    go_enter Try.func73, Try.ntmps73
    go_wp2_with fail
    go_loopw [13] (fun i wr => ∃ k d : Nat, k ≤ l.length ∧ i = .int .i64 k ∧ l.take k = l'.take k ∧ wr = w.drewN d) (fun i _ => l.length - (intOf i).toNat)
    case atStart => exact ⟨0, 0, Nat.zero_le _, rfl, rfl, rfl⟩
    case round =>
      obtain ⟨k, d, hk, rfl, ht, rfl⟩ := hrel
      by_cases hlt : k < l.length
      · obtain ⟨ad, rfl, -, hc⟩ := h.get k hlt
        obtain ⟨ad', rfl, -, hc'⟩ := h'.get k (by omega)
        have hk0 : (0 : Int) ≤ (k : Int) := Int.natCast_nonneg _
        have hk1 : (k : Int) < (l.length : Int) := by omega
        have hk2 : (k : Int) < (l'.length : Int) := by omega
        have HE : Hid (l.take (k + 1) = l'.take (k + 1) ↔ l[k] = l'[k]) := by
          unfold Hid
          rw [List.take_succ_eq_append_getElem hlt, List.take_succ_eq_append_getElem (show k < l'.length by omega), ht, List.append_right_inj]
          simp
        have HD : Hid (l[k] ≠ l'[k] → l ≠ l') := by
          intro hd he
          subst he
          exact hd rfl
        have HC : Hid (l[k].toNat = l'[k].toNat ↔ l[k] = l'[k]) := UInt8.toNat_inj
        generalize l[k] = x at *
        generalize l'[k] = y at *
        clear ht
        by_cases hxy : x = y
        · have HXY := Lib.hid hxy
          have ht : (((x.toNat : Nat) : Int) != ((y.toNat : Nat) : Int)) = false := by rw [hxy]; simp
          clear hxy
          generalize x.toNat = X at *
          generalize y.toNat = Y at *
          go_wp2_with fail
          go_quiet (fail)
          all_goals
            go_wp2
            go_roundw
            case rel => exact ⟨k + 1, _, by omega, by go_num, HE.out.2 HXY.out, rfl⟩
            case measure => simp [intOf]; omega
        · have HXY := Lib.hid hxy
          have ht : (((x.toNat : Nat) : Int) != ((y.toNat : Nat) : Int)) = true := by
            have : x.toNat ≠ y.toNat := fun e => hxy (HC.out.1 e)
            simp; omega
          clear hxy
          generalize x.toNat = X at *
          generalize y.toNat = Y at *
          go_wp2_with fail
          go_quiet (fail)
          all_goals
            go_wp2
            go_ret
            exact ⟨ret_bool (by have := HD.out HXY.out; simp [this]), below_draws (below_draws (Below.refl _ _) _) _⟩
      · have hkk : k = l.length := by omega
        have HK := Lib.hid hkk
        have HT := Lib.hid ht
        clear hkk ht
        go_wp2
        go_ret
        refine ⟨ret_bool ?_, below_draws (Below.refl _ _) _⟩
        have e1 := HK.out
        have e2 := HN.out
        have e3 := HT.out
        rw [List.take_of_length_le (by omega), List.take_of_length_le (by omega)] at e3
        simp [e3]
  · have hne : ((l.length : Int) != (l'.length : Int)) = true := by simp; omega
    have HN := Lib.hid hn
    clear hn
    go_enter Try.func73, Try.ntmps73
    go_wp2
    go_ret
    exact ⟨ret_bool (by simp; intro e; exact HN.out (by rw [e])), Below.refl _ _⟩
end Go.Proofs.Ytpccpkjfnmclfaa
