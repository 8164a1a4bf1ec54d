/- names: IsName of the reference; within of both sides. -/
import Derived.Test.YtldfommfaegdiaaName
namespace Go.Proofs.Ytldfommfaegdiaa
open Go.RowKit

set_option maxHeartbeats 400000 in
theorem rwithin_any (n lo hi : Int) (w : World) :
    Calls Try.prog 30 #[.int .i64 n, .int .i64 lo, .int .i64 hi] w fun e w' => e = .returned (.bool (decide (lo ≤ n ∧ n ≤ hi))) ∧ w = w' := by
  by_cases h1 : lo ≤ n
  · by_cases h2 : n ≤ hi
    all_goals
      go_enter Try.func30, Try.ntmps30
      go_wp2
      go_ret
      exact ⟨ret_bool (by simp [h1, h2]), rfl⟩
  · go_enter Try.func30, Try.ntmps30
    go_wp2
    go_ret
    exact ⟨ret_bool (by simp; omega), rfl⟩
set_option maxHeartbeats 400000 in
theorem within_any (n lo hi : Int) (w : World) :
    Calls Try.prog 31 #[.int .i64 n, .int .i64 lo, .int .i64 hi] w fun e w' => e = .returned (.bool (decide (lo ≤ n ∧ n ≤ hi))) ∧ w = w' := by
  by_cases h1 : lo ≤ n
  · by_cases h2 : n ≤ hi
    all_goals
      go_enter Try.func31, Try.ntmps31
      go_wp2
      go_ret
      exact ⟨ret_bool (by simp [h1, h2]), rfl⟩
  · go_enter Try.func31, Try.ntmps31
    go_wp2
    go_ret
    exact ⟨ret_bool (by simp; omega), rfl⟩
/-- the head of the loop of the reference's IsName -/
def RIsAt (s : ByteArray) (i : Value) : Prop :=
  ∃ k : Nat, k ≤ s.size ∧ i = .int .i64 k ∧ (∀ j (hj : j < s.data.toList.length), j < k → okB s.data.toList[j].toNat = true) ∧ (0 < k → smB (s.data.toList.getD 0 0).toNat = true)
set_option maxHeartbeats 2000000 in
set_option maxRecDepth 100000 in
theorem risName_any (s : ByteArray) (w : World) (hs : s.size ≤ 9223372036854775807) :
    Calls Try.prog 29 #[.string s] w fun e w' => e = .returned (.bool (isN s.data.toList)) ∧ w = w' := by
  have hsl : s.data.toList.length = s.size := rfl
  obtain ⟨r, hr⟩ : ∃ r, r = isN s.data.toList := ⟨_, rfl⟩
  rw [← hr]
  have HR := Lib.hid hr
  have HSL := Lib.hid hsl
  clear hsl hr
  go_enter Try.func29, Try.ntmps29
  go_wp2_with fail
  go_loop [3, 4, 5] (fun i _ _ => RIsAt s i) (fun i _ _ => s.size - (intOf i).toNat)
  case atStart => exact ⟨0, Nat.zero_le _, rfl, fun j _ h => absurd h (by omega), fun h => absurd h (by omega)⟩
  case round =>
    obtain ⟨k, hk, rfl, hok, hfi⟩ := hrel
    by_cases hlt : k < s.size
    · have hke : s.data.toList[k]'(by rw [HSL.out]; exact hlt) = s[k] := rfl
      have hnb : s[k].toNat ≤ 255 := by have := s[k].toNat_lt; omega
      have hg0 : k = 0 → (s.data.toList.getD 0 0).toNat = s[k].toNat := fun hk0 => by
        subst hk0
        rw [List.getD_eq_getElem?_getD, List.getElem?_eq_getElem (by rw [HSL.out]; exact hlt)]
        rfl
      have HST : Hid (okB s[k].toNat = true → ∀ j (hj : j < s.data.toList.length), j < k + 1 → okB s.data.toList[j].toNat = true) := Lib.hid (fun hh j hj hjk => by
        by_cases hjk2 : j = k
        · subst hjk2; exact hh
        · exact hok j hj (by omega))
      have HFI : Hid ((k = 0 → smB s[k].toNat = true) → 0 < k + 1 → smB (s.data.toList.getD 0 0).toNat = true) := Lib.hid (fun hh _ => by
        by_cases hk0 : k = 0
        · rw [hg0 hk0]; exact hh hk0
        · exact hfi (by omega))
      have HBAD : Hid (okB s[k].toNat = false → r = false) := Lib.hid (fun hh => by rw [HR.out]; exact isN_bad k (by rw [HSL.out]; exact hlt) hh)
      have HBAD0 : Hid (k = 0 → smB s[k].toNat = false → r = false) := Lib.hid (fun hk0 hh => by rw [HR.out]; exact isN_first (by rw [hg0 hk0]; exact hh))
      clear hok hfi hg0 hke
      have i0 : (0 : Int) ≤ (k : Int) := by omega
      have i1 : (k : Int) < (s.size : Int) := by omega
      by_cases hs1 : smB s[k].toNat = true
      · have HO1 := Lib.hid (HST.out (ok_small hs1))
        have HO2 := Lib.hid (HFI.out (fun _ => hs1))
        have hs2 : 97 ≤ s[k].toNat ∧ s[k].toNat ≤ 122 := by unfold smB at hs1; simpa using hs1
        obtain ⟨d1, d2⟩ := hs2
        clear hs1
        go_wp2_with fail
        go_round
        case rel => exact ⟨k + 1, by omega, by go_num, HO1.out, HO2.out⟩
        case measure => simp [intOf]; omega
      · have hs2 : smB s[k].toNat = false := by simpa using hs1
        have hs3 : s[k].toNat < 97 ∨ (97 ≤ s[k].toNat ∧ decide ((s[k].toNat : Int) ≤ 122) = false) := by unfold smB at hs2; simp at hs2 ⊢; omega
        rcases Nat.eq_zero_or_pos k with hk0 | hk0
        · have HRF : Hid (r = false) := Lib.hid (HBAD0.out hk0 hs2)
          have k00 : ((k : Int) == 0) = true := by simp; omega
          have k01 : (k == 0) = true := by simp; omega
          clear hs1 hs2 hk0
          rcases hs3 with hs3 | ⟨hs3, e122⟩
          all_goals
            go_wp2_with fail
            go_ret
            exact ⟨ret_bool HRF.out.symm, rfl⟩
        · have k00 : ((k : Int) == 0) = false := by simp; omega
          have k01 : (k == 0) = false := by simp; omega
          have HO2 := Lib.hid (HFI.out (fun h => absurd h (by omega)))
          by_cases hd : okB s[k].toNat = true
          · have HO1 := Lib.hid (HST.out hd)
            have hd2 : (48 ≤ s[k].toNat ∧ s[k].toNat ≤ 57) ∨ s[k].toNat = 45 ∨ s[k].toNat = 95 := by unfold okB at hd; rw [hs2] at hd; simpa using hd
            clear hs1 hs2 hd hk0
            rcases hd2 with ⟨q1, q2⟩ | hm | hm
            · rcases hs3 with hs3 | ⟨hs3, e122⟩
              · have e57 : decide ((s[k].toNat : Int) ≤ 57) = true := by simp; omega
                have z1 : ((s[k].toNat : Int) != 45) = true := by simp; omega
                have z2 : ((s[k].toNat : Int) != 95) = true := by simp; omega
                go_wp2_with fail
                go_round
                case rel => exact ⟨k + 1, by omega, by go_num, HO1.out, HO2.out⟩
                case measure => simp [intOf]; omega
              · omega
            · have z1 : ((s[k].toNat : Int) != 45) = false := by simp; omega
              clear hm
              rcases hs3 with hs3 | ⟨hs3, e122⟩
              all_goals
                go_wp2_with fail
                go_round
                case rel => exact ⟨k + 1, by omega, by go_num, HO1.out, HO2.out⟩
                case measure => simp [intOf]; omega
            · have z1 : ((s[k].toNat : Int) != 45) = true := by simp; omega
              have z2 : ((s[k].toNat : Int) != 95) = false := by simp; omega
              clear hm
              rcases hs3 with hs3 | ⟨hs3, e122⟩
              all_goals
                go_wp2_with fail
                go_round
                case rel => exact ⟨k + 1, by omega, by go_num, HO1.out, HO2.out⟩
                case measure => simp [intOf]; omega
          · have hd1 : okB s[k].toNat = false := by simpa using hd
            have HRF : Hid (r = false) := Lib.hid (HBAD.out hd1)
            have hd2 : (s[k].toNat < 48 ∨ (48 ≤ s[k].toNat ∧ decide ((s[k].toNat : Int) ≤ 57) = false)) ∧ ¬ s[k].toNat = 45 ∧ ¬ s[k].toNat = 95 := by unfold okB at hd1; rw [hs2] at hd1; simp at hd1 ⊢; omega
            obtain ⟨hd3, hd4, hd5⟩ := hd2
            have z1 : ((s[k].toNat : Int) != 45) = true := by simp; omega
            have z2 : ((s[k].toNat : Int) != 95) = true := by simp; omega
            clear hs1 hs2 hd hd1 hk0 hd4 hd5
            rcases hs3 with hs3 | ⟨hs3, e122⟩
            · rcases hd3 with hd3 | ⟨hd3, e57⟩
              all_goals
                go_wp2_with fail
                go_ret
                exact ⟨ret_bool HRF.out.symm, rfl⟩
            · have e57 : decide ((s[k].toNat : Int) ≤ 57) = false := by simp; omega
              have e48 : 48 ≤ s[k].toNat := by omega
              clear hd3
              go_wp2_with fail
              go_ret
              exact ⟨ret_bool HRF.out.symm, rfl⟩
    · have HW := Lib.hid (rwithin_any (s.size : Int) 1 40)
      have hre : r = decide ((1 : Int) ≤ (s.size : Int) ∧ (s.size : Int) ≤ 40) := by
        rw [HR.out]
        by_cases h1 : 1 ≤ s.size
        · by_cases h2 : s.size ≤ 40
          · rw [isN_yes (by rw [HSL.out]; exact h1) (by rw [HSL.out]; exact h2) (hfi (by omega)) (fun j hj => hok j hj (by rw [HSL.out] at hj; omega))]
            simp; omega
          · rw [isN_long (by rw [HSL.out]; omega)]
            simp; omega
        · have : s.data.toList = [] := List.eq_nil_of_length_eq_zero (by rw [HSL.out]; omega)
          rw [this, isN_nil]
          simp; omega
      rw [← hre] at HW
      clear hok hfi hre
      go_wp2_with fail
      refine (HW.out _).mono ?_
      rintro e w1 ⟨rfl, rfl⟩
      go_wp2_with fail
      go_ret
      exact ⟨rfl, rfl⟩
end Go.Proofs.Ytldfommfaegdiaa
