/- the sum of the reference of stage 4. -/
import Derived.Test.YthcijelebjgfkaaSum
namespace Go.Proofs.Ythcijelebjgfkaa
open Go.RowKit

set_option maxRecDepth 100000 in
set_option maxHeartbeats 1000000 in
theorem rsumOf_any (A : Option Addr) (c : Nat) (l : List UInt8) (B : Nat) (w : World) (hl : l.length ≤ 9223372036854775807) (h : BR w B A l) :
    Calls Try.prog 39 #[.slice A l.length c] w fun e w' => e = .returned (.int .i64 (crc l)) ∧ w = w' := by
  go_enter Try.func39, Try.ntmps39
  go_wp2
  go_loop [3, 4] (fun s i => ∃ k : Nat, k ≤ l.length ∧ i = .int .i64 k ∧ s = .int .i64 (crcN (l.take k) : Int)) (fun _ i => l.length - (intOf i).toNat)
  case atStart => exact ⟨0, Nat.zero_le _, rfl, rfl⟩
  case round =>
    obtain ⟨k, hk, rfl, rfl⟩ := hrel
    by_cases hlt : k < l.length
    · obtain ⟨ad, rfl, -, hc⟩ := h.get k hlt
      have hs := crcN_lt (l.take k)
      generalize hF : crcN (l.take k) = F at hs ⊢
      generalize hC : l[k].toNat = C at hc
      have hC2 : C < 256 := by rw [← hC]; exact UInt8.toNat_lt _
      have HF := Lib.hid hF
      have HC := Lib.hid hC
      clear hF hC
      go_wp2
      have hG : F ^^^ C * 256 < 65536 := Crc.xlt hs (by omega)
      have hx : bits .xor .i64 (F : Int) ((C : Int) * 256) = ((F ^^^ C * 256 : Nat) : Int) := by
        have := xor64 F (C * 256) (by omega) (by omega)
        rw [Int.natCast_mul] at this
        exact this
      have HX := Lib.hid hx
      clear hx
      go_loop [3, 20] (fun s i => ∃ j : Nat, j ≤ 8 ∧ i = .int .i64 j ∧ s = .int .i64 (roundsN j (F ^^^ C * 256) : Int)) (fun _ i => 8 - (intOf i).toNat)
      case atStart => exact ⟨0, by omega, rfl, by rw [HX.out]; rfl⟩
      case round =>
        obtain ⟨j, hj, rfl, rfl⟩ := hrel
        have hS := rounds_lt _ hG j
        have HR := Lib.hid (show roundsN (j + 1) (F ^^^ C * 256) = Crc.rnd (roundsN j (F ^^^ C * 256)) from rfl)
        generalize hT : roundsN j (F ^^^ C * 256) = T at *
        by_cases hj8 : j < 8
        · have HT := Lib.hid hT
          clear hT
          have e3 : bits .xor .i64 ((2 * T % 65536 : Nat) : Int) 4129 = ((2 * T % 65536 ^^^ 4129 : Nat) : Int) := xor64 _ 4129 (by omega) (by omega)
          have e4 : (T : Int) * 2 % 65536 = ((2 * T % 65536 : Nat) : Int) := by omega
          obtain ⟨D, hD⟩ : ∃ D : Nat, D = 2 * T % 65536 := ⟨_, rfl⟩
          have hD2 : D < 65536 := by omega
          rw [← hD] at e3 e4
          by_cases hb : 32768 ≤ T
          · have HR2 : Hid (roundsN (j + 1) (F ^^^ C * 256) = D ^^^ 4129) := by
              have := HR.out
              unfold Crc.rnd at this
              rw [if_pos hb, ← hD] at this
              exact this
            have t1 : decide ((32768 : Int) ≤ (T : Int)) = true := decide_eq_true (by omega)
            have t3 : (T : Int) * 2 ≤ 131070 := by omega
            clear hD hb
            go_wp2
            go_round
            case rel => exact ⟨j + 1, by omega, by go_num, by rw [HR2.out]⟩
            case measure => simp [intOf]; omega
          · have HR2 : Hid (roundsN (j + 1) (F ^^^ C * 256) = D) := by
              have := HR.out
              unfold Crc.rnd at this
              rw [if_neg hb, ← hD] at this
              exact this
            clear e3
            have t1 : decide ((32768 : Int) ≤ (T : Int)) = false := decide_eq_false (by omega)
            clear hD hb
            go_wp2
            go_round
            case rel => exact ⟨j + 1, by omega, by go_num, by rw [HR2.out, e4]⟩
            case measure => simp [intOf]; omega
        · obtain rfl : j = 8 := by omega
          have hT8 : T = Crc.fast F C := by rw [← hT, rounds8, Crc.fast_eq F C hs hC2]; rfl
          have HT := Lib.hid hT8
          clear hT hT8 HR
          go_wp2
          go_round
          case rel => exact ⟨k + 1, by omega, by go_num, by rw [HT.out, take_one l k hlt, crcN_snoc, HF.out, HC.out]⟩
          case measure => simp [intOf]; omega
    · go_wp2
      go_ret
      refine ⟨ret_int ?_, rfl⟩
      rw [List.take_of_length_le (by omega)]
      rfl
end Go.Proofs.Ythcijelebjgfkaa
