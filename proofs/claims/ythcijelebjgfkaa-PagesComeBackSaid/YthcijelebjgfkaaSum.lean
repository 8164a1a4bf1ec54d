/- the walks of the two sums. -/
import Derived.Test.YthcijelebjgfkaaCrc
import Derived.Test.YthcijelebjgfkaaWords
import Derived.WalkKit
import Derived.Outline
import Derived.Laws.BitsAllLaws
import Derived.Lib.Hide
namespace Go.Proofs.Ythcijelebjgfkaa
open Go.RowKit

/-- the state behind some bytes -/
def crcN (l : List UInt8) : Nat := l.foldl (fun s c => Crc.fast s c.toNat) 65535
def crc (l : List UInt8) : Int := (crcN l : Int)
theorem crcN_snoc (l : List UInt8) (c : UInt8) : crcN (l ++ [c]) = Crc.fast (crcN l) c.toNat := by simp [crcN]
theorem crcN_lt (l : List UInt8) : crcN l < 65536 := by
  unfold crcN
  have : ∀ (l : List UInt8) (s : Nat), s < 65536 → l.foldl (fun s c => Crc.fast s c.toNat) s < 65536 := by
    intro l
    induction l with
    | nil => intro s hs; exact hs
    | cons c l ih => intro s hs; exact ih _ (Crc.fast_lt _ _ c.toNat_lt hs)
  exact this l 65535 (by omega)
theorem take_one (l : List UInt8) (k : Nat) (h : k < l.length) : l.take (k + 1) = l.take k ++ [l[k]] := by
  rw [List.take_succ_eq_append_getElem h]

theorem x16 (a b : Nat) (ha : a < 65536) (hb : b < 65536) : bits .xor .u16 (a : Int) (b : Int) = ((a ^^^ b : Nat) : Int) := u16_xor_nat a b ha hb
theorem w16 (a k : Nat) : IntKind.u16.wrap ((a : Int) * (k : Int)) = ((a * k % 65536 : Nat) : Int) := by rw [IntKind.wrap_u16]; omega
theorem fast_bits (F C : Nat) (hF : F < 65536) (hC : C < 256) :
    bits .xor .u16 (bits .xor .u16 (bits .xor .u16 (IntKind.u16.wrap ((F : Int) * 256))
      (IntKind.u16.wrap (bits .xor .u16 (bits .xor .u16 ((F : Int) / 256) (C : Int)) (bits .xor .u16 ((F : Int) / 256) (C : Int) / 16) * 4096)))
      (IntKind.u16.wrap (bits .xor .u16 (bits .xor .u16 ((F : Int) / 256) (C : Int)) (bits .xor .u16 ((F : Int) / 256) (C : Int) / 16) * 32)))
      (bits .xor .u16 (bits .xor .u16 ((F : Int) / 256) (C : Int)) (bits .xor .u16 ((F : Int) / 256) (C : Int) / 16)) = ((Crc.fast F C : Nat) : Int) := by
  have e1 : bits .xor .u16 ((F : Int) / 256) (C : Int) = ((F / 256 ^^^ C : Nat) : Int) := by
    rw [show (F : Int) / 256 = ((F / 256 : Nat) : Int) by omega]; exact x16 _ _ (by omega) (by omega)
  have ht : F / 256 ^^^ C < 256 := Crc.xlt8 (by omega) hC
  have hm := Crc.mix_lt ht
  have e2 : bits .xor .u16 ((F / 256 ^^^ C : Nat) : Int) (((F / 256 ^^^ C : Nat) : Int) / 16) = ((Crc.mix (F / 256 ^^^ C) : Nat) : Int) := by
    rw [show (((F / 256 ^^^ C : Nat) : Int) / 16) = ((((F / 256 ^^^ C) / 16 : Nat)) : Int) by omega]; exact x16 _ _ (by omega) (by omega)
  rw [e1, e2]
  generalize hM : Crc.mix (F / 256 ^^^ C) = M at *
  have a1 := w16 F 256
  have a2 := w16 M 4096
  have a3 := w16 M 32
  rw [show ((F : Int) * 256) = (F : Int) * ((256 : Nat) : Int) by rfl, show ((M : Int) * 4096) = (M : Int) * ((4096 : Nat) : Int) by rfl, show ((M : Int) * 32) = (M : Int) * ((32 : Nat) : Int) by rfl, a1, a2, a3]
  rw [x16 _ _ (by omega) (by omega), x16 _ _ (Crc.xlt (by omega) (by omega)) (by omega), x16 _ _ (Crc.xlt (Crc.xlt (by omega) (by omega)) (by omega)) (by omega)]
  unfold Crc.fast
  rw [hM]

set_option maxHeartbeats 400000 in
theorem sum_any (A : Option Addr) (c : Nat) (l : List UInt8) (B : Nat) (w : World) (hl : l.length ≤ 9223372036854775807) (h : BR w B A l) :
    Calls Try.prog 30 #[.slice A l.length c] w fun e w' => e = .returned (.int .i64 (crc l)) ∧ w = w' := by
  go_enter Try.func30, Try.ntmps30
  go_wp2
  go_loop [3, 9] (fun s i => ∃ k : Nat, k ≤ l.length ∧ i = .int .i64 k ∧ s = .int .u16 (crcN (l.take k) : Int)) (fun _ i => l.length - (intOf i).toNat)
  case atStart => exact ⟨0, Nat.zero_le _, rfl, rfl⟩
  case round =>
    obtain ⟨k, hk, rfl, rfl⟩ := hrel
    by_cases hlt : k < l.length
    · obtain ⟨ad, rfl, -, hc⟩ := h.get k hlt
      have hs := crcN_lt (l.take k)
      generalize hF : crcN (l.take k) = F at hs ⊢
      generalize hC : l[k].toNat = C at hc
      have hC2 : C < 256 := by rw [← hC]; exact UInt8.toNat_lt _
      have HF := Lib.hid hF
      have HC := Lib.hid hC
      clear hF hC
      go_wp2
      go_round
      case rel => exact ⟨k + 1, by omega, by go_num, by rw [fast_bits F C hs hC2, take_one l k hlt, crcN_snoc, HF.out, HC.out]⟩
      case measure => simp [intOf]; omega
    · go_wp2
      go_ret
      refine ⟨ret_int ?_, rfl⟩
      rw [List.take_of_length_le (by omega)]
      have := crcN_lt l
      exact IntWalk.wrap64_in _ ⟨by omega, by omega⟩
/-- the bit-wise rounds from a state, j of them -/
def roundsN : Nat → Nat → Nat
  | 0, s => s
  | j + 1, s => Crc.rnd (roundsN j s)
theorem rounds_lt (s : Nat) (hs : s < 65536) : ∀ j, roundsN j s < 65536
  | 0 => hs
  | _ + 1 => Crc.rnd_lt _
theorem of64 (a : Nat) (ha : a < 9223372036854775808) : (BitVec.ofInt IntKind.i64.bits (a : Int)).toNat = a := by
  show (BitVec.ofInt 64 (a : Int)).toNat = a
  rw [BitVec.ofInt_natCast, BitVec.toNat_ofNat]; exact Nat.mod_eq_of_lt (by omega)
theorem and64 (a b : Nat) (ha : a < 9223372036854775808) (hb : b < 9223372036854775808) : bits .and .i64 (a : Int) (b : Int) = ((a &&& b : Nat) : Int) := by
  have hx : a &&& b < 2 ^ 63 := Nat.and_lt_two_pow _ (by omega)
  have e : (BitVec.ofInt IntKind.i64.bits (a : Int) &&& BitVec.ofInt IntKind.i64.bits (b : Int)).toNat = a &&& b := by rw [BitVec.toNat_and, of64 a ha, of64 b hb]
  unfold bits
  simp only [e]
  exact IntWalk.i64_in _ (by omega)
theorem or64 (a b : Nat) (ha : a < 9223372036854775808) (hb : b < 9223372036854775808) : bits .or .i64 (a : Int) (b : Int) = ((a ||| b : Nat) : Int) := by
  have hx : a ||| b < 2 ^ 63 := Nat.or_lt_two_pow (by omega) (by omega)
  have e : (BitVec.ofInt IntKind.i64.bits (a : Int) ||| BitVec.ofInt IntKind.i64.bits (b : Int)).toNat = a ||| b := by rw [BitVec.toNat_or, of64 a ha, of64 b hb]
  unfold bits
  simp only [e]
  exact IntWalk.i64_in _ (by omega)
theorem xor64 (a b : Nat) (ha : a < 9223372036854775808) (hb : b < 9223372036854775808) : bits .xor .i64 (a : Int) (b : Int) = ((a ^^^ b : Nat) : Int) := by
  have hx : a ^^^ b < 2 ^ 63 := Nat.xor_lt_two_pow (by omega) (by omega)
  have e : (BitVec.ofInt IntKind.i64.bits (a : Int) ^^^ BitVec.ofInt IntKind.i64.bits (b : Int)).toNat = a ^^^ b := by rw [BitVec.toNat_xor, of64 a ha, of64 b hb]
  unfold bits
  simp only [e]
  exact IntWalk.i64_in _ (by omega)
theorem high_set (S : Nat) (h : S < 65536) (hb : 32768 ≤ S) : bits .and .i64 (S : Int) 32768 = 32768 := by
  have := and64 S 32768 (by omega) (by omega)
  have e : S &&& 32768 = 32768 := by
    have hm : S &&& 2 ^ 15 = 2 ^ 15 := by
      apply Nat.eq_of_testBit_eq; intro i
      rw [Nat.testBit_and, Nat.testBit_two_pow]
      by_cases c : 15 = i
      · subst c; rw [(Crc.top S h).1 hb]; simp
      · simp [c]
    exact hm
  rw [e] at this
  exact this
theorem high_clear (S : Nat) (h : S < 65536) (hb : ¬ 32768 ≤ S) : bits .and .i64 (S : Int) 32768 = 0 := by
  have := and64 S 32768 (by omega) (by omega)
  have e : S &&& 32768 = 0 := by
    have hf : S.testBit 15 = false := by simpa using fun q => hb ((Crc.top S h).2 q)
    have hm : S &&& 2 ^ 15 = 0 := by
      apply Nat.eq_of_testBit_eq; intro i
      rw [Nat.testBit_and, Nat.testBit_two_pow]
      by_cases c : 15 = i
      · subst c; rw [hf]; simp
      · simp [c]
    exact hm
  rw [e] at this
  exact this
theorem low16 (a : Nat) (h : a < 9223372036854775808) : bits .and .i64 (a : Int) 65535 = ((a % 65536 : Nat) : Int) := by
  have := and64 a 65535 h (by omega)
  rw [show a &&& 65535 = a % 65536 from Nat.and_two_pow_sub_one_eq_mod a 16] at this
  exact this
theorem rounds8 (s : Nat) : roundsN 8 s = Crc.rnd8 s := rfl

end Go.Proofs.Ythcijelebjgfkaa
