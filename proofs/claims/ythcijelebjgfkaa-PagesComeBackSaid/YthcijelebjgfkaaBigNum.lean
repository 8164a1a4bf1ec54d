/- the number that bytes are, the greatest first. -/
import Derived.Test.YthcijelebjgfkaaWords
import Derived.WalkKit
import Derived.Outline
import Derived.Laws.BitsAllLaws
import Derived.Lib.Hide
namespace Go.Proofs.Ythcijelebjgfkaa
open Go.RowKit

/-- bytes as a number, the greatest one first -/
def bigN (l : List UInt8) : Nat := l.foldl (fun s c => s * 256 + c.toNat) 0
theorem bigN_snoc (l : List UInt8) (c : UInt8) : bigN (l ++ [c]) = bigN l * 256 + c.toNat := by simp [bigN]
theorem bigN_lt (l : List UInt8) : bigN l < 256 ^ l.length := by
  suffices h : ∀ n (l : List UInt8), l.length = n → bigN l < 256 ^ n from h _ l rfl
  intro n
  induction n with
  | zero =>
    intro l hl
    obtain rfl := List.eq_nil_of_length_eq_zero hl
    simp [bigN]
  | succ n ih =>
    intro l hl
    obtain ⟨x, c, rfl⟩ : ∃ x c, l = x ++ [c] := ⟨l.dropLast, l.getLast (by intro h; simp [h] at hl), (List.dropLast_concat_getLast _).symm⟩
    have hx := ih x (by simp at hl; omega)
    have hc := c.toNat_lt
    rw [bigN_snoc, Nat.pow_succ]
    omega
theorem bigN_7 (l : List UInt8) (h : l.length ≤ 7) : bigN l < 72057594037927936 :=
  Nat.lt_of_lt_of_le (bigN_lt l) (Nat.pow_le_pow_right (by omega) h)
theorem bigN_6 (l : List UInt8) (h : l.length ≤ 6) : bigN l < 281474976710656 :=
  Nat.lt_of_lt_of_le (bigN_lt l) (Nat.pow_le_pow_right (by omega) h)
theorem bof64 (a : Nat) (ha : a < 9223372036854775808) : (BitVec.ofInt IntKind.i64.bits (a : Int)).toNat = a := by
  show (BitVec.ofInt 64 (a : Int)).toNat = a
  rw [BitVec.ofInt_natCast, BitVec.toNat_ofNat]; exact Nat.mod_eq_of_lt (by omega)
theorem bor64 (a b : Nat) (ha : a < 9223372036854775808) (hb : b < 9223372036854775808) : bits .or .i64 (a : Int) (b : Int) = ((a ||| b : Nat) : Int) := by
  have hx : a ||| b < 2 ^ 63 := Nat.or_lt_two_pow (by omega) (by omega)
  have e : (BitVec.ofInt IntKind.i64.bits (a : Int) ||| BitVec.ofInt IntKind.i64.bits (b : Int)).toNat = a ||| b := by rw [BitVec.toNat_or, bof64 a ha, bof64 b hb]
  unfold bits
  simp only [e]
  exact IntWalk.i64_in _ (by omega)
theorem bor_byte (a b : Nat) (ha : a < 281474976710656) (hb : b < 256) : bits .or .i64 ((a : Int) * 256) (b : Int) = ((a * 256 + b : Nat) : Int) := by
  have := bor64 (a * 256) b (by omega) (by omega)
  rw [Int.natCast_mul] at this
  rw [show ((a : Int) * 256) = (a : Int) * ((256 : Nat) : Int) by rfl, this]
  have h := Nat.two_pow_add_eq_or_of_lt (i := 8) (b := b) (by omega) a
  rw [show a * 256 = 2 ^ 8 * a by omega, ← h]

theorem take_one' (l : List UInt8) (k : Nat) (h : k < l.length) : l.take (k + 1) = l.take k ++ [l[k]] := by
  rw [List.take_succ_eq_append_getElem h]

set_option maxHeartbeats 400000 in
theorem number_any (A : Option Addr) (c : Nat) (l : List UInt8) (B : Nat) (w : World) (hl : l.length ≤ 7) (h : BR w B A l) :
    Calls Try.prog 64 #[.slice A l.length c] w fun e w' => e = .returned (.int .i64 (bigN l : Int)) ∧ w = w' := by
  go_enter Try.func64, Try.ntmps64
  go_wp2
  go_loop [3, 8] (fun s i => ∃ k : Nat, k ≤ l.length ∧ i = .int .i64 k ∧ s = .int .i64 (bigN (l.take k) : Int)) (fun _ i => l.length - (intOf i).toNat)
  case atStart => exact ⟨0, Nat.zero_le _, rfl, rfl⟩
  case round =>
    obtain ⟨k, hk, rfl, rfl⟩ := hrel
    by_cases hlt : k < l.length
    · obtain ⟨ad, rfl, -, hc⟩ := h.get k hlt
      have hs := bigN_6 (l.take k) (by simp; omega)
      generalize hF : bigN (l.take k) = F at hs ⊢
      generalize hC : l[k].toNat = C at hc
      have hC2 : C < 256 := by rw [← hC]; exact UInt8.toNat_lt _
      have HF := Lib.hid hF
      have HC := Lib.hid hC
      clear hF hC
      have hor := bor_byte F C hs hC2
      go_wp2
      go_round
      case rel => exact ⟨k + 1, by omega, by go_num, by rw [take_one' l k hlt, bigN_snoc, HF.out, HC.out]; congr 1⟩
      case measure => simp [intOf]; omega
    · go_wp2
      go_ret
      refine ⟨ret_int ?_, rfl⟩
      rw [List.take_of_length_le (by omega)]
