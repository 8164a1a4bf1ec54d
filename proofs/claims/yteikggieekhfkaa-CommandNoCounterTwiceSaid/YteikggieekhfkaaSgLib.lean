/- what the signed commands call of the library: a number of eight bytes, Contains, BinarySearch. -/
import Derived.Test.YteikggieekhfkaaKeys
namespace Go.Proofs.Yteikggieekhfkaa
open Go.RowKit

theorem i64w_small (n : Nat) (h : n < 9223372036854775808) : i64w n = (n : Int) := by unfold i64w; rw [if_pos h]
theorem or8_step (a b : Nat) (ha : a < 72057594037927936) (hb : b < 256) : bits .or .i64 (IntKind.i64.wrap ((a : Int) * 256)) (b : Int) = i64w (a * 256 + b) := by
  have e1 : IntKind.i64.wrap ((a : Int) * 256) = i64w (a * 256) := by
    rw [show ((a : Int) * 256) = ((a * 256 : Nat) : Int) by rw [Int.natCast_mul]; rfl]
    exact i64w_wrap _ (by omega)
  have e2 : (BitVec.ofInt IntKind.i64.bits (i64w (a * 256)) ||| BitVec.ofInt IntKind.i64.bits (b : Int)).toNat = a * 256 + b := by
    rw [BitVec.toNat_or, bofw _ (by omega), bof64 b (by omega)]
    have h := Nat.two_pow_add_eq_or_of_lt (i := 8) (b := b) (by omega) a
    rw [show a * 256 = 2 ^ 8 * a by omega, ← h]
  rw [e1]
  unfold bits
  simp only [e2]
  exact i64w_wrap _ (by omega)
set_option maxHeartbeats 400000 in
theorem number8_any (A : Option Addr) (c : Nat) (l : List UInt8) (B : Nat) (w : World) (hl : l.length ≤ 8) (h : BR w B A l) :
    Calls Try.prog 97 #[.slice A l.length c] w fun e w' => e = .returned (.int .i64 (i64w (bigN l))) ∧ w = w' := by
  go_enter Try.func97, Try.ntmps97
  go_wp2
  go_loop [3, 8] (fun s i => ∃ k : Nat, k ≤ l.length ∧ i = .int .i64 k ∧ s = .int .i64 (i64w (bigN (l.take k)))) (fun _ i => l.length - (intOf i).toNat)
  case atStart => exact ⟨0, Nat.zero_le _, rfl, rfl⟩
  case round =>
    obtain ⟨k, hk, rfl, rfl⟩ := hrel
    by_cases hlt : k < l.length
    · obtain ⟨ad, rfl, -, hc⟩ := h.get k hlt
      have hs := bigN_7 (l.take k) (by simp; omega)
      have e1 := i64w_small (bigN (l.take k)) (by omega)
      rw [e1]
      have hC2 := UInt8.toNat_lt l[k]
      have hor := or8_step (bigN (l.take k)) l[k].toNat hs hC2
      have HN : Hid (i64w (bigN (l.take (k + 1))) = i64w (bigN (l.take k) * 256 + l[k].toNat)) := Lib.hid (by rw [take_one' l k hlt, bigN_snoc])
      generalize i64w (bigN (l.take k) * 256 + l[k].toNat) = Z at *
      generalize bigN (l.take k) = F at *
      generalize l[k].toNat = C at *
      have hi0 : (0 : Int) ≤ (k : Int) := by omega
      have hi1 : (k : Int) < (l.length : Int) := by omega
      have hw : IntKind.i64.wrap ((F : Int) * 256) = wrap64 ((F : Int) * 256) := IntWalk.i64_left _
      rw [hw] at hor
      clear e1 hs hw
      go_wp2
      go_round
      case rel => exact ⟨k + 1, by omega, by go_num, by rw [HN.out]⟩
      case measure => simp [intOf]; omega
    · go_wp2
      go_ret
      refine ⟨ret_int ?_, rfl⟩
      rw [List.take_of_length_le (by omega)]
/-- where a number stands first, or -1 -/
def IdxPost (x : Int) (l : List Int) (w : World) (e : Ending) (w' : World) : Prop := ∃ z : Int, e = .returned (.int .i64 z) ∧ (0 ≤ z ↔ x ∈ l) ∧ (z ≤ 9223372036854775807 ∧ -1 ≤ z) ∧ w = w'
set_option maxHeartbeats 400000 in
theorem index_any (A : Option Addr) (c : Nat) (l : List Int) (x : Int) (B : Nat) (w : World) (hl : l.length ≤ 9223372036854775807) (h : IR w B A l) :
    Calls Try.prog 78 #[.slice A l.length c, .int .i64 x] w (IdxPost x l w) := by
  go_enter Try.func78, Try.ntmps78
  go_wp2
  go_loop [8] (fun i => ∃ k : Nat, k ≤ l.length ∧ i = .int .i64 k ∧ x ∉ l.take k) (fun i => l.length - (intOf i).toNat)
  case atStart => exact ⟨0, Nat.zero_le _, rfl, by simp⟩
  case round =>
    obtain ⟨k, hk, rfl, hno⟩ := hrel
    by_cases hlt : k < l.length
    · obtain ⟨ad, rfl, -, hc⟩ := h.get k hlt
      have HM := Lib.hid (List.getElem_mem hlt)
      have HT := Lib.hid (List.take_succ_eq_append_getElem hlt)
      have HNO := Lib.hid hno
      generalize l[k] = n at *
      have hi0 : (0 : Int) ≤ (k : Int) := by omega
      have hi1 : (k : Int) < (l.length : Int) := by omega
      clear hno
      by_cases hx : x = n
      · have hb : (x == n) = true := by simpa using hx
        have HX := Lib.hid hx
        clear hx
        go_wp2
        go_ret
        exact ⟨k, rfl, ⟨fun _ => by rw [HX.out]; exact HM.out, fun _ => by omega⟩, by omega, rfl⟩
      · have hb : (x == n) = false := by simpa using hx
        have HX := Lib.hid hx
        clear hx
        go_wp2
        go_round
        case rel => exact ⟨k + 1, by omega, by go_num, by rw [HT.out]; intro q; rcases List.mem_append.1 q with q | q; exact HNO.out q; exact HX.out (by simpa using q)⟩
        case measure => simp [intOf]; omega
    · have HNO := Lib.hid hno
      clear hno
      go_wp2
      go_ret
      refine ⟨-1, rfl, ⟨fun q => by omega, fun q => ?_⟩, by omega, rfl⟩
      have := HNO.out
      rw [List.take_of_length_le (by omega)] at this
      exact absurd q this
theorem contains_any (A : Option Addr) (c : Nat) (l : List Int) (x : Int) (B : Nat) (w : World) (hl : l.length ≤ 9223372036854775807) (h : IR w B A l) :
    Calls Try.prog 37 #[.slice A l.length c, .int .i64 x] w fun e w' => e = .returned (.bool (decide (x ∈ l))) ∧ w = w' := by
  have HI := Lib.hid (index_any A c l x B w hl h)
  go_enter Try.func37, Try.ntmps37
  go_wp2_with fail
  refine HI.out.mono ?_
  rintro e w' ⟨z, rfl, hz, hzb, rfl⟩
  by_cases h0 : 0 ≤ z
  · have HD : Hid (decide (x ∈ l) = true) := Lib.hid (decide_eq_true (hz.1 h0))
    have d0 : decide ((0 : Int) ≤ z) = true := decide_eq_true h0
    clear hz
    go_wp2_with fail
    go_ret
    exact ⟨by rw [HD.out]; first | done | rfl, rfl⟩
  · have HD : Hid (decide (x ∈ l) = false) := Lib.hid (decide_eq_false (fun q => h0 (hz.2 q)))
    have d0 : decide ((0 : Int) ≤ z) = false := decide_eq_false h0
    clear hz
    go_wp2_with fail
    go_ret
    exact ⟨by rw [HD.out]; first | done | rfl, rfl⟩
end Go.Proofs.Yteikggieekhfkaa
