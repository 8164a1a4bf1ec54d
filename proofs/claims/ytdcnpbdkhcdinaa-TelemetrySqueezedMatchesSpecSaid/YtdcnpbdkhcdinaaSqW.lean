/- the parts of squeezing: how many are the same, a number in groups, a number from 0 on. -/
import Derived.Test.YtdcnpbdkhcdinaaSqMath
namespace Go.Proofs.Ytdcnpbdkhcdinaa
open Go.RowKit

set_option maxRecDepth 100000 in
set_option maxHeartbeats 1000000 in
theorem manySame_any (A : Option Addr) (l : List Int) (c : Nat) (b : Int) (B : Nat) (w : World) (hl : l.length ≤ 9223372036854775807) (h : IR w B A l) :
    Calls Try.prog 37 #[.slice A l.length c, .int .i64 b] w fun e w' => e = .returned (.int .i64 (sameN b l)) ∧ w = w' := by
  go_enter Try.func37, Try.ntmps37
  go_wp2_with fail
  go_loopw [9] (fun i wr => ∃ k : Nat, k ≤ l.length ∧ i = .int .i64 k ∧ sameN b l = k + sameN b (l.drop k) ∧ wr = w) (fun i _ => l.length - (intOf i).toNat)
  case atStart => exact ⟨0, Nat.zero_le _, rfl, by simp, rfl⟩
  case round =>
    obtain ⟨k, hk, rfl, ht, rfl⟩ := hrel
    by_cases hlt : k < l.length
    · obtain ⟨ad, rfl, -, hc⟩ := h.get k hlt
      have hi0 : (0 : Int) ≤ (k : Int) := by omega
      have hi1 : (k : Int) < (l.length : Int) := by omega
      rw [List.drop_eq_getElem_cons hlt] at ht
      have HT := Lib.hid ht
      clear ht
      by_cases hx : l[k] = b
      · have hx2 : (l[k] != b) = false := by simpa using hx
        have HX := Lib.hid hx
        clear hx
        generalize l[k] = x at *
        go_wp2_with fail
        go_roundw
        case rel => exact ⟨k + 1, by omega, by go_num, by rw [HT.out]; simp [sameN, HX.out]; omega, trivial⟩
        case measure => simp [intOf]; omega
      · have hx2 : (l[k] != b) = true := by simpa using hx
        have HX := Lib.hid hx
        clear hx
        generalize l[k] = x at *
        go_wp2_with fail
        go_ret
        exact ⟨by rw [HT.out]; simp [sameN, HX.out], rfl⟩
    · obtain rfl : k = l.length := by omega
      rw [List.drop_length] at ht
      have HT := Lib.hid ht
      clear ht
      go_wp2_with fail
      go_ret
      exact ⟨by rw [HT.out]; simp [sameN], rfl⟩
set_option maxRecDepth 100000 in
set_option maxHeartbeats 400000 in
theorem unsigned_any (n : Int) (w : World) (h1 : -2000000000 ≤ n) (h2 : n ≤ 2000000000) :
    Calls Try.prog 39 #[.int .i64 n] w fun e w' => e = .returned (.int .i64 (zigN n : Int)) ∧ w = w' := by
  by_cases h0 : n < 0
  · have e1 : IntKind.i64.wrap (-2 * n - 1) = -2 * n - 1 := IntWalk.i64_in _ (by omega)
    have e2 : wrap64 (-2 * n - 1) = -2 * n - 1 := IntWalk.wrap64_in _ (by omega)
    have e3 : (zigN n : Int) = -2 * n - 1 := by unfold zigN; rw [if_pos h0]; omega
    have E3 := Lib.hid e3
    clear e3
    go_enter Try.func39, Try.ntmps39
    go_wp2_with fail
    go_ret
    exact ⟨by rw [E3.out]; rfl, rfl⟩
  · have e3 : (zigN n : Int) = 2 * n := by unfold zigN; rw [if_neg h0]; omega
    have E3 := Lib.hid e3
    clear e3
    go_enter Try.func39, Try.ntmps39
    go_wp2_with fail
    go_ret
    exact ⟨by rw [E3.out]; rfl, rfl⟩
theorem band64 (a b : Nat) (ha : a < 9223372036854775808) (hb : b < 9223372036854775808) : bits .and .i64 (a : Int) (b : Int) = ((a &&& b : Nat) : Int) := by
  have h1 := bof64 a ha
  have h2 := bof64 b hb
  have h3 : a &&& b < 9223372036854775808 := Nat.lt_of_le_of_lt Nat.and_le_left ha
  unfold bits
  simp only [BitVec.toNat_and, h1, h2]
  exact IntWalk.i64_in _ (by omega)
theorem grp_byte (m : Nat) (hm : m < 9223372036854775808) : bits .or .i64 (bits .and .i64 (m : Int) 127) 128 % 256 = (((UInt8.ofNat (m % 128 + 128)).toNat : Nat) : Int) := by
  have e1 : m &&& 127 = m % 128 := by
    have := Nat.and_two_pow_sub_one_eq_mod m 7
    simpa using this
  have h1 : m % 128 < 128 := Nat.mod_lt _ (by omega)
  have e2 : m % 128 ||| 128 = m % 128 + 128 := by
    have := Nat.two_pow_add_eq_or_of_lt (i := 7) h1 1
    rw [Nat.or_comm]
    simpa [Nat.add_comm] using this.symm
  rw [show bits .and .i64 (m : Int) 127 = ((m % 128 : Nat) : Int) from e1 ▸ band64 m 127 hm (by omega), show bits .or .i64 ((m % 128 : Nat) : Int) 128 = ((m % 128 + 128 : Nat) : Int) from e2 ▸ bor64 (m % 128) 128 (by omega) (by omega), show (UInt8.ofNat (m % 128 + 128)).toNat = (m % 128 + 128) % 256 from UInt8.toNat_ofNat']
  omega
theorem grp_low (m : Nat) (hm : m < 128) : (m : Int) = (((UInt8.ofNat m).toNat : Nat) : Int) := by
  rw [show (UInt8.ofNat m).toNat = m % 256 from UInt8.toNat_ofNat']
  omega
set_option maxRecDepth 100000 in
set_option maxHeartbeats 1000000 in
theorem groups_any (base : Nat) (v : Value) (l : List UInt8) (n : Nat) (w : World) (hn : n < 34359738368) (hl : l.length ≤ 1000000) (hbase : base ≤ w.heap.size) (h : Own w base v l) :
    Calls Try.prog 38 #[v, .int .i64 n] w fun e w' => ∃ v', e = .returned v' ∧ Own w' base v' (l ++ grpN n) ∧ Next w w' v v' := by
  go_enter Try.func38, Try.ntmps38
  go_wp2_with fail
  go_loopw [0, 1] (fun u i wr => ∃ (m : Nat) (X : List UInt8), m ≤ n ∧ i = .int .i64 m ∧ l ++ grpN n = X ++ grpN m ∧ X.length + (grpN m).length ≤ 1000005 ∧ Own wr base u X ∧ Next w wr v u) (fun _ i _ => (intOf i).toNat)
  case atStart => exact ⟨n, l, Nat.le_refl _, rfl, rfl, by have := grp_len 4 n (by omega); omega, h, Next.refl _ _⟩
  case round =>
    obtain ⟨m, X, hm, rfl, hE, hX, hown, hnx⟩ := hrel
    have HE := Lib.hid hE
    have hz := hnx.1.size
    clear hE h
    by_cases h1 : 127 < m
    · have i1 : (127 : Int) < (m : Int) := by omega
      rw [grp_more h1] at hX
      have HB := Lib.hid (grp_byte m (by omega))
      have hval : ∃ b : UInt8, b = UInt8.ofNat (m % 128 + 128) := ⟨_, rfl⟩
      obtain ⟨b, hb⟩ := hval
      rw [← hb] at HB hX
      have HBE := Lib.hid hb
      clear hb
      simp only [List.length_cons] at hX
      go_wp2_with (first | (at_builtin; refine wpList_app _ rfl (.tmp 7) (.tmp 12) 23 5 1 1 rfl elem8 base u0 X.length (X.map bv) rfl (World.ownsRow.alloc hown _) (wr.heap.size + 1) _ 1 1 ([b].map bv) rfl rfl (Cells.fresh wr _ 5 _ _ (by rw [HB.out]; rfl)) (bv_one _) (by unfold maxLen; omega) (by omega) (by simp; omega) ?_; intro v7 w7 hown7 hgrow7 hat7) | fail)
      go_roundw
      case rel =>
        refine ⟨m / 128, X ++ [b], by omega, by go_num, ?_, by simp; omega, Own.of hown7 rfl, ?_⟩
        · rw [HE.out, grp_more h1, ← HBE.out]; simp
        · exact hnx.trans ((Next.alloc wr _ u0).trans ⟨hgrow7, hat7.imp id fun e => ⟨_, e, Nat.le_refl _⟩⟩)
      case measure => simp [intOf]; omega
    · have i1 : ¬ (127 : Int) < (m : Int) := by omega
      rw [grp_last h1] at hX
      have HB := Lib.hid (grp_low m (by omega))
      obtain ⟨b, hb⟩ : ∃ b : UInt8, b = UInt8.ofNat m := ⟨_, rfl⟩
      rw [← hb] at HB
      have HBE := Lib.hid hb
      have HG := Lib.hid (grp_last h1)
      clear hb
      simp only [List.length_cons, List.length_nil] at hX
      go_wp2_with (first | (at_builtin; refine wpList_app _ rfl (.tmp 16) (.tmp 19) 23 5 1 1 rfl elem8 base u0 X.length (X.map bv) rfl (World.ownsRow.alloc hown _) (wr.heap.size + 1) _ 1 1 ([b].map bv) rfl rfl (Cells.fresh wr _ 5 _ _ (by rw [HB.out]; rfl)) (bv_one _) (by unfold maxLen; omega) (by omega) (by simp; omega) ?_; intro v7 w7 hown7 hgrow7 hat7) | fail)
      go_ret
      refine ⟨_, rfl, ?_, ?_⟩
      · rw [HE.out, HG.out, ← HBE.out]
        exact Own.of hown7 rfl
      · exact hnx.trans ((Next.alloc wr _ u0).trans ⟨hgrow7, hat7.imp id fun e => ⟨_, e, Nat.le_refl _⟩⟩)
end Go.Proofs.Ytdcnpbdkhcdinaa
