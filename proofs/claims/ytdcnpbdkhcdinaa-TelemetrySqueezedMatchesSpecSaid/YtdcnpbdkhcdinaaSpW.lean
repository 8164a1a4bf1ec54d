/- the parts of spreading: a number in groups, a number of a number from 0 on. -/
import Derived.Test.YtdcnpbdkhcdinaaSpMath
import Derived.Test.YtdcnpbdkhcdinaaSqW
namespace Go.Proofs.Ytdcnpbdkhcdinaa
open Go.RowKit

theorem unG_cons (k : Nat) (x : UInt8) (r : List UInt8) : unG (k + 1) (x :: r) = if x.toNat < 128 then (x.toNat, 1) else if (unG k r).2 = 0 then (0, 0) else (x.toNat % 128 + 128 * (unG k r).1, (unG k r).2 + 1) := rfl
theorem unG_none : ∀ (k : Nat) (b : List UInt8), (unG k b).2 = 0 → unG k b = (0, 0)
  | 0, _, _ => rfl
  | _ + 1, [], _ => rfl
  | k + 1, x :: r, h => by
    rw [unG_cons] at h ⊢
    by_cases h1 : x.toNat < 128
    · rw [if_pos h1] at h; simp at h
    · rw [if_neg h1] at h ⊢
      by_cases h2 : (unG k r).2 = 0
      · rw [if_pos h2]
      · rw [if_neg h2] at h; simp at h
theorem unG_begin (b : List UInt8) : unG 5 b = if (unG (5 - 0) (b.drop 0)).2 = 0 then (0, 0) else (0 + 128 ^ 0 * (unG (5 - 0) (b.drop 0)).1, 0 + (unG (5 - 0) (b.drop 0)).2) := by
  rw [List.drop_zero, Nat.sub_zero]
  by_cases h0 : (unG 5 b).2 = 0
  · rw [if_pos h0]; exact unG_none 5 b h0
  · rw [if_neg h0, Nat.pow_zero, Nat.one_mul, Nat.zero_add, Nat.zero_add]
theorem unG_step (b : List UInt8) (k m : Nat) (hk : k < b.length) (hk5 : k < 5) (h : unG 5 b = if (unG (5 - k) (b.drop k)).2 = 0 then (0, 0) else (m + 128 ^ k * (unG (5 - k) (b.drop k)).1, k + (unG (5 - k) (b.drop k)).2)) :
    (b[k].toNat < 128 → unG 5 b = (m + 128 ^ k * (b[k].toNat % 128), k + 1)) ∧
    (¬ b[k].toNat < 128 → unG 5 b = if (unG (5 - (k + 1)) (b.drop (k + 1))).2 = 0 then (0, 0) else (m + 128 ^ k * (b[k].toNat % 128) + 128 ^ (k + 1) * (unG (5 - (k + 1)) (b.drop (k + 1))).1, k + 1 + (unG (5 - (k + 1)) (b.drop (k + 1))).2)) := by
  have e5 : 5 - k = (5 - (k + 1)) + 1 := by omega
  rw [List.drop_eq_getElem_cons hk, e5, unG_cons] at h
  generalize unG 5 b = U at *
  generalize b[k].toNat = x at *
  refine ⟨fun hx => ?_, fun hx => ?_⟩
  · rw [if_pos hx] at h
    rw [h, if_neg (by simp), Nat.mod_eq_of_lt hx]
  · rw [if_neg hx] at h
    rw [h]
    by_cases h0 : (unG (5 - (k + 1)) (b.drop (k + 1))).2 = 0
    · rw [if_pos h0, if_pos rfl, if_pos h0]
    · rw [if_neg h0, if_neg (by simp), if_neg h0]
      have : 128 ^ (k + 1) = 128 ^ k * 128 := Nat.pow_succ ..
      rw [this, Nat.mul_add, Nat.mul_assoc]
      simp only [Prod.mk.injEq]
      omega
theorem and_u8 (x : Nat) (h : x < 256) : bits .and .u8 (x : Int) 127 = ((x % 128 : Nat) : Int) := by
  have : ∀ x : Fin 256, bits .and .u8 (x.val : Int) 127 = ((x.val % 128 : Nat) : Int) := by decide +kernel
  exact this ⟨x, h⟩
theorem shl_grp (m k r s M : Nat) (hk : k ≤ 4) (hm : m < 128 ^ k) (hr : r < 128) (hs : 128 ^ k * r = s) (hM : m + s = M) : wrap64 ((r : Int) * 2 ^ (7 * k)) = (s : Int) ∧ bits .or .i64 (m : Int) (s : Int) = (M : Int) ∧ M < 128 ^ (k + 1) := by
  have e : (128 : Nat) ^ k = 2 ^ (7 * k) := by rw [Nat.pow_mul]
  have hp : (128 : Nat) ^ k ≤ 268435456 := Nat.le_trans (Nat.pow_le_pow_right (by omega) hk) (by omega)
  have hs2 : s < 34359738368 := by
    rw [← hs]
    exact Nat.lt_of_le_of_lt (Nat.mul_le_mul hp (show r ≤ 127 by omega)) (by omega)
  have e1 : (r : Int) * 2 ^ (7 * k) = (s : Int) := by
    rw [← hs, e, Int.natCast_mul, Int.natCast_pow, Int.mul_comm]
    rfl
  refine ⟨by rw [e1]; exact IntWalk.wrap64_in _ (by omega), ?_, ?_⟩
  · rw [bor64 m s (by omega) (by omega)]
    have h := Nat.two_pow_add_eq_or_of_lt (i := 7 * k) (b := m) (by rw [← e]; exact hm) r
    rw [← e, hs] at h
    rw [Nat.or_comm, ← h, ← hM, Nat.add_comm]
  · rw [Nat.pow_succ, ← hM, ← hs]
    have : 128 ^ k * r ≤ 128 ^ k * 127 := Nat.mul_le_mul_left _ (by omega)
    omega
set_option maxRecDepth 100000 in
set_option maxHeartbeats 4000000 in
theorem readg_any (A : Option Addr) (b : List UInt8) (c B : Nat) (w : World) (hbl : b.length ≤ 9223372036854775807) (hbc : b.length ≤ c) (h : BR w B A b) :
    Calls Try.prog 72 #[.slice A b.length c] w fun e w' => e = .returned (.tuple #[.int .i64 ((unG 5 b).1 : Int), .int .i64 ((unG 5 b).2 : Int)]) ∧ w = w' := by
  have HB0 := Lib.hid (unG_begin b)
  by_cases h5 : 5 < b.length
  · have i5 : (5 : Int) < (b.length : Int) := by omega
    go_enter Try.func72, Try.ntmps72
    go_wp2_with fail
    go_loopw [4, 13] (fun n i wr => ∃ k m : Nat, k ≤ 5 ∧ i = .int .i64 k ∧ n = .int .i64 m ∧ m < 128 ^ k ∧ (unG 5 b = if (unG (5 - k) (b.drop k)).2 = 0 then (0, 0) else (m + 128 ^ k * (unG (5 - k) (b.drop k)).1, k + (unG (5 - k) (b.drop k)).2)) ∧ w = wr) (fun _ i _ => 5 - (intOf i).toNat)
    case atStart => exact ⟨0, 0, Nat.zero_le _, rfl, rfl, by omega, HB0.out, rfl⟩
    case round =>
      obtain ⟨k, m, hk, rfl, rfl, hm, hE, rfl⟩ := hrel
      by_cases hlt : k < 5
      · obtain ⟨ad, hA, hbk, hc⟩ := h.get k (by omega)
        subst hA
        obtain ⟨s1, s2⟩ := unG_step b k m (by omega) (by omega) hE
        have hi0 : (0 : Int) ≤ (k : Int) := by omega
        have hi1 : (k : Int) < 5 := by omega
        obtain ⟨x, hx⟩ : ∃ x : Nat, b[k].toNat = x := ⟨_, rfl⟩
        have hx256 : x < 256 := by rw [← hx]; exact UInt8.toNat_lt _
        rw [hx] at hc s1 s2
        have S1 := Lib.hid s1
        have S2 := Lib.hid s2
        have HM := Lib.hid hm
        clear s1 s2 hE hx h hm
        obtain ⟨r, hr⟩ : ∃ r, x % 128 = r := ⟨_, rfl⟩
        have hr128 : r < 128 := by rw [← hr]; exact Nat.mod_lt _ (by decide)
        have hk4 : k ≤ 4 := by omega
        have a2 : wrap64 (r : Int) = (r : Int) := IntWalk.wrap64_in _ (by omega)
        obtain ⟨s, hs⟩ : ∃ s, 128 ^ k * r = s := ⟨_, rfl⟩
        obtain ⟨M, hMM⟩ : ∃ M, m + s = M := ⟨_, rfl⟩
        have a1 : bits .and .u8 (x : Int) 127 = (r : Int) := by rw [← hr]; exact and_u8 x hx256
        obtain ⟨a3, a4, a5⟩ := shl_grp m k r s M hk4 HM.out hr128 hs hMM
        rw [hr, hs, hMM] at S1 S2
        have HMB := Lib.hid a5
        clear hr hs hMM a5
        by_cases hx8 : x < 128
        · have i8 : (x : Int) < 128 := by omega
          have HS := Lib.hid (S1.out hx8)
          clear S1 S2 HM
          go_wp2_with fail
          go_ret2
          exact ⟨by rw [HS.out]; simp, rfl⟩
        · have i8 : ¬ (x : Int) < 128 := by omega
          have HS := Lib.hid (S2.out hx8)
          clear S1 S2 HM
          go_wp2_with fail
          go_roundw
          case rel => exact ⟨k + 1, M, by omega, by go_num, rfl, HMB.out, HS.out, trivial⟩
          case measure => simp [intOf]; omega
      · have hke : k = 5 := by omega
        have h0 : (unG (5 - k) (b.drop k)).2 = 0 := by
          subst hke
          first
            | rw [List.drop_length]; rcases (5 - b.length) with _ | q <;> rfl
            | rfl
        rw [if_pos h0] at hE
        have HE := Lib.hid hE
        clear hE h0 hke
        go_wp2_with fail
        go_ret2
        exact ⟨by rw [HE.out]; rfl, rfl⟩
  · have i5 : (b.length : Int) ≤ 5 := by omega
    go_enter Try.func72, Try.ntmps72
    go_wp2_with fail
    go_loopw [4, 13] (fun n i wr => ∃ k m : Nat, k ≤ b.length ∧ i = .int .i64 k ∧ n = .int .i64 m ∧ m < 128 ^ k ∧ (unG 5 b = if (unG (5 - k) (b.drop k)).2 = 0 then (0, 0) else (m + 128 ^ k * (unG (5 - k) (b.drop k)).1, k + (unG (5 - k) (b.drop k)).2)) ∧ w = wr) (fun _ i _ => b.length - (intOf i).toNat)
    case atStart => exact ⟨0, 0, Nat.zero_le _, rfl, rfl, by omega, HB0.out, rfl⟩
    case round =>
      obtain ⟨k, m, hk, rfl, rfl, hm, hE, rfl⟩ := hrel
      by_cases hlt : k < b.length
      · obtain ⟨ad, hA, hbk, hc⟩ := h.get k (by omega)
        subst hA
        obtain ⟨s1, s2⟩ := unG_step b k m (by omega) (by omega) hE
        have hi0 : (0 : Int) ≤ (k : Int) := by omega
        have hi1 : (k : Int) < (b.length : Int) := by omega
        obtain ⟨x, hx⟩ : ∃ x : Nat, b[k].toNat = x := ⟨_, rfl⟩
        have hx256 : x < 256 := by rw [← hx]; exact UInt8.toNat_lt _
        rw [hx] at hc s1 s2
        have S1 := Lib.hid s1
        have S2 := Lib.hid s2
        have HM := Lib.hid hm
        clear s1 s2 hE hx h hm
        obtain ⟨r, hr⟩ : ∃ r, x % 128 = r := ⟨_, rfl⟩
        have hr128 : r < 128 := by rw [← hr]; exact Nat.mod_lt _ (by decide)
        have hk4 : k ≤ 4 := by omega
        have a2 : wrap64 (r : Int) = (r : Int) := IntWalk.wrap64_in _ (by omega)
        obtain ⟨s, hs⟩ : ∃ s, 128 ^ k * r = s := ⟨_, rfl⟩
        obtain ⟨M, hMM⟩ : ∃ M, m + s = M := ⟨_, rfl⟩
        have a1 : bits .and .u8 (x : Int) 127 = (r : Int) := by rw [← hr]; exact and_u8 x hx256
        obtain ⟨a3, a4, a5⟩ := shl_grp m k r s M hk4 HM.out hr128 hs hMM
        rw [hr, hs, hMM] at S1 S2
        have HMB := Lib.hid a5
        clear hr hs hMM a5
        by_cases hx8 : x < 128
        · have i8 : (x : Int) < 128 := by omega
          have HS := Lib.hid (S1.out hx8)
          clear S1 S2 HM
          go_wp2_with fail
          go_ret2
          exact ⟨by rw [HS.out]; simp, rfl⟩
        · have i8 : ¬ (x : Int) < 128 := by omega
          have HS := Lib.hid (S2.out hx8)
          clear S1 S2 HM
          go_wp2_with fail
          go_roundw
          case rel => exact ⟨k + 1, M, by omega, by go_num, rfl, HMB.out, HS.out, trivial⟩
          case measure => simp [intOf]; omega
      · have hke : k = b.length := by omega
        have h0 : (unG (5 - k) (b.drop k)).2 = 0 := by
          subst hke
          first
            | rw [List.drop_length]; rcases (5 - b.length) with _ | q <;> rfl
            | rfl
        rw [if_pos h0] at hE
        have HE := Lib.hid hE
        clear hE h0 hke
        go_wp2_with fail
        go_ret2
        exact ⟨by rw [HE.out]; rfl, rfl⟩
end Go.Proofs.Ytdcnpbdkhcdinaa
