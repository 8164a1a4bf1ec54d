/- the reference's number in groups. -/
import Derived.Test.YtdcnpbdkhcdinaaSpW
namespace Go.Proofs.Ytdcnpbdkhcdinaa
open Go.RowKit

theorem rgrp_byte (m : Nat) : (m : Int) % 128 + 128 = (((UInt8.ofNat (m % 128 + 128)).toNat : Nat) : Int) := by
  rw [show (UInt8.ofNat (m % 128 + 128)).toNat = (m % 128 + 128) % 256 from UInt8.toNat_ofNat']
  omega
set_option maxRecDepth 100000 in
set_option maxHeartbeats 1000000 in
theorem rgroups_any (n : Nat) (w : World) (hn : n < 34359738368) :
    Calls Try.prog 42 #[.int .i64 n] w fun e w' => ∃ v', e = .returned v' ∧ Own w' w.heap.size v' (grpN n) ∧ Below w.heap.size w w' := by
  go_enter Try.func42, Try.ntmps42
  go_wp2_with fail
  go_loopw [0, 3] (fun i u wr => ∃ (m : Nat) (X : List UInt8), m ≤ n ∧ i = .int .i64 m ∧ grpN n = X ++ grpN m ∧ X.length + (grpN m).length ≤ 5 ∧ Own wr w.heap.size u X ∧ Below w.heap.size w wr) (fun i _ _ => (intOf i).toNat)
  case atStart => exact ⟨n, [], Nat.le_refl _, rfl, rfl, by have := grp_len 4 n (by omega); simpa using this, Own.nil _ _, Below.refl _ _⟩
  case round =>
    obtain ⟨m, X, hm, rfl, hE, hX, hown, hb⟩ := hrel
    have HE := Lib.hid hE
    have hz := hb.size
    have HLB := Lib.hid (fun k (hk : u3.ownBlock = some k) => (World.ownsRow.lt (show wr.ownsRow w.heap.size 5 1 u3 _ _ from hown) k hk).1)
    clear hE
    by_cases h1 : 127 < m
    · have i1 : (128 : Int) ≤ (m : Int) := by omega
      rw [grp_more h1] at hX
      have HB := Lib.hid (rgrp_byte m)
      obtain ⟨b, hbb⟩ : ∃ b : UInt8, b = UInt8.ofNat (m % 128 + 128) := ⟨_, rfl⟩
      rw [← hbb] at HB hX
      have HBE := Lib.hid hbb
      clear hbb
      simp only [List.length_cons] at hX
      go_wp2_with (first | (at_builtin; refine wpList_app _ rfl (.tmp 6) (.tmp 11) 23 5 1 1 rfl elem8 w.heap.size u3 X.length (X.map bv) rfl (World.ownsRow.alloc hown _) (wr.heap.size + 1) _ 1 1 ([b].map bv) rfl rfl (Cells.fresh wr _ 5 _ _ (by rw [HB.out]; rfl)) (bv_one _) (by unfold maxLen; omega) (by omega) (by simp; omega) ?_; intro v7 w7 hown7 hgrow7 hat7) | fail)
      go_roundw
      case rel =>
        refine ⟨m / 128, X ++ [b], by omega, by go_num, ?_, by simp; omega, Own.of hown7 rfl, (hb.alloc hz _).grown hgrow7 (by simp; omega) (fun k hk => HLB.out k hk)⟩
        rw [HE.out, grp_more h1, ← HBE.out]; simp
      case measure => simp [intOf]; omega
    · have i1 : ¬ (128 : Int) ≤ (m : Int) := by omega
      rw [grp_last h1] at hX
      have HB := Lib.hid (grp_low m (by omega))
      obtain ⟨b, hbb⟩ : ∃ b : UInt8, b = UInt8.ofNat m := ⟨_, rfl⟩
      rw [← hbb] at HB
      have HBE := Lib.hid hbb
      have HG := Lib.hid (grp_last h1)
      clear hbb
      simp only [List.length_cons, List.length_nil] at hX
      go_wp2_with (first | (at_builtin; refine wpList_app _ rfl (.tmp 15) (.tmp 18) 23 5 1 1 rfl elem8 w.heap.size u3 X.length (X.map bv) rfl (World.ownsRow.alloc hown _) (wr.heap.size + 1) _ 1 1 ([b].map bv) rfl rfl (Cells.fresh wr _ 5 _ _ (by rw [HB.out]; rfl)) (bv_one _) (by unfold maxLen; omega) (by omega) (by simp; omega) ?_; intro v7 w7 hown7 hgrow7 hat7) | fail)
      go_ret
      refine ⟨_, rfl, ?_, (hb.alloc hz _).grown hgrow7 (by simp; omega) (fun k hk => HLB.out k hk)⟩
      rw [HE.out, HG.out, ← HBE.out]
      exact Own.of hown7 rfl
theorem unG7_step (b : List UInt8) (k m : Nat) (hk : k < b.length) (hk5 : k < 7) (h : unG 7 b = if (unG (7 - k) (b.drop k)).2 = 0 then (0, 0) else (m + 128 ^ k * (unG (7 - k) (b.drop k)).1, k + (unG (7 - k) (b.drop k)).2)) :
    (b[k].toNat < 128 → unG 7 b = (m + 128 ^ k * (b[k].toNat % 128), k + 1)) ∧
    (¬ b[k].toNat < 128 → unG 7 b = if (unG (7 - (k + 1)) (b.drop (k + 1))).2 = 0 then (0, 0) else (m + 128 ^ k * (b[k].toNat % 128) + 128 ^ (k + 1) * (unG (7 - (k + 1)) (b.drop (k + 1))).1, k + 1 + (unG (7 - (k + 1)) (b.drop (k + 1))).2)) := by
  have e5 : 7 - k = (7 - (k + 1)) + 1 := by omega
  rw [List.drop_eq_getElem_cons hk, e5, unG_cons] at h
  generalize unG 7 b = U at *
  generalize b[k].toNat = x at *
  refine ⟨fun hx => ?_, fun hx => ?_⟩
  · rw [if_pos hx] at h
    rw [h, if_neg (by simp), Nat.mod_eq_of_lt hx]
  · rw [if_neg hx] at h
    rw [h]
    by_cases h0 : (unG (7 - (k + 1)) (b.drop (k + 1))).2 = 0
    · rw [if_pos h0, if_pos rfl, if_pos h0]
    · rw [if_neg h0, if_neg (by simp), if_neg h0]
      have : 128 ^ (k + 1) = 128 ^ k * 128 := Nat.pow_succ ..
      rw [this, Nat.mul_add, Nat.mul_assoc]
      simp only [Prod.mk.injEq]
      omega
theorem unG7_begin (b : List UInt8) : unG 7 b = if (unG (7 - 0) (b.drop 0)).2 = 0 then (0, 0) else (0 + 128 ^ 0 * (unG (7 - 0) (b.drop 0)).1, 0 + (unG (7 - 0) (b.drop 0)).2) := by
  rw [List.drop_zero, Nat.sub_zero]
  by_cases h0 : (unG 7 b).2 = 0
  · rw [if_pos h0]; exact unG_none 7 b h0
  · rw [if_neg h0, Nat.pow_zero, Nat.one_mul, Nat.zero_add, Nat.zero_add]
theorem rshl_core (m r s M P : Nat) (hP : P ≤ 4398046511104) (hm : m < P) (hr : r < 128) (hs : P * r = s) (hM : m + s = M) : s < 562949953421312 ∧ m < 562949953421312 ∧ M < P * 128 := by
  have h1 : P * r ≤ 4398046511104 * 127 := Nat.mul_le_mul hP (by omega)
  have h2 : P * r ≤ P * 127 := Nat.mul_le_mul_left _ (by omega)
  rw [hs] at h1 h2
  clear hs
  omega
theorem rshl_fin (m s M : Nat) (hs : s < 562949953421312) (hm : m < 562949953421312) (hM : m + s = M) : (m : Int) + (s : Int) = (M : Int) ∧ IntKind.i64.wrap (M : Int) = (M : Int) ∧ wrap64 (M : Int) = (M : Int) :=
  ⟨by omega, IntWalk.i64_in _ (by omega), IntWalk.wrap64_in _ (by omega)⟩
theorem pow_le6 : ∀ k : Nat, k ≤ 6 → 128 ^ k ≤ 4398046511104
  | 0, _ => by decide
  | 1, _ => by decide
  | 2, _ => by decide
  | 3, _ => by decide
  | 4, _ => by decide
  | 5, _ => by decide
  | 6, _ => by decide
  | k + 7, h => absurd h (by omega)
theorem rshl_grp (m k r s M : Nat) (hk : k ≤ 6) (hm : m < 128 ^ k) (hr : r < 128) (hs : 128 ^ k * r = s) (hM : m + s = M) : wrap64 ((r : Int) * 2 ^ (7 * k)) = (s : Int) ∧ M < 128 ^ (k + 1) ∧ (m : Int) + (s : Int) = (M : Int) ∧ IntKind.i64.wrap (M : Int) = (M : Int) ∧ wrap64 (M : Int) = (M : Int) := by
  have e : (128 : Nat) ^ k = 2 ^ (7 * k) := by rw [Nat.pow_mul]
  have e1 : (r : Int) * 2 ^ (7 * k) = (s : Int) := by
    rw [← hs, e, Int.natCast_mul, Int.natCast_pow, Int.mul_comm]
    rfl
  obtain ⟨h1, h2, h3⟩ := rshl_core m r s M (128 ^ k) (pow_le6 k hk) hm hr hs hM
  have h4 := rshl_fin m s M h1 h2 hM
  rw [e1, Nat.pow_succ]
  exact ⟨IntWalk.wrap64_in _ ⟨by clear hs hm h3 e e1; omega, by clear hs hm h3 e e1; omega⟩, h3, h4⟩
set_option maxRecDepth 100000 in
set_option maxHeartbeats 4000000 in
theorem rgroup_any (A : Option Addr) (b : List UInt8) (c B : Nat) (w : World) (hbl : b.length ≤ 9223372036854775807) (hbc : b.length ≤ c) (h : BR w B A b) :
    Calls Try.prog 75 #[.slice A b.length c] w fun e w' => e = .returned (.tuple #[.int .i64 ((unG 7 b).1 : Int), .int .i64 ((unG 7 b).2 : Int)]) ∧ w = w' := by
  have HB0 := Lib.hid (unG7_begin b)
  by_cases h5 : 7 < b.length
  · have i5 : (7 : Int) < (b.length : Int) := by omega
    go_enter Try.func75, Try.ntmps75
    go_wp2_with fail
    go_loopw [4, 9] (fun n i wr => ∃ k m : Nat, k ≤ 7 ∧ i = .int .i64 k ∧ n = .int .i64 m ∧ m < 128 ^ k ∧ (unG 7 b = if (unG (7 - k) (b.drop k)).2 = 0 then (0, 0) else (m + 128 ^ k * (unG (7 - k) (b.drop k)).1, k + (unG (7 - k) (b.drop k)).2)) ∧ w = wr) (fun _ i _ => 7 - (intOf i).toNat)
    case atStart => exact ⟨0, 0, Nat.zero_le _, rfl, rfl, by omega, HB0.out, rfl⟩
    case round =>
      obtain ⟨k, m, hk, rfl, rfl, hm, hE, rfl⟩ := hrel
      by_cases hlt : k < 7
      · obtain ⟨ad, hA, hbk, hc⟩ := h.get k (by omega)
        subst hA
        obtain ⟨s1, s2⟩ := unG7_step b k m (by omega) (by omega) hE
        have hi0 : (0 : Int) ≤ (k : Int) := by omega
        have hi1 : (k : Int) < 7 := by omega
        obtain ⟨x, hx⟩ : ∃ x : Nat, b[k].toNat = x := ⟨_, rfl⟩
        have hx256 : x < 256 := by rw [← hx]; exact UInt8.toNat_lt _
        rw [hx] at hc s1 s2
        have S1 := Lib.hid s1
        have S2 := Lib.hid s2
        have HM := Lib.hid hm
        clear s1 s2 hE hx h hm
        obtain ⟨r, hr⟩ : ∃ r, x % 128 = r := ⟨_, rfl⟩
        have a1 : (x : Int) % 128 = (r : Int) := by omega
        have hr128 : r < 128 := by rw [← hr]; exact Nat.mod_lt _ (by decide)
        have hk4 : k ≤ 6 := by omega
        have a2 : wrap64 (r : Int) = (r : Int) := IntWalk.wrap64_in _ (by omega)
        obtain ⟨s, hs⟩ : ∃ s, 128 ^ k * r = s := ⟨_, rfl⟩
        obtain ⟨M, hMM⟩ : ∃ M, m + s = M := ⟨_, rfl⟩
        obtain ⟨a3, a5, a4, a8, a9⟩ := rshl_grp m k r s M hk4 HM.out hr128 hs hMM
        rw [hr, hs, hMM] at S1 S2
        have HMB := Lib.hid a5
        clear hs hr a5
        clear hMM
        by_cases hx8 : x < 128
        · have i8 : (x : Int) < 128 := by omega
          have HS := Lib.hid (S1.out hx8)
          clear S1 S2 HM
          go_wp2_with fail
          go_ret2
          exact ⟨by rw [HS.out]; simp, rfl⟩
        · have i8 : ¬ (x : Int) < 128 := by omega
          have HS := Lib.hid (S2.out hx8)
          clear S1 S2 HM
          go_wp2_with fail
          go_roundw
          case rel => exact ⟨k + 1, M, by omega, by go_num, rfl, HMB.out, HS.out, trivial⟩
          case measure => simp [intOf]; omega
      · have hke : k = 7 := by omega
        have h0 : (unG (7 - k) (b.drop k)).2 = 0 := by
          subst hke
          first
            | rw [List.drop_length]; rcases (7 - b.length) with _ | q <;> rfl
            | rfl
        rw [if_pos h0] at hE
        have HE := Lib.hid hE
        clear hE h0 hke
        go_wp2_with fail
        go_ret2
        exact ⟨by rw [HE.out]; rfl, rfl⟩
  · have i5 : (b.length : Int) ≤ 7 := by omega
    go_enter Try.func75, Try.ntmps75
    go_wp2_with fail
    go_loopw [4, 9] (fun n i wr => ∃ k m : Nat, k ≤ b.length ∧ i = .int .i64 k ∧ n = .int .i64 m ∧ m < 128 ^ k ∧ (unG 7 b = if (unG (7 - k) (b.drop k)).2 = 0 then (0, 0) else (m + 128 ^ k * (unG (7 - k) (b.drop k)).1, k + (unG (7 - k) (b.drop k)).2)) ∧ w = wr) (fun _ i _ => b.length - (intOf i).toNat)
    case atStart => exact ⟨0, 0, Nat.zero_le _, rfl, rfl, by omega, HB0.out, rfl⟩
    case round =>
      obtain ⟨k, m, hk, rfl, rfl, hm, hE, rfl⟩ := hrel
      by_cases hlt : k < b.length
      · obtain ⟨ad, hA, hbk, hc⟩ := h.get k (by omega)
        subst hA
        obtain ⟨s1, s2⟩ := unG7_step b k m (by omega) (by omega) hE
        have hi0 : (0 : Int) ≤ (k : Int) := by omega
        have hi1 : (k : Int) < (b.length : Int) := by omega
        obtain ⟨x, hx⟩ : ∃ x : Nat, b[k].toNat = x := ⟨_, rfl⟩
        have hx256 : x < 256 := by rw [← hx]; exact UInt8.toNat_lt _
        rw [hx] at hc s1 s2
        have S1 := Lib.hid s1
        have S2 := Lib.hid s2
        have HM := Lib.hid hm
        clear s1 s2 hE hx h hm
        obtain ⟨r, hr⟩ : ∃ r, x % 128 = r := ⟨_, rfl⟩
        have a1 : (x : Int) % 128 = (r : Int) := by omega
        have hr128 : r < 128 := by rw [← hr]; exact Nat.mod_lt _ (by decide)
        have hk4 : k ≤ 6 := by omega
        have a2 : wrap64 (r : Int) = (r : Int) := IntWalk.wrap64_in _ (by omega)
        obtain ⟨s, hs⟩ : ∃ s, 128 ^ k * r = s := ⟨_, rfl⟩
        obtain ⟨M, hMM⟩ : ∃ M, m + s = M := ⟨_, rfl⟩
        obtain ⟨a3, a5, a4, a8, a9⟩ := rshl_grp m k r s M hk4 HM.out hr128 hs hMM
        rw [hr, hs, hMM] at S1 S2
        have HMB := Lib.hid a5
        clear hs hr a5
        clear hMM
        by_cases hx8 : x < 128
        · have i8 : (x : Int) < 128 := by omega
          have HS := Lib.hid (S1.out hx8)
          clear S1 S2 HM
          go_wp2_with fail
          go_ret2
          exact ⟨by rw [HS.out]; simp, rfl⟩
        · have i8 : ¬ (x : Int) < 128 := by omega
          have HS := Lib.hid (S2.out hx8)
          clear S1 S2 HM
          go_wp2_with fail
          go_roundw
          case rel => exact ⟨k + 1, M, by omega, by go_num, rfl, HMB.out, HS.out, trivial⟩
          case measure => simp [intOf]; omega
      · have hke : k = b.length := by omega
        have h0 : (unG (7 - k) (b.drop k)).2 = 0 := by
          subst hke
          first
            | rw [List.drop_length]; rcases (7 - b.length) with _ | q <;> rfl
            | rfl
        rw [if_pos h0] at hE
        have HE := Lib.hid hE
        clear hE h0 hke
        go_wp2_with fail
        go_ret2
        exact ⟨by rw [HE.out]; rfl, rfl⟩
end Go.Proofs.Ytdcnpbdkhcdinaa
