/- signed commands: both sides' Signed. -/
import Derived.Test.YteikggieekhfkaaSgn
import Derived.Test.YteikggieekhfkaaTakeAll
namespace Go.Proofs.Yteikggieekhfkaa
open Go.RowKit

def keyB (n : Int) : Bool := decide (0 ≤ n ∧ n ≤ 1000000000000000)
def ctrB (n : Int) : Bool := decide (0 ≤ n ∧ n ≤ 1000000000)
theorem p_isKey_any (n : Int) (w : World) : Calls Try.prog 67 #[.int .i64 n] w fun e w' => e = .returned (.bool (keyB n)) ∧ w = w' := by
  have H := Lib.hid (show ∀ w, Calls Try.prog 55 #[.int .i64 n, .int .i64 0, .int .i64 1000000000000000] w fun e w' => e = .returned (.bool (keyB n)) ∧ w = w' from fun w => p_within_any n 0 1000000000000000 w)
  go_enter Try.func67, Try.ntmps67
  go_wp2_with fail
  refine (H.out _).mono ?_
  rintro e w' ⟨rfl, rfl⟩
  go_wp2_with fail
  go_ret
  exact ⟨rfl, rfl⟩
theorem p_isCounter_any (n : Int) (w : World) : Calls Try.prog 68 #[.int .i64 n] w fun e w' => e = .returned (.bool (ctrB n)) ∧ w = w' := by
  have H := Lib.hid (show ∀ w, Calls Try.prog 55 #[.int .i64 n, .int .i64 0, .int .i64 1000000000] w fun e w' => e = .returned (.bool (ctrB n)) ∧ w = w' from fun w => p_within_any n 0 1000000000 w)
  go_enter Try.func68, Try.ntmps68
  go_wp2_with fail
  refine (H.out _).mono ?_
  rintro e w' ⟨rfl, rfl⟩
  go_wp2_with fail
  go_ret
  exact ⟨rfl, rfl⟩
theorem r_isKey_any (n : Int) (w : World) : Calls Try.prog 56 #[.int .i64 n, .int .i64 0, .int .i64 1000000000000000] w fun e w' => e = .returned (.bool (keyB n)) ∧ w = w' := r_within_any n 0 1000000000000000 w
theorem r_isCounter_any (n : Int) (w : World) : Calls Try.prog 56 #[.int .i64 n, .int .i64 0, .int .i64 1000000000] w fun e w' => e = .returned (.bool (ctrB n)) ∧ w = w' := r_within_any n 0 1000000000 w
/-- the fault of Signed -/
def signC (key counter : Int) (n : Nat) : Int := if keyB key = true ∧ ctrB counter = true then bodS n else 1
/-- a signed command -/
def signL (key counter : Int) (body : List UInt8) : List UInt8 := (bigE (u64 counter) 8 ++ body) ++ bigE (sgN key (bigE (u64 counter) 8 ++ body)) 8
def signR (key counter : Int) (body : List UInt8) : List UInt8 := if signC key counter body.length = 0 then signL key counter body else []
def SignPost (key counter : Int) (body : List UInt8) (w : World) (e : Ending) (w' : World) : Prop :=
  ∃ v, e = .returned (.tuple #[v, .int .i64 (signC key counter body.length)]) ∧ Own w' w.heap.size v (signR key counter body) ∧ Below w.heap.size w w'
theorem bodS_le {n : Nat} (h : bodS n = 0) : n ≤ 200 := by
  unfold bodS at h
  split at h
  · simp at h
  · split at h
    · simp at h
    · omega
set_option maxRecDepth 100000 in
set_option maxHeartbeats 2000000 in
theorem p_Signed_any (key counter : Int) (A : Option Addr) (body : List UInt8) (c B : Nat) (w : World) (hB : B ≤ w.heap.size) (h : BR w B A body) :
    Calls Try.prog 29 #[.int .i64 key, .int .i64 counter, .slice A body.length c] w (SignPost key counter body w) := by
  have HE := Lib.hid (show signC key counter body.length = if keyB key = true ∧ ctrB counter = true then bodS body.length else 1 from rfl)
  have HR := Lib.hid (show signR key counter body = if signC key counter body.length = 0 then signL key counter body else [] from rfl)
  unfold SignPost
  generalize signR key counter body = R at *
  generalize signC key counter body.length = X at *
  have HK := Lib.hid (p_isKey_any key)
  have HC := Lib.hid (p_isCounter_any counter)
  have HB := Lib.hid (p_checkBody_any A body.length c)
  have HBL := Lib.hid (@bodS_le body.length)
  generalize bodS body.length = F at *
  by_cases hk : keyB key = true
  · rw [hk] at HK
    by_cases hct : ctrB counter = true
    · rw [hct] at HC
      by_cases hF : F = 0
      · have d1 : (F != 0) = false := by simpa using hF
        have HX : Hid (X = 0) := Lib.hid (by rw [HE.out, if_pos ⟨hk, hct⟩, hF])
        have HRR : Hid (R = signL key counter body) := Lib.hid (by rw [HR.out, if_pos HX.out])
        have hbl := HBL.out hF
        obtain ⟨K, hKe⟩ : ∃ K, bigE (u64 counter) 8 = K := ⟨_, rfl⟩
        have hK8 : K.length ≤ 8 := by rw [← hKe, bigE_len]; exact Nat.le_refl _
        have HS : Hid (signL key counter body = (K ++ body) ++ bigE (sgN key (K ++ body)) 8) := Lib.hid (by unfold signL; rw [hKe])
        have HA := Lib.hid (append8_any w.heap.size (.slice none 0 0) [] counter w (by simp) (Nat.le_refl _) (Own.nil _ _))
        rw [List.nil_append] at HA
        rw [hKe] at HA
        clear HE HR hk hct hF hKe HBL

        go_enter Try.func29, Try.ntmps29
        go_wp2_with (first | (go_at_call 67; with_reducible refine (HK.out _).mono ?_; rintro e w' ⟨rfl, rfl⟩) | (go_at_call 68; with_reducible refine (HC.out _).mono ?_; rintro e w' ⟨rfl, rfl⟩) | (go_at_call 69; with_reducible refine (HB.out _).mono ?_; rintro e w' ⟨rfl, rfl⟩) | fail)
        refine HA.out.mono ?_
        rintro e w1 ⟨v1, rfl, ho1, hn1x⟩
        have b1 := hn1x.below (Own.nil w w.heap.size) (Below.refl _ _) (Nat.le_refl _)
        have hb1 : BR w1 w1.heap.size A body := (h.below (b1.mono hB)).lift (Nat.le_trans hB b1.size)
        obtain ⟨L, hL⟩ : ∃ L, K ++ body = L := ⟨_, rfl⟩
        have hLl : L.length ≤ 208 := by rw [← hL]; simp; omega
        have HLE := Lib.hid hL
        have hsz1 := b1.size
        clear hL
        go_upto_region 8 with (first | (at_builtin; refine wpList_app _ rfl (.tmp 25) (.tmp 26) 24 5 1 1 rfl elem8 w.heap.size v1 K.length (K.map bv) rfl ho1 w1.heap.size A body.length c (body.map bv) rfl (by simp) hb1 (bv_one _) (by unfold maxLen; omega) (by omega) hsz1 ?_; intro v3 w3 hown3 hgrow3 hat3) | fail)
        have ho3 : Own w3 w.heap.size v3 L := by rw [← HLE.out]; exact Own.of (b := body) hown3 rfl
        have b3 : Below w.heap.size w w3 := b1.grown hgrow3 hsz1 (fun k hk => (World.ownsRow.lt ho1 k hk).1)
        obtain ⟨A3, c3, rfl, hr3⟩ := ho3.form
        have HSG := Lib.hid (p_sign_any key A3 L c3 w3.heap.size w3 (by omega) (Nat.le_refl _) hr3)
        clear hown3 hgrow3 hat3 ho1 hb1 hn1x
        go_wp2_with fail
        refine HSG.out.mono ?_
        rintro e w4 ⟨v4, rfl, ho4, b4⟩
        have hz4 := b4.size
        have hsz4 : w.heap.size ≤ w4.heap.size := Nat.le_trans b3.size hz4
        obtain ⟨A4, c4, rfl, hr4⟩ := ho4.form
        have ho3' := ho3.after b4 (Nat.le_refl _)
        obtain ⟨S, hS⟩ : ∃ S, bigE (sgN key L) 8 = S := ⟨_, rfl⟩
        have hS8 : S.length ≤ 8 := by rw [← hS, bigE_len]; exact Nat.le_refl _
        rw [hS] at hr4
        rw [show (bigE (sgN key L) 8).length = S.length by rw [hS]]
        have HSE := Lib.hid hS
        clear hS ho4 ho3 HSG
        go_wp2_with (first | (at_builtin; refine wpList_app _ rfl (.tmp 28) (.tmp 31) 24 5 1 1 rfl elem8 w.heap.size (.slice A3 L.length c3) L.length (L.map bv) rfl ho3' w4.heap.size A4 S.length c4 (S.map bv) rfl (by simp) hr4 (bv_one _) (by unfold maxLen; omega) (by omega) hsz4 ?_; intro v5 w5 hown5 hgrow5 hat5) | fail)
        have B4 := b3.trans (b4.mono b3.size)
        have HO5 := Lib.hid (Own.of (b := S) hown5 rfl)
        have HB5 := Lib.hid (B4.grown hgrow5 hsz4 (fun k hk => (World.ownsRow.lt ho3' k hk).1))
        go_ret2
        refine ⟨v5, by rw [HX.out]; first | done | rfl, ?_, HB5.out⟩
        rw [HRR.out, HS.out, HLE.out, HSE.out]
        exact HO5.out
      · have d1 : (F != 0) = true := by simpa using hF
        have HX : Hid (X = F) := Lib.hid (by rw [HE.out, if_pos ⟨hk, hct⟩])
        have HRR : Hid (R = []) := Lib.hid (by rw [HR.out, if_neg (by rw [HX.out]; exact hF)])
        clear HE HR hk hct hF HBL
        go_enter Try.func29, Try.ntmps29
        go_wp2_with (first | (go_at_call 67; with_reducible refine (HK.out _).mono ?_; rintro e w' ⟨rfl, rfl⟩) | (go_at_call 68; with_reducible refine (HC.out _).mono ?_; rintro e w' ⟨rfl, rfl⟩) | (go_at_call 69; with_reducible refine (HB.out _).mono ?_; rintro e w' ⟨rfl, rfl⟩) | fail)
        go_ret2
        exact ⟨.slice none 0 0, by rw [HX.out]; first | done | rfl, by rw [HRR.out]; exact Own.nil _ _, Below.refl _ _⟩
    · have hc2 : ctrB counter = false := by simpa using hct
      rw [hc2] at HC
      have HX : Hid (X = 1) := Lib.hid (by rw [HE.out, if_neg (fun q => hct q.2)])
      have HRR : Hid (R = []) := Lib.hid (by rw [HR.out, if_neg (by rw [HX.out]; omega)])
      clear HE HR hk hct hc2 HBL
      go_enter Try.func29, Try.ntmps29
      go_wp2_with (first | (go_at_call 67; with_reducible refine (HK.out _).mono ?_; rintro e w' ⟨rfl, rfl⟩) | (go_at_call 68; with_reducible refine (HC.out _).mono ?_; rintro e w' ⟨rfl, rfl⟩) | fail)
      go_ret2
      exact ⟨.slice none 0 0, by rw [HX.out]; first | done | rfl, by rw [HRR.out]; exact Own.nil _ _, Below.refl _ _⟩
  · have hk2 : keyB key = false := by simpa using hk
    rw [hk2] at HK
    have HX : Hid (X = 1) := Lib.hid (by rw [HE.out, if_neg (fun q => hk q.1)])
    have HRR : Hid (R = []) := Lib.hid (by rw [HR.out, if_neg (by rw [HX.out]; omega)])
    clear HE HR hk hk2 HBL
    go_enter Try.func29, Try.ntmps29
    go_wp2_with (first | (go_at_call 67; with_reducible refine (HK.out _).mono ?_; rintro e w' ⟨rfl, rfl⟩) | fail)
    go_ret2
    exact ⟨.slice none 0 0, by rw [HX.out]; first | done | rfl, by rw [HRR.out]; exact Own.nil _ _, Below.refl _ _⟩
set_option maxRecDepth 100000 in
set_option maxHeartbeats 2000000 in
theorem r_Signed_any (key counter : Int) (A : Option Addr) (body : List UInt8) (c B : Nat) (w : World) (hB : B ≤ w.heap.size) (h : BR w B A body) :
    Calls Try.prog 30 #[.int .i64 key, .int .i64 counter, .slice A body.length c] w (SignPost key counter body w) := by
  have HE := Lib.hid (show signC key counter body.length = if keyB key = true ∧ ctrB counter = true then bodS body.length else 1 from rfl)
  have HR := Lib.hid (show signR key counter body = if signC key counter body.length = 0 then signL key counter body else [] from rfl)
  unfold SignPost
  generalize signR key counter body = R at *
  generalize signC key counter body.length = X at *
  have HK := Lib.hid (r_isKey_any key)
  have HC := Lib.hid (r_isCounter_any counter)
  have HB := Lib.hid (r_checkBody_any A body.length c)
  have HBL := Lib.hid (@bodS_le body.length)
  generalize bodS body.length = F at *
  by_cases hk : keyB key = true
  · rw [hk] at HK
    by_cases hct : ctrB counter = true
    · rw [hct] at HC
      by_cases hF : F = 0
      · have d1 : (F != 0) = false := by simpa using hF
        have HX : Hid (X = 0) := Lib.hid (by rw [HE.out, if_pos ⟨hk, hct⟩, hF])
        have HRR : Hid (R = signL key counter body) := Lib.hid (by rw [HR.out, if_pos HX.out])
        have hbl := HBL.out hF
        obtain ⟨K, hKe⟩ : ∃ K, bigE (u64 counter) 8 = K := ⟨_, rfl⟩
        have hK8 : K.length ≤ 8 := by rw [← hKe, bigE_len]; exact Nat.le_refl _
        have HS : Hid (signL key counter body = (K ++ body) ++ bigE (sgN key (K ++ body)) 8) := Lib.hid (by unfold signL; rw [hKe])
        have HA := Lib.hid (r_eight_any (u64 counter) w (u64_lt counter))
        have hwr := u64_wrap counter
        rw [hKe] at HA
        clear HE HR hk hct hF hKe HBL
        generalize u64 counter = KN at *
        go_enter Try.func30, Try.ntmps30
        go_wp2_with (first | (go_at_call 56; with_reducible refine (HK.out _).mono ?_; rintro e w' ⟨rfl, rfl⟩) | (go_at_call 56; with_reducible refine (HC.out _).mono ?_; rintro e w' ⟨rfl, rfl⟩) | (go_at_call 72; with_reducible refine (HB.out _).mono ?_; rintro e w' ⟨rfl, rfl⟩) | fail)
        refine HA.out.mono ?_
        rintro e w1 ⟨v1, rfl, ho1, b1⟩
        have hn1x := b1.size
        have hb1 : BR w1 w1.heap.size A body := (h.below (b1.mono hB)).lift (Nat.le_trans hB b1.size)
        obtain ⟨L, hL⟩ : ∃ L, K ++ body = L := ⟨_, rfl⟩
        have hLl : L.length ≤ 208 := by rw [← hL]; simp; omega
        have HLE := Lib.hid hL
        have hsz1 := b1.size
        clear hL
        go_upto_region 7 with (first | (at_builtin; refine wpList_app _ rfl (.tmp 25) (.tmp 26) 24 5 1 1 rfl elem8 w.heap.size v1 K.length (K.map bv) rfl ho1 w1.heap.size A body.length c (body.map bv) rfl (by simp) hb1 (bv_one _) (by unfold maxLen; omega) (by omega) hsz1 ?_; intro v3 w3 hown3 hgrow3 hat3) | fail)
        have ho3 : Own w3 w.heap.size v3 L := by rw [← HLE.out]; exact Own.of (b := body) hown3 rfl
        have b3 : Below w.heap.size w w3 := b1.grown hgrow3 hsz1 (fun k hk => (World.ownsRow.lt ho1 k hk).1)
        obtain ⟨A3, c3, rfl, hr3⟩ := ho3.form
        have HSG := Lib.hid (r_sign_any key A3 L c3 w3.heap.size w3 (by omega) (Nat.le_refl _) hr3)
        clear hown3 hgrow3 hat3 ho1 hb1 hn1x
        go_wp2_with fail
        refine HSG.out.mono ?_
        rintro e w40 ⟨rfl, b40⟩
        have HE8 := Lib.hid (r_eight_any (sgN key L) w40 (sgN_lt key L))
        generalize hSN : sgN key L = SN at *
        go_wp2_with fail
        refine HE8.out.mono ?_
        rintro e w4 ⟨v4, rfl, ho4, b41⟩
        have b4 := b40.trans (b41.mono b40.size)
        rw [← hSN] at ho4
        clear HE8 b40 b41
        have hz4 := b4.size
        have hsz4 : w.heap.size ≤ w4.heap.size := Nat.le_trans b3.size hz4
        obtain ⟨A4, c4, rfl, hr4⟩ := ho4.form
        have ho3' := ho3.after b4 (Nat.le_refl _)
        obtain ⟨S, hS⟩ : ∃ S, bigE (sgN key L) 8 = S := ⟨_, rfl⟩
        have hS8 : S.length ≤ 8 := by rw [← hS, bigE_len]; exact Nat.le_refl _
        rw [hS] at hr4
        rw [show (bigE (sgN key L) 8).length = S.length by rw [hS]]
        have HSE := Lib.hid hS
        clear hS ho4 ho3 HSG
        go_wp2_with (first | (at_builtin; refine wpList_app _ rfl (.tmp 28) (.tmp 32) 24 5 1 1 rfl elem8 w.heap.size (.slice A3 L.length c3) L.length (L.map bv) rfl ho3' w4.heap.size A4 S.length c4 (S.map bv) rfl (by simp) hr4 (bv_one _) (by unfold maxLen; omega) (by omega) hsz4 ?_; intro v5 w5 hown5 hgrow5 hat5) | fail)
        have B4 := b3.trans (b4.mono b3.size)
        have HO5 := Lib.hid (Own.of (b := S) hown5 rfl)
        have HB5 := Lib.hid (B4.grown hgrow5 hsz4 (fun k hk => (World.ownsRow.lt ho3' k hk).1))
        go_ret2
        refine ⟨v5, by rw [HX.out]; first | done | rfl, ?_, HB5.out⟩
        rw [HRR.out, HS.out, HLE.out, HSE.out]
        exact HO5.out
      · have d1 : (F != 0) = true := by simpa using hF
        have HX : Hid (X = F) := Lib.hid (by rw [HE.out, if_pos ⟨hk, hct⟩])
        have HRR : Hid (R = []) := Lib.hid (by rw [HR.out, if_neg (by rw [HX.out]; exact hF)])
        clear HE HR hk hct hF HBL
        go_enter Try.func30, Try.ntmps30
        go_wp2_with (first | (go_at_call 56; with_reducible refine (HK.out _).mono ?_; rintro e w' ⟨rfl, rfl⟩) | (go_at_call 56; with_reducible refine (HC.out _).mono ?_; rintro e w' ⟨rfl, rfl⟩) | (go_at_call 72; with_reducible refine (HB.out _).mono ?_; rintro e w' ⟨rfl, rfl⟩) | fail)
        go_ret2
        exact ⟨.slice none 0 0, by rw [HX.out]; first | done | rfl, by rw [HRR.out]; exact Own.nil _ _, Below.refl _ _⟩
    · have hc2 : ctrB counter = false := by simpa using hct
      rw [hc2] at HC
      have HX : Hid (X = 1) := Lib.hid (by rw [HE.out, if_neg (fun q => hct q.2)])
      have HRR : Hid (R = []) := Lib.hid (by rw [HR.out, if_neg (by rw [HX.out]; omega)])
      clear HE HR hk hct hc2 HBL
      go_enter Try.func30, Try.ntmps30
      go_wp2_with (first | (go_at_call 56; with_reducible refine (HK.out _).mono ?_; rintro e w' ⟨rfl, rfl⟩) | (go_at_call 56; with_reducible refine (HC.out _).mono ?_; rintro e w' ⟨rfl, rfl⟩) | fail)
      go_ret2
      exact ⟨.slice none 0 0, by rw [HX.out]; first | done | rfl, by rw [HRR.out]; exact Own.nil _ _, Below.refl _ _⟩
  · have hk2 : keyB key = false := by simpa using hk
    rw [hk2] at HK
    have HX : Hid (X = 1) := Lib.hid (by rw [HE.out, if_neg (fun q => hk q.1)])
    have HRR : Hid (R = []) := Lib.hid (by rw [HR.out, if_neg (by rw [HX.out]; omega)])
    clear HE HR hk hk2 HBL
    go_enter Try.func30, Try.ntmps30
    go_wp2_with (first | (go_at_call 56; with_reducible refine (HK.out _).mono ?_; rintro e w' ⟨rfl, rfl⟩) | fail)
    go_ret2
    exact ⟨.slice none 0 0, by rw [HX.out]; first | done | rfl, by rw [HRR.out]; exact Own.nil _ _, Below.refl _ _⟩
end Go.Proofs.Yteikggieekhfkaa
