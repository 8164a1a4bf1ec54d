/- the walks of both heard. -/
import Derived.Test.YteikggieekhfkaaHrdMath
import Derived.Test.YteikggieekhfkaaGnd
namespace Go.Proofs.Yteikggieekhfkaa
open Go.RowKit

attribute [local go_sem] setCell_draws alloc_draws
theorem aft_nat (n m : Int) : ∃ D : Nat, aft n m = (D : Int) ∧ D ≤ 255 := by
  have := @aft_bd n m
  exact ⟨(aft n m).toNat, by omega, by omega⟩
set_option maxRecDepth 100000 in
set_option maxHeartbeats 4000000 in
theorem p_heard_any (f : Int) (S : Nat) (A : Option Addr) (q : List (List UInt8)) (c : Nat) (wd : Int) (st : Bool) (n : Int) (L R T : Bool) (B : Nat) (w : World) (hB : B ≤ w.heap.size) (h : QR w B A q) (hc : q.length ≤ c) (hA : A = none → c = 0)
    (hf0 : 0 ≤ f) (hf1 : f ≤ 255) (hn0 : 0 ≤ n) (hn1 : n ≤ 255) (hS : S ≤ q.length) (hq : q.length ≤ 500) :
    Calls Try.prog 91 #[grdV f S (.slice A q.length c) wd st, ackV n L R T] w (GndPostB B (heardS ⟨f, S, q, wd, st⟩ n L R) w) := by
  unfold grdV ackV
  have h3 := three_new w
  have H3 := Lib.hid h3
  have HQ := Lib.hid (fun (w' : World) (hb : Below w.heap.size w w') => h.below (hb.mono hB))
  clear h3
  cases L
  · obtain ⟨D, hD, hD1⟩ := aft_nat n f
    have HA := Lib.hid (fun w => by have := p_after_any n f w hn0 hn1 hf0 hf1; rw [hD] at this; exact this)
    by_cases hle : D ≤ S
    · have hE : hearS ⟨f, S, q, wd, st⟩ n = ⟨n, (S : Int) - (D : Int), q.drop D, wd, st⟩ := by
        unfold hearS
        simp only
        rw [hD, if_pos (by omega), Int.toNat_natCast]
      have HE : Hid (heardS ⟨f, S, q, wd, st⟩ n false R = if R then ⟨n, 0, q.drop D, wd, st⟩ else ⟨n, (S : Int) - (D : Int), q.drop D, wd, st⟩) := Lib.hid (by unfold heardS; rw [hE]; cases R <;> rfl)
      have hi : (D : Int) ≤ (S : Int) := by omega
      have hi2 : (S : Int) ≤ 500 := by omega
      have hi3 : 0 ≤ (S : Int) - (D : Int) := by omega
      have hi4 : (S : Int) - (D : Int) ≤ 500 := by omega
      have hdl : D ≤ q.length := by omega
      have hdc : D ≤ c := by omega
      have HDL : Hid ((q.drop D).length = q.length - D) := Lib.hid (by simp)
      generalize heardS ⟨f, S, q, wd, st⟩ n false R = Z at *
      rcases A with _ | ad
      · obtain rfl : c = 0 := hA rfl
        have hq0 : q = [] := List.eq_nil_of_length_eq_zero (by omega)
        subst hq0
        obtain rfl : D = 0 := by simpa using hdl
        clear h hD hE hS hA hc hdl hdc HDL
        cases R
        · have HZ : Hid (Z = ⟨n, (S : Int), [], wd, st⟩) := Lib.hid (by rw [HE.out]; simp)
          clear HE
          go_enter Try.func91, Try.ntmps91
          go_wp2_with (first | (go_at_call 103; refine (HA.out _).mono ?_; rintro e w' ⟨rfl, rfl⟩) | fail)
          refine bodyPost_ret (v := .agg #[.int .i64 n, .int .i64 S, .slice none 0 0, .int .i64 wd, .bool st]) (by simp [results, Try.results91, go_sem]) rfl ?_
          rw [HZ.out]
          exact ⟨none, 0, rfl, QR.nil, Nat.le_refl _, fun _ => rfl, H3.out _ _ _⟩
        · have HZ : Hid (Z = ⟨n, 0, [], wd, st⟩) := Lib.hid (by rw [HE.out]; simp)
          clear HE
          go_enter Try.func91, Try.ntmps91
          go_wp2_with (first | (go_at_call 103; refine (HA.out _).mono ?_; rintro e w' ⟨rfl, rfl⟩) | fail)
          refine bodyPost_ret (v := .agg #[.int .i64 n, .int .i64 0, .slice none 0 0, .int .i64 wd, .bool st]) (by simp [results, Try.results91, go_sem]) rfl ?_
          rw [HZ.out]
          exact ⟨none, 0, rfl, QR.nil, Nat.le_refl _, fun _ => rfl, H3.out _ _ _⟩
      · have HT := Lib.hid (fun (w' : World) (hb : Below w.heap.size w w') => (HQ.out w' hb).rest hdl hc)
        clear h hD hE hS hA
        by_cases hcd : c = D
        · have HT1 := Lib.hid (fun (w' : World) (hb : Below w.heap.size w w') => by have := HT.out w' hb; rw [if_pos hcd] at this; exact this)
          clear HT
          cases R
          · have HZ : Hid (Z = ⟨n, (S : Int) - (D : Int), q.drop D, wd, st⟩) := Lib.hid (by rw [HE.out]; rfl)
            clear HE
            go_enter Try.func91, Try.ntmps91
            go_wp2_with (first | (go_at_call 103; refine (HA.out _).mono ?_; rintro e w' ⟨rfl, rfl⟩) | fail)
            refine bodyPost_ret (v := .agg #[.int .i64 n, .int .i64 ((S : Int) - (D : Int)), .slice (some ad) (q.length - D) 0, .int .i64 wd, .bool st]) (by simp [results, Try.results91, go_sem]) rfl ?_
            rw [HZ.out]
            exact ⟨_, _, by show _ = Ending.returned (grdV _ _ (.slice _ (q.drop D).length _) _ _); rw [HDL.out]; rfl, HT1.out _ (H3.out _ _ _), by show (q.drop D).length ≤ _; rw [HDL.out]; omega, (fun e => by cases e), H3.out _ _ _⟩
          · have HZ : Hid (Z = ⟨n, 0, q.drop D, wd, st⟩) := Lib.hid (by rw [HE.out]; rfl)
            clear HE
            go_enter Try.func91, Try.ntmps91
            go_wp2_with (first | (go_at_call 103; refine (HA.out _).mono ?_; rintro e w' ⟨rfl, rfl⟩) | fail)
            refine bodyPost_ret (v := .agg #[.int .i64 n, .int .i64 0, .slice (some ad) (q.length - D) 0, .int .i64 wd, .bool st]) (by simp [results, Try.results91, go_sem]) rfl ?_
            rw [HZ.out]
            exact ⟨_, _, by show _ = Ending.returned (grdV _ _ (.slice _ (q.drop D).length _) _ _); rw [HDL.out]; rfl, HT1.out _ (H3.out _ _ _), by show (q.drop D).length ≤ _; rw [HDL.out]; omega, (fun e => by cases e), H3.out _ _ _⟩
        · have HT1 := Lib.hid (fun (w' : World) (hb : Below w.heap.size w w') => by have := HT.out w' hb; rw [if_neg hcd] at this; exact this)
          clear HT
          cases R
          · have HZ : Hid (Z = ⟨n, (S : Int) - (D : Int), q.drop D, wd, st⟩) := Lib.hid (by rw [HE.out]; rfl)
            clear HE
            go_enter Try.func91, Try.ntmps91
            go_wp2_with (first | (go_at_call 103; refine (HA.out _).mono ?_; rintro e w' ⟨rfl, rfl⟩) | fail)
            refine bodyPost_ret (v := .agg #[.int .i64 n, .int .i64 ((S : Int) - (D : Int)), .slice (some (ad.add D)) (q.length - D) (c - D), .int .i64 wd, .bool st]) (by simp [results, Try.results91, go_sem]) rfl ?_
            rw [HZ.out]
            exact ⟨_, _, by show _ = Ending.returned (grdV _ _ (.slice _ (q.drop D).length _) _ _); rw [HDL.out]; rfl, HT1.out _ (H3.out _ _ _), by show (q.drop D).length ≤ _; rw [HDL.out]; omega, (fun e => by cases e), H3.out _ _ _⟩
          · have HZ : Hid (Z = ⟨n, 0, q.drop D, wd, st⟩) := Lib.hid (by rw [HE.out]; rfl)
            clear HE
            go_enter Try.func91, Try.ntmps91
            go_wp2_with (first | (go_at_call 103; refine (HA.out _).mono ?_; rintro e w' ⟨rfl, rfl⟩) | fail)
            refine bodyPost_ret (v := .agg #[.int .i64 n, .int .i64 0, .slice (some (ad.add D)) (q.length - D) (c - D), .int .i64 wd, .bool st]) (by simp [results, Try.results91, go_sem]) rfl ?_
            rw [HZ.out]
            exact ⟨_, _, by show _ = Ending.returned (grdV _ _ (.slice _ (q.drop D).length _) _ _); rw [HDL.out]; rfl, HT1.out _ (H3.out _ _ _), by show (q.drop D).length ≤ _; rw [HDL.out]; omega, (fun e => by cases e), H3.out _ _ _⟩
    · have hE : hearS ⟨f, S, q, wd, st⟩ n = ⟨f, S, q, wd, true⟩ := by
        unfold hearS
        simp only
        rw [hD, if_neg (by omega)]
      have HE : Hid (heardS ⟨f, S, q, wd, st⟩ n false R = if R then ⟨f, 0, q, wd, true⟩ else ⟨f, S, q, wd, true⟩) := Lib.hid (by unfold heardS; rw [hE]; cases R <;> rfl)
      have hi : ¬ (D : Int) ≤ (S : Int) := by omega
      generalize heardS ⟨f, S, q, wd, st⟩ n false R = Z at *
      clear h hD hE
      cases R
      · have HZ : Hid (Z = ⟨f, S, q, wd, true⟩) := Lib.hid (by rw [HE.out]; rfl)
        clear HE
        go_enter Try.func91, Try.ntmps91
        go_wp2_with (first | (go_at_call 103; refine (HA.out _).mono ?_; rintro e w' ⟨rfl, rfl⟩) | fail)
        refine bodyPost_ret (v := .agg #[.int .i64 f, .int .i64 S, .slice A q.length c, .int .i64 wd, .bool true]) (by simp [results, Try.results91, go_sem]) rfl ?_
        rw [HZ.out]
        exact ⟨A, c, rfl, HQ.out _ (H3.out _ _ _), hc, hA, H3.out _ _ _⟩
      · have HZ : Hid (Z = ⟨f, 0, q, wd, true⟩) := Lib.hid (by rw [HE.out]; rfl)
        clear HE
        go_enter Try.func91, Try.ntmps91
        go_wp2_with (first | (go_at_call 103; refine (HA.out _).mono ?_; rintro e w' ⟨rfl, rfl⟩) | fail)
        refine bodyPost_ret (v := .agg #[.int .i64 f, .int .i64 0, .slice A q.length c, .int .i64 wd, .bool true]) (by simp [results, Try.results91, go_sem]) rfl ?_
        rw [HZ.out]
        exact ⟨A, c, rfl, HQ.out _ (H3.out _ _ _), hc, hA, H3.out _ _ _⟩
  · have HE : Hid (heardS ⟨f, S, q, wd, st⟩ n true R = ⟨f, S, q, wd, true⟩) := Lib.hid rfl
    clear h
    generalize heardS ⟨f, S, q, wd, st⟩ n true R = Z at *
    go_enter Try.func91, Try.ntmps91
    go_wp2_with fail
    refine bodyPost_ret (v := .agg #[.int .i64 f, .int .i64 S, .slice A q.length c, .int .i64 wd, .bool true]) (by simp [results, Try.results91, go_sem]) rfl ?_
    rw [HE.out]
    exact ⟨A, c, rfl, HQ.out _ (H3.out _ _ _), hc, hA, H3.out _ _ _⟩
end Go.Proofs.Yteikggieekhfkaa
