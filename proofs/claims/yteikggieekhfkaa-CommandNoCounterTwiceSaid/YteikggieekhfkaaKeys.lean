/- keys: both sides' CheckKeys. -/
import Derived.Test.YteikggieekhfkaaSgd
import Derived.Test.YteikggieekhfkaaYRow
namespace Go.Proofs.Yteikggieekhfkaa
open Go.RowKit

def kyV (key least : Int) (S : Value) : Value := .agg #[.int .i64 key, .int .i64 least, S]
def kyC (key least : Int) (S : Value) : Array Value := #[.int .i64 key, .int .i64 least, S]
theorem blk_k {w : World} {g : Nat} {key least : Int} {S : Value} {t : TypeId} (h : Blk w g (kyC key least S) t) : w.cell? ⟨g, 0, none⟩ = some (.int .i64 key) ∧ w.cell? ⟨g, 1, none⟩ = some (.int .i64 least) ∧ w.cell? ⟨g, 2, none⟩ = some S :=
  ⟨h.cell 0 _ rfl, h.cell 1 _ rfl, h.cell 2 _ rfl⟩
def leastB (n : Int) : Bool := decide (0 ≤ n ∧ n ≤ 1000000001)
def inB (least n : Int) : Bool := decide (least + 1 ≤ n ∧ n ≤ min (least + 64) 1000000000)
/-- the fault of counters that were seen -/
def chkS (least : Int) : Int → List Int → Int
  | _, [] => 0
  | before, n :: l => if inB least n = true then (if n ≤ before then 8 else chkS least n l) else 1
def keysS (key least : Int) (l : List Int) : Int := if keyB key = true ∧ leastB least = true then (if 64 < l.length then 2 else chkS least least l) else 1
theorem chk_step (least before : Int) (l : List Int) (j : Nat) (hj : j < l.length) : chkS least before (l.drop j) = if inB least l[j] = true then (if l[j] ≤ before then 8 else chkS least l[j] (l.drop (j + 1))) else 1 := by
  rw [List.drop_eq_getElem_cons hj]
  rfl
theorem in_gt {least n : Int} (h : inB least n = true) : least < n := by
  unfold inB at h
  simp only [decide_eq_true_eq] at h
  omega
set_option maxRecDepth 100000 in
set_option maxHeartbeats 2000000 in
theorem p_checkKeys_any (key least : Int) (A : Option Addr) (l : List Int) (c B : Nat) (w : World) (hB : B ≤ w.heap.size) (hl : l.length ≤ 9223372036854775807) (h : IR w B A l) :
    Calls Try.prog 31 #[kyV key least (.slice A l.length c)] w fun e w' => e = .returned (.int .i64 (keysS key least l)) ∧ Below w.heap.size w w' := by
  have HE := Lib.hid (show keysS key least l = if keyB key = true ∧ leastB least = true then (if 64 < l.length then 2 else chkS least least l) else 1 from rfl)
  generalize keysS key least l = X at *
  unfold kyV
  have HK := Lib.hid (p_isKey_any key)
  have HLs := Lib.hid (show ∀ w, Calls Try.prog 55 #[.int .i64 least, .int .i64 0, .int .i64 1000000001] w fun e w' => e = .returned (.bool (leastB least)) ∧ w = w' from fun w => p_within_any least 0 1000000001 w)
  have b1 := (Below.refl w.heap.size w).alloc (Nat.le_refl _) (.cells (kyC key least (.slice A l.length c)) 58)
  have g1 := Blk.new w (kyC key least (.slice A l.length c)) 58
  have h1 := h.below (b1.mono hB)
  obtain ⟨w1, hw1⟩ : ∃ w1, w.alloc (.cells (kyC key least (.slice A l.length c)) 58) = w1 := ⟨_, rfl⟩
  rw [hw1] at b1 g1 h1
  unfold kyC at hw1
  have HW1 := Lib.hid hw1
  obtain ⟨p0, p1, p2⟩ := blk_k g1
  clear h hw1
  by_cases hk : keyB key = true
  · rw [hk] at HK
    by_cases hle : leastB least = true
    · rw [hle] at HLs
      have hlb : 0 ≤ least ∧ least ≤ 1000000001 := by
        unfold leastB at hle
        simpa using hle
      obtain ⟨lb0, lb1⟩ := hlb
      have HE2 : Hid (X = if 64 < l.length then 2 else chkS least least l) := Lib.hid (by rw [HE.out, if_pos ⟨hk, hle⟩])
      clear HE hk hle
      by_cases h64 : 64 < l.length
      · have HX : Hid (X = 2) := Lib.hid (by rw [HE2.out, if_pos h64])
        have d1 : decide ((64 : Int) < (l.length : Int)) = true := decide_eq_true (by omega)
        clear HE2 h64
        go_enter Try.func31, Try.ntmps31
        go_upto_region 1 with fail
        rw [HW1.out]
        go_wp2_with (first | (go_at_call 67; with_reducible refine (HK.out _).mono ?_; rintro e w' ⟨rfl, rfl⟩) | (go_at_call 55; with_reducible refine (HLs.out _).mono ?_; rintro e w' ⟨rfl, rfl⟩) | fail)
        go_ret
        exact ⟨ret_int HX.out.symm, b1⟩
      · have HX : Hid (X = chkS least least l) := Lib.hid (by rw [HE2.out, if_neg h64])
        have d1 : decide ((64 : Int) < (l.length : Int)) = false := decide_eq_false (by omega)
        have hll : (l.length : Int) ≤ 64 := by omega
        clear HE2 h64
        have main : ∀ (hmin : least + 64 ≤ 1000000000 ∨ 1000000000 < least + 64), Calls Try.prog 31 #[.agg #[.int .i64 key, .int .i64 least, .slice A l.length c]] w fun e w' => e = .returned (.int .i64 X) ∧ Below w.heap.size w w' := by
          intro hmin
          rcases hmin with hmin | hmin
          · have HWI : Hid (∀ n w, Calls Try.prog 55 #[.int .i64 n, .int .i64 (least + 1), .int .i64 (least + 64)] w fun e w' => e = .returned (.bool (inB least n)) ∧ w = w') := Lib.hid fun n w => by
              have := p_within_any n (least + 1) (least + 64) w
              unfold inB
              rw [show min (least + 64) 1000000000 = least + 64 by omega]
              exact this
            go_enter Try.func31, Try.ntmps31
            go_upto_region 1 with fail
            rw [HW1.out]
            go_wp2_with (first | (go_at_call 67; with_reducible refine (HK.out _).mono ?_; rintro e w' ⟨rfl, rfl⟩) | (go_at_call 55; with_reducible refine (HLs.out _).mono ?_; rintro e w' ⟨rfl, rfl⟩) | fail)
            go_loop [3, 25] (fun s i => ∃ (j : Nat) (bf : Int), j ≤ l.length ∧ i = .int .i64 j ∧ s = .int .i64 bf ∧ X = chkS least bf (l.drop j)) (fun _ i => l.length - (intOf i).toNat)
            case atStart => exact ⟨0, least, Nat.zero_le _, rfl, rfl, HX.out⟩
            case round =>
              obtain ⟨j, bf, hj, rfl, rfl, hX⟩ := hrel
              by_cases hlt : j < l.length
              · obtain ⟨ad, rfl, -, hc⟩ := h1.get j hlt
                rw [chk_step least bf l j hlt] at hX
                have hi0 : (0 : Int) ≤ (j : Int) := by omega
                have hi1 : (j : Int) < (l.length : Int) := by omega
                generalize l[j] = n at *
                by_cases hin : inB least n = true
                · rw [if_pos hin] at hX
                  have HN := Lib.hid (fun w => by have := HWI.out n w; rw [hin] at this; exact this)
                  have hgt := in_gt hin
                  by_cases hb : n ≤ bf
                  · rw [if_pos hb] at hX
                    have HX8 := Lib.hid hX
                    clear hX hin hgt
                    go_wp2_with (first | (go_at_call 55; with_reducible refine (HN.out _).mono ?_; rintro e w' ⟨rfl, rfl⟩) | fail)
                    go_ret
                    exact ⟨ret_int HX8.out.symm, b1⟩
                  · rw [if_neg hb] at hX
                    have HX8 := Lib.hid hX
                    clear hX hin hgt
                    go_wp2_with (first | (go_at_call 55; with_reducible refine (HN.out _).mono ?_; rintro e w' ⟨rfl, rfl⟩) | fail)
                    go_round
                    case rel => exact ⟨j + 1, n, by omega, by go_num, rfl, HX8.out⟩
                    case measure => simp [intOf]; omega
                · rw [if_neg hin] at hX
                  have hin2 : inB least n = false := by simpa using hin
                  have HN := Lib.hid (fun w => by have := HWI.out n w; rw [hin2] at this; exact this)
                  have HX8 := Lib.hid hX
                  clear hX hin hin2
                  go_wp2_with (first | (go_at_call 55; with_reducible refine (HN.out _).mono ?_; rintro e w' ⟨rfl, rfl⟩) | fail)
                  go_ret
                  exact ⟨ret_int HX8.out.symm, b1⟩
              · have hjj : j = l.length := by omega
                have HX8 : Hid (X = 0) := Lib.hid (by rw [hX, hjj, List.drop_length]; rfl)
                clear hX
                have hi1 : ¬ (j : Int) < (l.length : Int) := by omega
                subst hjj
                go_wp2_with fail
                go_ret
                exact ⟨ret_int HX8.out.symm, b1⟩
          · have HWI : Hid (∀ n w, Calls Try.prog 55 #[.int .i64 n, .int .i64 (least + 1), .int .i64 (1000000000)] w fun e w' => e = .returned (.bool (inB least n)) ∧ w = w') := Lib.hid fun n w => by
              have := p_within_any n (least + 1) (1000000000) w
              unfold inB
              rw [show min (least + 64) 1000000000 = 1000000000 by omega]
              exact this
            go_enter Try.func31, Try.ntmps31
            go_upto_region 1 with fail
            rw [HW1.out]
            go_wp2_with (first | (go_at_call 67; with_reducible refine (HK.out _).mono ?_; rintro e w' ⟨rfl, rfl⟩) | (go_at_call 55; with_reducible refine (HLs.out _).mono ?_; rintro e w' ⟨rfl, rfl⟩) | fail)
            go_loop [3, 25] (fun s i => ∃ (j : Nat) (bf : Int), j ≤ l.length ∧ i = .int .i64 j ∧ s = .int .i64 bf ∧ X = chkS least bf (l.drop j)) (fun _ i => l.length - (intOf i).toNat)
            case atStart => exact ⟨0, least, Nat.zero_le _, rfl, rfl, HX.out⟩
            case round =>
              obtain ⟨j, bf, hj, rfl, rfl, hX⟩ := hrel
              by_cases hlt : j < l.length
              · obtain ⟨ad, rfl, -, hc⟩ := h1.get j hlt
                rw [chk_step least bf l j hlt] at hX
                have hi0 : (0 : Int) ≤ (j : Int) := by omega
                have hi1 : (j : Int) < (l.length : Int) := by omega
                generalize l[j] = n at *
                by_cases hin : inB least n = true
                · rw [if_pos hin] at hX
                  have HN := Lib.hid (fun w => by have := HWI.out n w; rw [hin] at this; exact this)
                  have hgt := in_gt hin
                  by_cases hb : n ≤ bf
                  · rw [if_pos hb] at hX
                    have HX8 := Lib.hid hX
                    clear hX hin hgt
                    go_wp2_with (first | (go_at_call 55; with_reducible refine (HN.out _).mono ?_; rintro e w' ⟨rfl, rfl⟩) | fail)
                    go_ret
                    exact ⟨ret_int HX8.out.symm, b1⟩
                  · rw [if_neg hb] at hX
                    have HX8 := Lib.hid hX
                    clear hX hin hgt
                    go_wp2_with (first | (go_at_call 55; with_reducible refine (HN.out _).mono ?_; rintro e w' ⟨rfl, rfl⟩) | fail)
                    go_round
                    case rel => exact ⟨j + 1, n, by omega, by go_num, rfl, HX8.out⟩
                    case measure => simp [intOf]; omega
                · rw [if_neg hin] at hX
                  have hin2 : inB least n = false := by simpa using hin
                  have HN := Lib.hid (fun w => by have := HWI.out n w; rw [hin2] at this; exact this)
                  have HX8 := Lib.hid hX
                  clear hX hin hin2
                  go_wp2_with (first | (go_at_call 55; with_reducible refine (HN.out _).mono ?_; rintro e w' ⟨rfl, rfl⟩) | fail)
                  go_ret
                  exact ⟨ret_int HX8.out.symm, b1⟩
              · have hjj : j = l.length := by omega
                have HX8 : Hid (X = 0) := Lib.hid (by rw [hX, hjj, List.drop_length]; rfl)
                clear hX
                have hi1 : ¬ (j : Int) < (l.length : Int) := by omega
                subst hjj
                go_wp2_with fail
                go_ret
                exact ⟨ret_int HX8.out.symm, b1⟩
        exact main (by omega)
    · have hl2 : leastB least = false := by simpa using hle
      rw [hl2] at HLs
      have HX : Hid (X = 1) := Lib.hid (by rw [HE.out, if_neg (fun q => hle q.2)])
      clear HE hk hle hl2
      go_enter Try.func31, Try.ntmps31
      go_upto_region 1 with fail
      rw [HW1.out]
      go_wp2_with (first | (go_at_call 67; with_reducible refine (HK.out _).mono ?_; rintro e w' ⟨rfl, rfl⟩) | (go_at_call 55; with_reducible refine (HLs.out _).mono ?_; rintro e w' ⟨rfl, rfl⟩) | fail)
      go_ret
      exact ⟨ret_int HX.out.symm, b1⟩
  · have hk2 : keyB key = false := by simpa using hk
    rw [hk2] at HK
    have HX : Hid (X = 1) := Lib.hid (by rw [HE.out, if_neg (fun q => hk q.1)])
    clear HE hk hk2
    go_enter Try.func31, Try.ntmps31
    go_upto_region 1 with fail
    rw [HW1.out]
    go_wp2_with (first | (go_at_call 67; with_reducible refine (HK.out _).mono ?_; rintro e w' ⟨rfl, rfl⟩) | fail)
    go_ret
    exact ⟨ret_int HX.out.symm, b1⟩
set_option maxRecDepth 100000 in
set_option maxHeartbeats 2000000 in
theorem r_checkKeys_any (key least : Int) (A : Option Addr) (l : List Int) (c B : Nat) (w : World) (hB : B ≤ w.heap.size) (hl : l.length ≤ 9223372036854775807) (h : IR w B A l) :
    Calls Try.prog 32 #[kyV key least (.slice A l.length c)] w fun e w' => e = .returned (.int .i64 (keysS key least l)) ∧ Below w.heap.size w w' := by
  have HE := Lib.hid (show keysS key least l = if keyB key = true ∧ leastB least = true then (if 64 < l.length then 2 else chkS least least l) else 1 from rfl)
  generalize keysS key least l = X at *
  unfold kyV
  have HK := Lib.hid (r_isKey_any key)
  have HLs := Lib.hid (show ∀ w, Calls Try.prog 56 #[.int .i64 least, .int .i64 0, .int .i64 1000000001] w fun e w' => e = .returned (.bool (leastB least)) ∧ w = w' from fun w => r_within_any least 0 1000000001 w)
  have b1 := (Below.refl w.heap.size w).alloc (Nat.le_refl _) (.cells (kyC key least (.slice A l.length c)) 58)
  have g1 := Blk.new w (kyC key least (.slice A l.length c)) 58
  have h1 := h.below (b1.mono hB)
  obtain ⟨w1, hw1⟩ : ∃ w1, w.alloc (.cells (kyC key least (.slice A l.length c)) 58) = w1 := ⟨_, rfl⟩
  rw [hw1] at b1 g1 h1
  unfold kyC at hw1
  have HW1 := Lib.hid hw1
  obtain ⟨p0, p1, p2⟩ := blk_k g1
  clear h hw1
  by_cases hk : keyB key = true
  · rw [hk] at HK
    by_cases hle : leastB least = true
    · rw [hle] at HLs
      have hlb : 0 ≤ least ∧ least ≤ 1000000001 := by
        unfold leastB at hle
        simpa using hle
      obtain ⟨lb0, lb1⟩ := hlb
      have HE2 : Hid (X = if 64 < l.length then 2 else chkS least least l) := Lib.hid (by rw [HE.out, if_pos ⟨hk, hle⟩])
      clear HE hk hle
      by_cases h64 : 64 < l.length
      · have HX : Hid (X = 2) := Lib.hid (by rw [HE2.out, if_pos h64])
        have d1 : decide ((64 : Int) < (l.length : Int)) = true := decide_eq_true (by omega)
        clear HE2 h64
        go_enter Try.func32, Try.ntmps32
        go_upto_region 1 with fail
        rw [HW1.out]
        go_wp2_with (first | (go_at_call 56; with_reducible refine (HK.out _).mono ?_; rintro e w' ⟨rfl, rfl⟩) | (go_at_call 56; with_reducible refine (HLs.out _).mono ?_; rintro e w' ⟨rfl, rfl⟩) | fail)
        go_ret
        exact ⟨ret_int HX.out.symm, b1⟩
      · have HX : Hid (X = chkS least least l) := Lib.hid (by rw [HE2.out, if_neg h64])
        have d1 : decide ((64 : Int) < (l.length : Int)) = false := decide_eq_false (by omega)
        have hll : (l.length : Int) ≤ 64 := by omega
        clear HE2 h64
        have main : ∀ (hmin : least + 64 ≤ 1000000000 ∨ 1000000000 < least + 64), Calls Try.prog 32 #[.agg #[.int .i64 key, .int .i64 least, .slice A l.length c]] w fun e w' => e = .returned (.int .i64 X) ∧ Below w.heap.size w w' := by
          intro hmin
          rcases hmin with hmin | hmin
          · have HWI : Hid (∀ n w, Calls Try.prog 56 #[.int .i64 n, .int .i64 (least + 1), .int .i64 (least + 64)] w fun e w' => e = .returned (.bool (inB least n)) ∧ w = w') := Lib.hid fun n w => by
              have := r_within_any n (least + 1) (least + 64) w
              unfold inB
              rw [show min (least + 64) 1000000000 = least + 64 by omega]
              exact this
            go_enter Try.func32, Try.ntmps32
            go_upto_region 1 with fail
            rw [HW1.out]
            go_wp2_with (first | (go_at_call 56; with_reducible refine (HK.out _).mono ?_; rintro e w' ⟨rfl, rfl⟩) | (go_at_call 56; with_reducible refine (HLs.out _).mono ?_; rintro e w' ⟨rfl, rfl⟩) | fail)
            go_loop [22] (fun i => ∃ (j : Nat) (bf : Int), j ≤ l.length ∧ i = .int .i64 j ∧ ((j = 0 ∧ bf = least) ∨ ∃ h : j - 1 < l.length, 0 < j ∧ bf = l[j - 1]) ∧ X = chkS least bf (l.drop j)) (fun i => l.length - (intOf i).toNat)
            case atStart => exact ⟨0, least, Nat.zero_le _, rfl, .inl ⟨rfl, rfl⟩, HX.out⟩
            case round =>
              obtain ⟨j, bf, hj, rfl, hbf, hX⟩ := hrel
              by_cases hlt : j < l.length
              · obtain ⟨ad, rfl, -, hc⟩ := h1.get j hlt
                rw [chk_step least bf l j hlt] at hX
                have hi0 : (0 : Int) ≤ (j : Int) := by omega
                have hi1 : (j : Int) < (l.length : Int) := by omega
                have HPR := Lib.hid (show 0 < j → w1.cell? (ad.add (j - 1)) = some (.int .i64 bf) from fun hj0 => by
                  rcases hbf with ⟨h0, -⟩ | ⟨h2, -, h3⟩
                  · omega
                  · obtain ⟨ad', e', -, hc'⟩ := h1.get (j - 1) h2
                    have e2 : ad = ad' := by injection e'
                    rw [e2, hc', h3])
                obtain ⟨n, hn⟩ : ∃ n, l[j] = n := ⟨_, rfl⟩
                rw [hn] at hc hX
                have HNX := Lib.hid (show (j + 1 = 0 ∧ n = least) ∨ ∃ h : j + 1 - 1 < l.length, 0 < j + 1 ∧ n = l[j + 1 - 1] from .inr ⟨by omega, by omega, by rw [← hn]; simp⟩)
                clear hn
                have HB0 := Lib.hid (show j = 0 → bf = least from fun h0 => by
                  rcases hbf with ⟨-, h⟩ | ⟨-, h2, -⟩
                  · exact h
                  · omega)
                clear hbf
                by_cases hin : inB least n = true
                · rw [if_pos hin] at hX
                  have HN := Lib.hid (fun w => by have := HWI.out n w; rw [hin] at this; exact this)
                  have hgt := in_gt hin
                  by_cases hj0 : j = 0
                  · have hbl := HB0.out hj0
                    have hb : ¬ n ≤ bf := by omega
                    rw [if_neg hb] at hX
                    have HX8 := Lib.hid hX
                    subst hj0
                    rw [addr_zero] at hc
                    clear hX hin hgt hb hbl
                    go_wp2_with (first | (go_at_call 56; with_reducible refine (HN.out _).mono ?_; rintro e w' ⟨rfl, rfl⟩) | fail)
                    go_round
                    case rel => exact ⟨0 + 1, n, by omega, by go_num, HNX.out, HX8.out⟩
                    case measure => simp [intOf]; omega
                  · have hpr := HPR.out (by omega)
                    have hj1 : (0 : Int) < (j : Int) := by omega
                    have hj2 : (0 : Int) ≤ (j : Int) - 1 := by omega
                    have hj3 : (j : Int) - 1 < (l.length : Int) := by omega
                    have hj4 : ((j : Int) - 1).toNat = j - 1 := by omega
                    by_cases hb : n ≤ bf
                    · rw [if_pos hb] at hX
                      have HX8 := Lib.hid hX
                      clear hX hin hgt hj0
                      go_wp2_with (first | (go_at_call 56; with_reducible refine (HN.out _).mono ?_; rintro e w' ⟨rfl, rfl⟩) | fail)
                      go_ret
                      exact ⟨ret_int HX8.out.symm, b1⟩
                    · rw [if_neg hb] at hX
                      have HX8 := Lib.hid hX
                      clear hX hin hgt hj0
                      go_wp2_with (first | (go_at_call 56; with_reducible refine (HN.out _).mono ?_; rintro e w' ⟨rfl, rfl⟩) | fail)
                      go_round
                      case rel => exact ⟨j + 1, n, by omega, by go_num, HNX.out, HX8.out⟩
                      case measure => simp [intOf]; omega
                · rw [if_neg hin] at hX
                  have hin2 : inB least n = false := by simpa using hin
                  have HN := Lib.hid (fun w => by have := HWI.out n w; rw [hin2] at this; exact this)
                  have HX8 := Lib.hid hX
                  clear hX hin hin2
                  go_wp2_with (first | (go_at_call 56; with_reducible refine (HN.out _).mono ?_; rintro e w' ⟨rfl, rfl⟩) | fail)
                  go_ret
                  exact ⟨ret_int HX8.out.symm, b1⟩
              · have hjj : j = l.length := by omega
                have HX8 : Hid (X = 0) := Lib.hid (by rw [hX, hjj, List.drop_length]; rfl)
                clear hX hbf
                have hi1 : ¬ (j : Int) < (l.length : Int) := by omega
                subst hjj
                go_wp2_with fail
                go_ret
                exact ⟨ret_int HX8.out.symm, b1⟩
          · have HWI : Hid (∀ n w, Calls Try.prog 56 #[.int .i64 n, .int .i64 (least + 1), .int .i64 (1000000000)] w fun e w' => e = .returned (.bool (inB least n)) ∧ w = w') := Lib.hid fun n w => by
              have := r_within_any n (least + 1) (1000000000) w
              unfold inB
              rw [show min (least + 64) 1000000000 = 1000000000 by omega]
              exact this
            go_enter Try.func32, Try.ntmps32
            go_upto_region 1 with fail
            rw [HW1.out]
            go_wp2_with (first | (go_at_call 56; with_reducible refine (HK.out _).mono ?_; rintro e w' ⟨rfl, rfl⟩) | (go_at_call 56; with_reducible refine (HLs.out _).mono ?_; rintro e w' ⟨rfl, rfl⟩) | fail)
            go_loop [22] (fun i => ∃ (j : Nat) (bf : Int), j ≤ l.length ∧ i = .int .i64 j ∧ ((j = 0 ∧ bf = least) ∨ ∃ h : j - 1 < l.length, 0 < j ∧ bf = l[j - 1]) ∧ X = chkS least bf (l.drop j)) (fun i => l.length - (intOf i).toNat)
            case atStart => exact ⟨0, least, Nat.zero_le _, rfl, .inl ⟨rfl, rfl⟩, HX.out⟩
            case round =>
              obtain ⟨j, bf, hj, rfl, hbf, hX⟩ := hrel
              by_cases hlt : j < l.length
              · obtain ⟨ad, rfl, -, hc⟩ := h1.get j hlt
                rw [chk_step least bf l j hlt] at hX
                have hi0 : (0 : Int) ≤ (j : Int) := by omega
                have hi1 : (j : Int) < (l.length : Int) := by omega
                have HPR := Lib.hid (show 0 < j → w1.cell? (ad.add (j - 1)) = some (.int .i64 bf) from fun hj0 => by
                  rcases hbf with ⟨h0, -⟩ | ⟨h2, -, h3⟩
                  · omega
                  · obtain ⟨ad', e', -, hc'⟩ := h1.get (j - 1) h2
                    have e2 : ad = ad' := by injection e'
                    rw [e2, hc', h3])
                obtain ⟨n, hn⟩ : ∃ n, l[j] = n := ⟨_, rfl⟩
                rw [hn] at hc hX
                have HNX := Lib.hid (show (j + 1 = 0 ∧ n = least) ∨ ∃ h : j + 1 - 1 < l.length, 0 < j + 1 ∧ n = l[j + 1 - 1] from .inr ⟨by omega, by omega, by rw [← hn]; simp⟩)
                clear hn
                have HB0 := Lib.hid (show j = 0 → bf = least from fun h0 => by
                  rcases hbf with ⟨-, h⟩ | ⟨-, h2, -⟩
                  · exact h
                  · omega)
                clear hbf
                by_cases hin : inB least n = true
                · rw [if_pos hin] at hX
                  have HN := Lib.hid (fun w => by have := HWI.out n w; rw [hin] at this; exact this)
                  have hgt := in_gt hin
                  by_cases hj0 : j = 0
                  · have hbl := HB0.out hj0
                    have hb : ¬ n ≤ bf := by omega
                    rw [if_neg hb] at hX
                    have HX8 := Lib.hid hX
                    subst hj0
                    rw [addr_zero] at hc
                    clear hX hin hgt hb hbl
                    go_wp2_with (first | (go_at_call 56; with_reducible refine (HN.out _).mono ?_; rintro e w' ⟨rfl, rfl⟩) | fail)
                    go_round
                    case rel => exact ⟨0 + 1, n, by omega, by go_num, HNX.out, HX8.out⟩
                    case measure => simp [intOf]; omega
                  · have hpr := HPR.out (by omega)
                    have hj1 : (0 : Int) < (j : Int) := by omega
                    have hj2 : (0 : Int) ≤ (j : Int) - 1 := by omega
                    have hj3 : (j : Int) - 1 < (l.length : Int) := by omega
                    have hj4 : ((j : Int) - 1).toNat = j - 1 := by omega
                    by_cases hb : n ≤ bf
                    · rw [if_pos hb] at hX
                      have HX8 := Lib.hid hX
                      clear hX hin hgt hj0
                      go_wp2_with (first | (go_at_call 56; with_reducible refine (HN.out _).mono ?_; rintro e w' ⟨rfl, rfl⟩) | fail)
                      go_ret
                      exact ⟨ret_int HX8.out.symm, b1⟩
                    · rw [if_neg hb] at hX
                      have HX8 := Lib.hid hX
                      clear hX hin hgt hj0
                      go_wp2_with (first | (go_at_call 56; with_reducible refine (HN.out _).mono ?_; rintro e w' ⟨rfl, rfl⟩) | fail)
                      go_round
                      case rel => exact ⟨j + 1, n, by omega, by go_num, HNX.out, HX8.out⟩
                      case measure => simp [intOf]; omega
                · rw [if_neg hin] at hX
                  have hin2 : inB least n = false := by simpa using hin
                  have HN := Lib.hid (fun w => by have := HWI.out n w; rw [hin2] at this; exact this)
                  have HX8 := Lib.hid hX
                  clear hX hin hin2
                  go_wp2_with (first | (go_at_call 56; with_reducible refine (HN.out _).mono ?_; rintro e w' ⟨rfl, rfl⟩) | fail)
                  go_ret
                  exact ⟨ret_int HX8.out.symm, b1⟩
              · have hjj : j = l.length := by omega
                have HX8 : Hid (X = 0) := Lib.hid (by rw [hX, hjj, List.drop_length]; rfl)
                clear hX hbf
                have hi1 : ¬ (j : Int) < (l.length : Int) := by omega
                subst hjj
                go_wp2_with fail
                go_ret
                exact ⟨ret_int HX8.out.symm, b1⟩
        exact main (by omega)
    · have hl2 : leastB least = false := by simpa using hle
      rw [hl2] at HLs
      have HX : Hid (X = 1) := Lib.hid (by rw [HE.out, if_neg (fun q => hle q.2)])
      clear HE hk hle hl2
      go_enter Try.func32, Try.ntmps32
      go_upto_region 1 with fail
      rw [HW1.out]
      go_wp2_with (first | (go_at_call 56; with_reducible refine (HK.out _).mono ?_; rintro e w' ⟨rfl, rfl⟩) | (go_at_call 56; with_reducible refine (HLs.out _).mono ?_; rintro e w' ⟨rfl, rfl⟩) | fail)
      go_ret
      exact ⟨ret_int HX.out.symm, b1⟩
  · have hk2 : keyB key = false := by simpa using hk
    rw [hk2] at HK
    have HX : Hid (X = 1) := Lib.hid (by rw [HE.out, if_neg (fun q => hk q.1)])
    clear HE hk hk2
    go_enter Try.func32, Try.ntmps32
    go_upto_region 1 with fail
    rw [HW1.out]
    go_wp2_with (first | (go_at_call 56; with_reducible refine (HK.out _).mono ?_; rintro e w' ⟨rfl, rfl⟩) | fail)
    go_ret
    exact ⟨ret_int HX.out.symm, b1⟩
end Go.Proofs.Yteikggieekhfkaa
