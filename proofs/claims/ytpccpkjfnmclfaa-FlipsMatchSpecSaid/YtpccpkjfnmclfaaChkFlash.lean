/- the walks of the program's CheckFlash. -/
import Derived.Test.YtpccpkjfnmclfaaFlashW
import Derived.Deep.RegionLaw
namespace Go.Proofs.Ytpccpkjfnmclfaa
open Go.RowKit

set_option maxHeartbeats 400000 in
theorem isPageSize_any (s : Int) (w : World) : Calls Try.prog 114 #[.int .i64 s] w fun e w' => e = .returned (.bool (decide (64 ≤ s ∧ s ≤ 1024))) ∧ w = w' := by
  go_enter Try.func114, Try.ntmps114
  go_wp2_with (first | (go_at_call 55; refine (swithin_any _ _ _ _).mono ?_; rintro e w' ⟨rfl, rfl⟩) | fail)
  go_ret
  exact ⟨ret_bool (by simp), rfl⟩
set_option maxRecDepth 100000 in
set_option maxHeartbeats 1000000 in
theorem checkShape_any (b p s : Int) (D V X : Option Addr) (n n' n'' c c' c'' : Nat) (w : World) :
    Calls Try.prog 87 #[.agg #[.int .i64 b, .int .i64 p, .int .i64 s, .slice D n c, .slice V n' c', .slice X n'' c'']] w fun e w' => e = .returned (.int .i64 (shapeS b p s)) ∧ Below w.heap.size w w' := by
  have hcs := shape_cases b p s
  generalize shapeS b p s = R at *
  rcases hcs with ⟨h1, rfl⟩ | ⟨h1, h2, rfl⟩ | ⟨h1, h2, h3, rfl⟩ | ⟨h1, h2, h3, hR⟩
  · have d1 : decide (1 ≤ b ∧ b ≤ 64) = false := by simp; omega
    clear h1
    go_enter Try.func87, Try.ntmps87
    go_wp2_with (first | (go_at_call 55; refine (swithin_any _ _ _ _).mono ?_; rintro e w' ⟨rfl, rfl⟩) | fail)
    go_ret
    exact ⟨rfl, boxF _ _⟩
  · have d1 : decide (1 ≤ b ∧ b ≤ 64) = true := by simp only [h1, decide_true, and_self]
    have d2 : decide (1 ≤ p ∧ p ≤ 64) = false := by simp; omega
    clear h1 h2
    go_enter Try.func87, Try.ntmps87
    go_wp2_with (first | (go_at_call 55; refine (swithin_any _ _ _ _).mono ?_; rintro e w' ⟨rfl, rfl⟩) | fail)
    go_ret
    exact ⟨rfl, boxF _ _⟩
  · have d1 : decide (1 ≤ b ∧ b ≤ 64) = true := by simp only [h1, decide_true, and_self]
    have d2 : decide (1 ≤ p ∧ p ≤ 64) = true := by simp only [h2, decide_true, and_self]
    have d3 : decide (64 ≤ s ∧ s ≤ 1024) = false := by simp; omega
    clear h1 h2 h3
    go_enter Try.func87, Try.ntmps87
    go_wp2_with (first | (go_at_call 55; refine (swithin_any _ _ _ _).mono ?_; rintro e w' ⟨rfl, rfl⟩) | (go_at_call 114; refine (isPageSize_any _ _).mono ?_; rintro e w' ⟨rfl, rfl⟩) | fail)
    go_ret
    exact ⟨rfl, boxF _ _⟩
  · have d1 : decide (1 ≤ b ∧ b ≤ 64) = true := by simp only [h1, decide_true, and_self]
    have d2 : decide (1 ≤ p ∧ p ≤ 64) = true := by simp only [h2, decide_true, and_self]
    have d3 : decide (64 ≤ s ∧ s ≤ 1024) = true := by simp only [h3, decide_true, and_self]
    have HD := Lib.hid (fun w => dataSize_any b p s D V X n n' n'' c c' c'' w h1 h2 h3)
    have HR := Lib.hid hR
    clear h1 h2 h3 hR
    generalize b * p * s = M at *
    by_cases h4 : 262144 < M
    · have d4 : decide (262144 < M) = true := decide_eq_true h4
      rw [if_pos h4] at HR
      clear h4
      go_enter Try.func87, Try.ntmps87
      go_wp2_with (first | (go_at_call 55; refine (swithin_any _ _ _ _).mono ?_; rintro e w' ⟨rfl, rfl⟩) | (go_at_call 114; refine (isPageSize_any _ _).mono ?_; rintro e w' ⟨rfl, rfl⟩) | (go_at_call 88; refine (HD.out _).mono ?_; rintro e w1 ⟨rfl, hb1⟩) | fail)
      go_ret
      exact ⟨ret_int HR.out.symm, (boxF _ _).trans (hb1.mono (by simp))⟩
    · have d4 : decide (262144 < M) = false := decide_eq_false h4
      rw [if_neg h4] at HR
      clear h4
      go_enter Try.func87, Try.ntmps87
      go_wp2_with (first | (go_at_call 55; refine (swithin_any _ _ _ _).mono ?_; rintro e w' ⟨rfl, rfl⟩) | (go_at_call 114; refine (isPageSize_any _ _).mono ?_; rintro e w' ⟨rfl, rfl⟩) | (go_at_call 88; refine (HD.out _).mono ?_; rintro e w1 ⟨rfl, hb1⟩) | fail)
      go_ret
      exact ⟨ret_int HR.out.symm, (boxF _ _).trans (hb1.mono (by simp))⟩
theorem bad_step (b u : Int) (x : List Int) (k : Nat) (hk : k < x.length) : badF b u (x.drop k) = if 0 ≤ x[k] ∧ x[k] ≤ b - 1 then (if x[k] ≤ u then 8 else badF b x[k] (x.drop (k + 1))) else 1 := by
  rw [List.drop_eq_getElem_cons hk]
  rfl
set_option maxRecDepth 100000 in
set_option maxHeartbeats 1000000 in
theorem checkBad_any (b p s : Int) (D V X : Option Addr) (n n' c c' c'' : Nat) (x : List Int) (B : Nat) (w : World) (hB : B ≤ w.heap.size) (hb : 1 ≤ b ∧ b ≤ 64) (hx : x.length ≤ 9223372036854775807) (h : IR w B X x) :
    Calls Try.prog 89 #[.agg #[.int .i64 b, .int .i64 p, .int .i64 s, .slice D n c, .slice V n' c', .slice X x.length c'']] w fun e w' => e = .returned (.int .i64 (badF b (-1) x)) ∧ Below w.heap.size w w' := by
  obtain ⟨R, hR⟩ : ∃ R, R = badF b (-1) x := ⟨_, rfl⟩
  rw [← hR]
  obtain ⟨hb1, hb2⟩ := hb
  have g1 : IR (w.alloc (.cells #[.int .i64 b, .int .i64 p, .int .i64 s, .slice D n c, .slice V n' c', .slice X x.length c''] 45)) w.heap.size X x := (h.lift hB).below (boxF _ _)
  have hst : badF b (-1) (x.drop 0) = R := by rw [List.drop_zero]; exact hR.symm
  clear hR h
  go_enter Try.func89, Try.ntmps89
  go_wp2_with fail
  go_loop [3, 5, 9] (fun u _ i => ∃ (k : Nat) (z : Int), k ≤ x.length ∧ i = .int .i64 (k : Int) ∧ u = .int .i64 z ∧ badF b z (x.drop k) = R) (fun _ _ i => x.length - (intOf i).toNat)
  case atStart => exact ⟨0, -1, Nat.zero_le _, rfl, rfl, hst⟩
  case round =>
    obtain ⟨k, z, hk, rfl, rfl, hall⟩ := hrel
    by_cases hlt : k < x.length
    · obtain ⟨ad, hA, hbk, hc⟩ := g1.get k hlt
      subst hA
      have hk0 : (0 : Int) ≤ (k : Int) := Int.natCast_nonneg _
      have hk1 : (k : Int) < (x.length : Int) := by omega
      have HS := bad_step b z x k hlt
      rw [hall] at HS
      have HS' := Lib.hid HS
      clear HS hall
      generalize x[k] = y at *
      by_cases hy : 0 ≤ y ∧ y ≤ b - 1
      · have d1 : decide (0 ≤ y ∧ y ≤ b - 1) = true := by simp only [hy, decide_true, and_self]
        rw [if_pos hy] at HS'
        by_cases hz : y ≤ z
        · have d2 : decide (y ≤ z) = true := decide_eq_true hz
          rw [if_pos hz] at HS'
          clear hy hz
          go_wp2_with (first | (go_at_call 55; refine (swithin_any _ _ _ _).mono ?_; rintro e w' ⟨rfl, rfl⟩) | fail)
          go_ret
          exact ⟨ret_int HS'.out.symm, boxF _ _⟩
        · have d2 : decide (y ≤ z) = false := decide_eq_false hz
          rw [if_neg hz] at HS'
          clear hy hz
          go_wp2_with (first | (go_at_call 55; refine (swithin_any _ _ _ _).mono ?_; rintro e w' ⟨rfl, rfl⟩) | fail)
          go_round
          case rel => exact ⟨k + 1, y, by omega, by go_num, rfl, HS'.out.symm⟩
          case measure => simp [intOf]; omega
      · have d1 : decide (0 ≤ y ∧ y ≤ b - 1) = false := by simp; omega
        rw [if_neg hy] at HS'
        clear hy
        go_wp2_with (first | (go_at_call 55; refine (swithin_any _ _ _ _).mono ?_; rintro e w' ⟨rfl, rfl⟩) | fail)
        go_ret
        exact ⟨ret_int HS'.out.symm, boxF _ _⟩
    · have HN : Hid (R = 0) := Lib.hid (by rw [List.drop_eq_nil_of_le (by omega)] at hall; exact hall.symm)
      clear hall
      go_wp2_with fail
      go_ret
      exact ⟨ret_int HN.out.symm, boxF _ _⟩
theorem flash_cases (b p s : Int) (n : Nat) (v x : List Int) : (shapeS b p s ≠ 0 ∧ flashS b p s n v x = shapeS b p s) ∨
    (shapeS b p s = 0 ∧ ((1 ≤ b ∧ b ≤ 64) ∧ (1 ≤ p ∧ p ≤ 64) ∧ (64 ≤ s ∧ s ≤ 1024)) ∧ (((n : Int) ≠ b * p * s ∧ flashS b p s n v x = 3) ∨ ((n : Int) = b * p * s ∧ (v.length : Int) ≠ b ∧ flashS b p s n v x = 3) ∨
      ((n : Int) = b * p * s ∧ (v.length : Int) = b ∧ flashS b p s n v x = if v.all wornB = true then badF b (-1) x else 1))) := by
  unfold flashS
  by_cases h1 : shapeS b p s = 0
  · obtain ⟨a1, a2, a3, a4⟩ := shape_ok h1
    refine .inr ⟨h1, ⟨a1, a2, a3⟩, ?_⟩
    rw [if_pos h1]
    by_cases h2 : (n : Int) = b * p * s
    · by_cases h3 : (v.length : Int) = b
      · exact .inr (.inr ⟨h2, h3, by rw [if_pos ⟨h2, h3⟩]⟩)
      · exact .inr (.inl ⟨h2, h3, by rw [if_neg (fun q => h3 q.2)]⟩)
    · exact .inl ⟨h2, by rw [if_neg (fun q => h2 q.1)]⟩
  · exact .inl ⟨h1, by rw [if_neg h1]⟩
theorem all_bad {v : List Int} {k : Nat} (hk : k < v.length) (h : wornB v[k] = false) : ¬ v.all wornB = true := by
  intro q
  have := List.all_eq_true.1 q v[k] (List.getElem_mem hk)
  rw [h] at this
  cases this
theorem all_take {v : List Int} {k : Nat} (hk : k < v.length) (h : (v.take k).all wornB = true) (h' : wornB v[k] = true) : (v.take (k + 1)).all wornB = true := by
  rw [List.take_succ_eq_append_getElem hk, List.all_append, h]
  simp [h']
set_option maxRecDepth 100000 in
set_option maxHeartbeats 2000000 in
theorem checkFlash_any (b p s : Int) (D V X : Option Addr) (n c c' c'' : Nat) (v x : List Int) (B : Nat) (w : World) (hB : B ≤ w.heap.size) (hv : v.length ≤ 9223372036854775807) (hx : x.length ≤ 9223372036854775807) (h' : IR w B V v) (h'' : IR w B X x) :
    Calls Try.prog 54 #[.agg #[.int .i64 b, .int .i64 p, .int .i64 s, .slice D n c, .slice V v.length c', .slice X x.length c'']] w fun e w' => e = .returned (.int .i64 (flashS b p s n v x)) ∧ Below w.heap.size w w' := by
  have hcs := flash_cases b p s n v x
  have HC := Lib.hid (fun w1 => checkShape_any b p s D V X n v.length x.length c c' c'' w1)
  have HDS := Lib.hid (fun w1 h1 h2 h3 => dataSize_any b p s D V X n v.length x.length c c' c'' w1 h1 h2 h3)
  have HBD := Lib.hid (fun (w1 : World) (hb : Below w.heap.size w w1) h1 => checkBad_any b p s D V X n v.length c c' c'' x B w1 (Nat.le_trans hB hb.size) h1 hx (h''.below (hb.mono hB)))
  generalize flashS b p s n v x = R at *
  generalize shapeS b p s = K at *
  obtain ⟨w0, hw0⟩ : ∃ w0, w.alloc (.cells #[.int .i64 b, .int .i64 p, .int .i64 s, .slice D n c, .slice V v.length c', .slice X x.length c''] 45) = w0 := ⟨_, rfl⟩
  have b0 : Below w.heap.size w w0 := by rw [← hw0]; exact boxF _ _
  have z0 : w0.heap.size = w.heap.size + 1 := by rw [← hw0]; simp
  have h0 : HeldF w0 w.heap.size b p s (.slice D n c) (.slice V v.length c') (.slice X x.length c'') := by rw [← hw0]; exact HeldF.new _ _ _ _ _ _ _
  have HW0 := Lib.hid hw0
  clear hw0 h''
  obtain ⟨p0, p1, p2, p3, p4, p5⟩ := h0.cells
  have HSS := Lib.hid (fun (w' : World) (hb : Below w0.heap.size w0 w') => (h0.below hb (by omega)).cells)
  rcases hcs with ⟨hK, rfl⟩ | ⟨rfl, ⟨h1, h2, h3⟩, hcs⟩
  · have hne : (R != 0) = true := by simpa using hK
    go_enter Try.func54, Try.ntmps54
    go_upto_region 1 with fail
    rw [HW0.out]
    go_wp2_with fail
    refine (HC.out _).mono ?_
    rintro e' w1 ⟨rfl, hb1⟩
    go_wp2_with fail
    go_ret
    exact ⟨rfl, b0.trans (hb1.mono (by omega))⟩
  · have HD1 := Lib.hid (fun w1 => HDS.out w1 h1 h2 h3)
    have HB1 := Lib.hid (fun w1 hb => HBD.out w1 hb h1)
    clear HDS HBD h1 h2 h3
    generalize b * p * s = M at *
    rcases hcs with ⟨hm, rfl⟩ | ⟨hm, hvl, rfl⟩ | ⟨hm, hvl, hR⟩
    · have t1 : ((n : Int) != M) = true := by simpa using hm
      clear hm
      go_enter Try.func54, Try.ntmps54
      go_upto_region 1 with fail
      rw [HW0.out]
      go_wp2_with fail
      refine (HC.out _).mono ?_
      rintro e' w1 ⟨rfl, hb1⟩
      obtain ⟨q0, q1, q2, q3, q4, q5⟩ := HSS.out w1 hb1
      have hs1 := hb1.size
      clear p0 p1 p2 p3 p4 p5 HW0
      go_upto_region 4 with fail
      have r0 : Below w0.heap.size w0 w1 := hb1
      first
        | (go_region_law ((go_simp; go_at_call 88; refine (HD1.out _).mono ?_; rintro e w3 ⟨rfl, hb3⟩; have hb4 : Below w0.heap.size w0 w3 := (by first | exact r0.trans (hb3.mono hs1) | exact r0.drew.trans (hb3.mono hs1)); obtain ⟨y0, y1, y2, y3, y4, y5⟩ := HSS.out w3 hb4)))
        | fail
      all_goals
        have hb5 := b0.trans (hb4.mono (by omega))
        go_wp2_with fail
        go_ret
        exact ⟨rfl, hb5⟩
    · have t1 : ((n : Int) != M) = false := by simpa using hm
      have t2 : ((v.length : Int) != b) = true := by simpa using hvl
      clear hm hvl
      go_enter Try.func54, Try.ntmps54
      go_upto_region 1 with fail
      rw [HW0.out]
      go_wp2_with fail
      refine (HC.out _).mono ?_
      rintro e' w1 ⟨rfl, hb1⟩
      obtain ⟨q0, q1, q2, q3, q4, q5⟩ := HSS.out w1 hb1
      have hs1 := hb1.size
      clear p0 p1 p2 p3 p4 p5 HW0
      go_upto_region 4 with fail
      have r0 : Below w0.heap.size w0 w1 := hb1
      first
        | (go_region_held3 (fun w' => w'.cell? ⟨w.heap.size, 0, none⟩ = some (.int .i64 b) ∧ w'.cell? ⟨w.heap.size, 1, none⟩ = some (.int .i64 p) ∧ w'.cell? ⟨w.heap.size, 2, none⟩ = some (.int .i64 s) ∧ w'.cell? ⟨w.heap.size, 3, none⟩ = some (.slice D n c) ∧ w'.cell? ⟨w.heap.size, 4, none⟩ = some (.slice V v.length c') ∧ w'.cell? ⟨w.heap.size, 5, none⟩ = some (.slice X x.length c''))
          (first | exact HSS.out _ (by assumption) | exact HSS.out _ (Below.drew (by assumption)) | go_keep)
          (first
           | (go_at_call 88
              refine (HD1.out _).mono ?_
              rintro e w3 ⟨rfl, hb3⟩
              have hb4 : Below w0.heap.size w0 w3 := by first | exact r0.trans (hb3.mono hs1) | exact r0.drew.trans (hb3.mono hs1))))
        | fail
      all_goals
        have hb5 := b0.trans (hb4.mono (by omega))
        go_wp2_with fail
        go_ret
        exact ⟨rfl, hb5⟩
    · have t1 : ((n : Int) != M) = false := by simpa using hm
      have t2 : ((v.length : Int) != b) = false := by simpa using hvl
      have HR := Lib.hid hR
      clear hm hvl hR
      go_enter Try.func54, Try.ntmps54
      go_upto_region 1 with fail
      rw [HW0.out]
      go_wp2_with fail
      refine (HC.out _).mono ?_
      rintro e' w1 ⟨rfl, hb1⟩
      obtain ⟨q0, q1, q2, q3, q4, q5⟩ := HSS.out w1 hb1
      have hs1 := hb1.size
      clear p0 p1 p2 p3 p4 p5 HW0
      go_upto_region 4 with fail
      have r0 : Below w0.heap.size w0 w1 := hb1
      first
        | (go_region_held3 (fun w' => w'.cell? ⟨w.heap.size, 0, none⟩ = some (.int .i64 b) ∧ w'.cell? ⟨w.heap.size, 1, none⟩ = some (.int .i64 p) ∧ w'.cell? ⟨w.heap.size, 2, none⟩ = some (.int .i64 s) ∧ w'.cell? ⟨w.heap.size, 3, none⟩ = some (.slice D n c) ∧ w'.cell? ⟨w.heap.size, 4, none⟩ = some (.slice V v.length c') ∧ w'.cell? ⟨w.heap.size, 5, none⟩ = some (.slice X x.length c''))
          (first | exact HSS.out _ (by assumption) | exact HSS.out _ (Below.drew (by assumption)) | go_keep)
          (first
           | (go_at_call 88
              refine (HD1.out _).mono ?_
              rintro e w3 ⟨rfl, hb3⟩
              have hb4 : Below w0.heap.size w0 w3 := by first | exact r0.trans (hb3.mono hs1) | exact r0.drew.trans (hb3.mono hs1))))
        | fail
      all_goals
        have hb5 := b0.trans (hb4.mono (by omega))
        have g1 : IR w3 w3.heap.size V v := (h'.below (hb5.mono hB)).lift (Nat.le_trans hB hb5.size)
        obtain ⟨y0, y1, y2, y3, y4, y5⟩ := HSS.out w3 hb4
        have HB2 := Lib.hid (HB1.out w3 hb5)
        clear q0 q1 q2 q3 q4 q5 HD1 HB1
        go_upto_region 7 with fail
        go_loop [5, 28] (fun _ i => ∃ k : Nat, k ≤ v.length ∧ i = .int .i64 (k : Int) ∧ (v.take k).all wornB = true) (fun _ i => v.length - (intOf i).toNat)
        case atStart => exact ⟨0, Nat.zero_le _, rfl, rfl⟩
        case round =>
          obtain ⟨k, hk, rfl, hall⟩ := hrel
          by_cases hlt : k < v.length
          · obtain ⟨ad, hA, hbk, hc⟩ := g1.get k hlt
            have hk0 : (0 : Int) ≤ (k : Int) := Int.natCast_nonneg _
            have hk1 : (k : Int) < (v.length : Int) := by omega
            have HT := Lib.hid (all_take hlt hall)
            have HF := Lib.hid (fun q => all_bad hlt q)
            have HWB := Lib.hid (show wornB v[k] = decide (0 ≤ v[k] ∧ v[k] ≤ 1000000) from rfl)
            clear hall
            subst hA
            generalize v[k] = y at *
            by_cases hy : 0 ≤ y ∧ y ≤ 1000000
            · have d1 : decide (0 ≤ y ∧ y ≤ 1000000) = true := by simp only [hy, decide_true, and_self]
              have HN := Lib.hid (HT.out (by rw [HWB.out]; exact d1))
              clear hy
              go_wp2_with (first | (go_at_call 55; refine (swithin_any _ _ _ _).mono ?_; rintro e w' ⟨rfl, rfl⟩) | fail)
              go_round
              case rel => exact ⟨k + 1, by omega, by go_num, HN.out⟩
              case measure => simp [intOf]; omega
            · have d1 : decide (0 ≤ y ∧ y ≤ 1000000) = false := by simp; omega
              have HN : Hid (R = 1) := Lib.hid (by rw [HR.out, if_neg (HF.out (by rw [HWB.out]; exact d1))])
              clear hy
              go_wp2_with (first | (go_at_call 55; refine (swithin_any _ _ _ _).mono ?_; rintro e w' ⟨rfl, rfl⟩) | fail)
              go_ret
              exact ⟨ret_int HN.out.symm, hb5⟩
          · have HN : Hid (R = badF b (-1) x) := Lib.hid (by rw [HR.out, if_pos (by rw [List.take_of_length_le (by omega)] at hall; exact hall)])
            clear hall
            go_wp2_with fail
            refine HB2.out.mono ?_
            rintro e' w5 ⟨rfl, hb6⟩
            go_wp2_with fail
            go_ret
            exact ⟨ret_int HN.out.symm, hb5.trans (hb6.mono hb5.size)⟩
end Go.Proofs.Ytpccpkjfnmclfaa
