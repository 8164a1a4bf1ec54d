/- the program's checkMoments and Thinned whole. -/
import Derived.Test.YtdcnpbdkhcdinaaSqP
import Derived.Test.YtdcnpbdkhcdinaaEqualMo
import Derived.Deep.QuietTactic
import Derived.BigQuiet
namespace Go.Proofs.Ytdcnpbdkhcdinaa
open Go.RowKit

theorem moB_eq (x : Mo) : moB x = (decide (0 ≤ x.t ∧ x.t ≤ 1000000000000) && meaB x.v) := by unfold moB meaB; rw [Bool.decide_and]
set_option maxRecDepth 100000 in
set_option maxHeartbeats 4000000 in
theorem p_checkMoments_any (A : Option Addr) (l : List Mo) (c B : Nat) (w : World) (hB : B ≤ w.heap.size) (hll : l.length ≤ 9223372036854775807) (h : SR Mo.cells w B A l) :
    Calls Try.prog 46 #[.slice A l.length c] w fun e w' => e = .returned (.int .i64 (momF l)) ∧ Below w.heap.size w w' := by
  have HF := Lib.hid (show momF l = if 5000 < l.length then 2 else chkM (-1) l from rfl)
  by_cases h5 : 5000 < l.length
  · have i5 : (5000 : Int) < (l.length : Int) := by omega
    have hf : momF l = 2 := by rw [HF.out, if_pos h5]
    rw [hf]
    clear hf HF
    go_enter Try.func46, Try.ntmps46
    go_wp2_with fail
    go_ret
    exact ⟨rfl, Below.refl _ _⟩
  · have i5 : (l.length : Int) ≤ 5000 := by omega
    have hf : momF l = chkM (-1) l := by rw [HF.out, if_neg h5]
    rw [hf]
    clear hf HF
    go_enter Try.func46, Try.ntmps46
    go_wp2_with fail
    go_loopw [10] (fun i wr => ∃ j : Nat, j ≤ l.length ∧ i = .int .i64 j ∧ chkM (-1) l = chkM (prevT l j) (l.drop j) ∧ Below w.heap.size w wr) (fun i _ => l.length - (intOf i).toNat)
    case atStart => exact ⟨0, Nat.zero_le _, rfl, rfl, Below.refl _ _⟩
    case round =>
      obtain ⟨j, hj, rfl, hE, hbr⟩ := hrel
      have hr := h.below (hbr.mono hB)
      by_cases hlt : j < l.length
      · obtain ⟨ad, hA, hbk, c0, c1⟩ := mos_get hr j hlt
        have hi0 : (0 : Int) ≤ (j : Int) := by omega
        have hi1 : (j : Int) < (l.length : Int) := by omega
        have hst := chk_step l j hlt
        have HPN := Lib.hid (prev_next l j hlt)
        have hmb := moB_eq l[j]
        have HPV : Hid (∀ k, j = k + 1 → ∃ p : Mo, prevT l j = p.t ∧ (wr.alloc (.cells #[.int .i64 l[j].t, .int .i64 l[j].v] 38)).cell? (ad.add (k * 2)) = some (.int .i64 p.t)) := Lib.hid (fun k hk => by
          obtain ⟨ad', hA', -, d0, -⟩ := mos_get (hr.below ((Below.refl B wr).alloc (Nat.le_trans hB hbr.size) (.cells #[.int .i64 l[j].t, .int .i64 l[j].v] 38))) k (by omega)
          rw [hA] at hA'
          obtain rfl : ad = ad' := by injection hA'
          exact ⟨l[k], by subst hk; exact prev_next l k (by omega), d0⟩)
        subst hA
        generalize l[j] = x at *
        obtain ⟨t, v⟩ := x
        simp only at c0 c1 hst hmb HPN HPV
        have HW := Lib.hid (twithin_any t 0 1000000000000)
        have HM := Lib.hid (measured_any v)
        have ba : Below w.heap.size w (wr.alloc (.cells #[.int .i64 t, .int .i64 v] 38)) := hbr.alloc hbr.size _
        have HE := Lib.hid (hE.trans hst)
        clear hE hst h hr
        by_cases h1 : 0 ≤ t ∧ t ≤ 1000000000000
        · rw [decide_eq_true h1] at HW hmb
          by_cases h2 : meaB v = true
          · rw [h2] at HM hmb
            rw [hmb] at HE
            by_cases hj0 : j = 0
            · have i00 : decide (0 < j) = false := decide_eq_false (by omega)
              have HJ0 := Lib.hid hj0
              have HE2 : Hid (chkM (-1) l = chkM (prevT l 1) (l.drop 1)) := Lib.hid (by rw [HE.out, if_pos (by simp), if_neg (by rw [hj0]; simp [prevT]; omega), hj0])
              clear HE HPV hj0
              go_wp2_with fail
              refine (HW.out _).mono ?_
              rintro e w' ⟨rfl, rfl⟩
              go_wp2_with fail
              refine (HM.out _).mono ?_
              rintro e w' ⟨rfl, rfl⟩
              go_wp2_with fail
              go_quiet (fail)
              all_goals
                go_wp2_with fail
                go_roundw
                case rel => exact ⟨j + 1, by omega, by go_num, by rw [HJ0.out]; exact HE2.out, below_draws ba _⟩
                case measure => simp [intOf]; omega
            · obtain ⟨k, hk⟩ : ∃ k, j = k + 1 := ⟨j - 1, by omega⟩
              have i00 : decide (0 < j) = true := decide_eq_true (by omega)
              have e1 : (j : Int) - 1 = (k : Int) := by omega
              have e2 : IntKind.i64.wrap (k : Int) = (k : Int) := IntWalk.i64_in _ (by omega)
              have k0 : (0 : Int) ≤ (k : Int) := by omega
              have k1 : (k : Int) < (l.length : Int) := by omega
              obtain ⟨p, hp, d0⟩ := HPV.out k hk
              clear hk hj0
              rw [hp] at HE
              obtain ⟨pt, pv⟩ := p
              simp only at HE d0
              by_cases h3 : t ≤ pt
              · have HE2 : Hid (chkM (-1) l = 8) := Lib.hid (by rw [HE.out, if_pos (by simp), if_pos h3])
                have d3 : decide (t ≤ pt) = true := decide_eq_true h3
                clear HE HPV
                go_wp2_with fail
                refine (HW.out _).mono ?_
                rintro e w' ⟨rfl, rfl⟩
                go_wp2_with fail
                refine (HM.out _).mono ?_
                rintro e w' ⟨rfl, rfl⟩
                go_wp2_with fail
                go_quiet (fail)
                all_goals
                  go_wp2_with fail
                  go_ret
                  exact ⟨by rw [HE2.out]; rfl, below_draws ba _⟩
              · have HE2 : Hid (chkM (-1) l = chkM (prevT l (j + 1)) (l.drop (j + 1))) := Lib.hid (by rw [HE.out, if_pos (by simp), if_neg h3])
                have d3 : decide (t ≤ pt) = false := decide_eq_false h3
                clear HE HPV
                go_wp2_with fail
                refine (HW.out _).mono ?_
                rintro e w' ⟨rfl, rfl⟩
                go_wp2_with fail
                refine (HM.out _).mono ?_
                rintro e w' ⟨rfl, rfl⟩
                go_wp2_with fail
                go_quiet (fail)
                all_goals
                  go_wp2_with fail
                  go_roundw
                  case rel => exact ⟨j + 1, by omega, by go_num, HE2.out, below_draws ba _⟩
                  case measure => simp [intOf]; omega
          · have h2f : meaB v = false := by simpa using h2
            rw [h2f] at HM hmb
            have HE2 : Hid (chkM (-1) l = 1) := Lib.hid (by rw [HE.out, hmb]; rfl)
            clear HE HPV
            go_wp2_with fail
            refine (HW.out _).mono ?_
            rintro e w' ⟨rfl, rfl⟩
            go_wp2_with fail
            refine (HM.out _).mono ?_
            rintro e w' ⟨rfl, rfl⟩
            go_wp2_with fail
            go_ret
            exact ⟨by rw [HE2.out]; rfl, ba⟩
        · rw [decide_eq_false h1] at HW hmb
          have HE2 : Hid (chkM (-1) l = 1) := Lib.hid (by rw [HE.out, hmb]; rfl)
          clear HE HPV
          go_wp2_with fail
          refine (HW.out _).mono ?_
          rintro e w' ⟨rfl, rfl⟩
          go_wp2_with fail
          go_ret
          exact ⟨by rw [HE2.out]; rfl, ba⟩
      · obtain rfl : j = l.length := by omega
        rw [chk_end] at hE
        have HE := Lib.hid hE
        clear hE
        go_wp2_with fail
        go_ret
        exact ⟨by rw [HE.out]; rfl, hbr⟩
end Go.Proofs.Ytdcnpbdkhcdinaa
