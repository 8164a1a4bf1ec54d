/- opening a signed command: what the program's open answers. -/
import Derived.Test.YteikggieekhfkaaSrch
import Derived.Deep.RegionHeld3
import Derived.Deep.DeepCutAuto
namespace Go.Proofs.Yteikggieekhfkaa
open Go.RowKit

/-- the fault of opening -/
def openC (key least : Int) (l : List Int) (b : List UInt8) : Int :=
  if b.length ≤ 16 then 9 else if 216 < b.length then 2 else
  if b.drop (b.length - 8) = bigE (sgN key (b.take (b.length - 8))) 8 then
    (if bigN (b.take 8) ≤ 1000000000 then (if (bigN (b.take 8) : Int) < least ∨ (bigN (b.take 8) : Int) ∈ l then 7 else if least + 64 < (bigN (b.take 8) : Int) then 11 else 0) else 1)
  else 15
def openB (key least : Int) (l : List Int) (b : List UInt8) : List UInt8 := if openC key least l b = 0 then (b.take (b.length - 8)).drop 8 else []
def openN (key least : Int) (l : List Int) (b : List UInt8) : Int := if openC key least l b = 0 then (bigN (b.take 8) : Int) else 0
def OpenPost (key least : Int) (l : List Int) (b : List UInt8) (w : World) (e : Ending) (w' : World) : Prop :=
  ∃ v, e = .returned (.tuple #[v, .int .i64 (openN key least l b), .int .i64 (openC key least l b)]) ∧ Own w' w.heap.size v (openB key least l b) ∧ Below w.heap.size w w'
theorem ctr_i64w (n : Nat) (h : n < 18446744073709551616) : ctrB (i64w n) = decide (n ≤ 1000000000) := by
  unfold ctrB i64w
  by_cases h1 : n < 9223372036854775808
  · rw [if_pos h1]
    by_cases h2 : n ≤ 1000000000
    · rw [decide_eq_true h2, decide_eq_true (by omega)]
    · rw [decide_eq_false h2, decide_eq_false (by omega)]
  · rw [if_neg h1, decide_eq_false (show ¬ n ≤ 1000000000 by omega), decide_eq_false (by omega)]
attribute [local go_sem] setCell_draws alloc_draws
set_option maxRecDepth 100000 in
set_option maxHeartbeats 4000000 in
theorem p_open_any (key least : Int) (SA : Option Addr) (l : List Int) (sc : Nat) (A : Option Addr) (b : List UInt8) (c B : Nat) (w : World) (hB : B ≤ w.heap.size) (hll : l.length ≤ 1000000) (hl0 : 0 ≤ least) (hl1 : least ≤ 1000000001) (hbc : b.length ≤ c) (hbl : b.length ≤ 9223372036854775807) (hS : IR w B SA l) (hb : BR w B A b) :
    Calls Try.prog 75 #[kyV key least (.slice SA l.length sc), .slice A b.length c] w (OpenPost key least l b w) := by
  have HE := Lib.hid (show openC key least l b = if b.length ≤ 16 then 9 else if 216 < b.length then 2 else
    if b.drop (b.length - 8) = bigE (sgN key (b.take (b.length - 8))) 8 then
      (if bigN (b.take 8) ≤ 1000000000 then (if (bigN (b.take 8) : Int) < least ∨ (bigN (b.take 8) : Int) ∈ l then 7 else if least + 64 < (bigN (b.take 8) : Int) then 11 else 0) else 1)
    else 15 from rfl)
  have HEB := Lib.hid (show openB key least l b = if openC key least l b = 0 then (b.take (b.length - 8)).drop 8 else [] from rfl)
  have HEN := Lib.hid (show openN key least l b = if openC key least l b = 0 then (bigN (b.take 8) : Int) else 0 from rfl)
  unfold OpenPost
  generalize openB key least l b = RB at *
  generalize openN key least l b = RN at *
  generalize openC key least l b = C at *
  unfold kyV
  have hw1 : ∃ w1, w.alloc (.cells (kyC key least (.slice SA l.length sc)) 58) = w1 := ⟨_, rfl⟩
  obtain ⟨w1, hw1⟩ := hw1
  have b1 : Below w.heap.size w w1 := by rw [← hw1]; exact (Below.refl _ _).alloc (Nat.le_refl _) _
  have g1 : Blk w1 w.heap.size (kyC key least (.slice SA l.length sc)) 58 := by rw [← hw1]; exact Blk.new w _ _
  have hS1 := hS.below (b1.mono hB)
  have hb1 := hb.below (b1.mono hB)
  unfold kyC at hw1
  have HW1 := Lib.hid hw1
  have hgl := g1.lt
  obtain ⟨p0, p1, p2⟩ := blk_k g1
  clear hw1 hS hb
  have fault : ∀ F : Int, C = F → F ≠ 0 → RB = [] ∧ RN = 0 := fun F e1 e2 => ⟨by rw [HEB.out, e1, if_neg e2], by rw [HEN.out, e1, if_neg e2]⟩
  have HFA := Lib.hid fault
  clear fault
  by_cases h16 : b.length ≤ 16
  · have HC : Hid (C = 9) := Lib.hid (by rw [HE.out, if_pos h16])
    have HR := Lib.hid (HFA.out 9 HC.out (by omega))
    have d1 : decide ((b.length : Int) ≤ 16) = true := decide_eq_true (by omega)
    clear HE HEB HEN h16 HFA
    go_enter Try.func75, Try.ntmps75
    go_wp2_with fail
    rw [HW1.out]
    go_ret3
    exact ⟨.slice none 0 0, by rw [HC.out, HR.out.2]; first | done | rfl, by rw [HR.out.1]; exact Own.nil _ _, b1⟩
  · by_cases h216 : 216 < b.length
    · have HC : Hid (C = 2) := Lib.hid (by rw [HE.out, if_neg h16, if_pos h216])
      have HR := Lib.hid (HFA.out 2 HC.out (by omega))
      have d1 : decide ((b.length : Int) ≤ 16) = false := decide_eq_false (by omega)
      have d2 : decide ((216 : Int) < (b.length : Int)) = true := decide_eq_true (by omega)
      clear HE HEB HEN h16 h216 HFA
      go_enter Try.func75, Try.ntmps75
      go_wp2_with fail
      rw [HW1.out]
      go_ret3
      exact ⟨.slice none 0 0, by rw [HC.out, HR.out.2]; first | done | rfl, by rw [HR.out.1]; exact Own.nil _ _, b1⟩
    · obtain ⟨E, hE⟩ : ∃ E, b.length = E + 8 := ⟨b.length - 8, by omega⟩
      have hE1 : b.length - 8 = E := by omega
      rw [hE1] at HE HEB
      obtain ⟨ad, rfl, hab, hc00⟩ := hb1.get 0 (by omega)
      clear hc00
      have hD := (hb1.tail E (by omega))
      obtain ⟨ad2, e2, hD⟩ := hD
      obtain rfl : ad = ad2 := by injection e2
      have hI := hb1.front E
      have hN8 := hb1.front 8
      have hDl : (b.drop E).length = 8 := by simp; omega
      have hIl : (b.take E).length = E := by simp; omega
      have HIL := Lib.hid hIl
      have h8l : (b.take 8).length = 8 := by simp; omega
      obtain ⟨N, hN⟩ : ∃ N, b.length = N := ⟨_, rfl⟩
      have hNE : N = E + 8 := by omega
      have HSG := Lib.hid (fun (w2 : World) (hb2 : Below w1.heap.size w1 w2) => by
        have := p_sign_any key (some ad) (b.take E) c B w2 (by omega) (Nat.le_trans hB (Nat.le_trans b1.size hb2.size)) (hI.below (hb2.mono (Nat.le_trans hB b1.size)))
        rw [hIl] at this
        exact this.mono fun e w' ⟨v, he, ho, h2⟩ => (by obtain ⟨A4, c4, rfl, hr4⟩ := ho.form; exact ⟨A4, c4, he, hr4, hb2.trans (h2.mono hb2.size), h2⟩ : ∃ A4 c4, e = Ending.returned (.slice A4 (bigE (sgN key (b.take E)) 8).length c4) ∧ BR w' w'.heap.size A4 (bigE (sgN key (b.take E)) 8) ∧ Below w1.heap.size w1 w' ∧ Below w2.heap.size w2 w'))
      obtain ⟨S, hSe⟩ : ∃ S, bigE (sgN key (b.take E)) 8 = S := ⟨_, rfl⟩
      have hS8 : S.length ≤ 8 := by rw [← hSe, bigE_len]; exact Nat.le_refl _
      rw [hSe] at HSG HE
      have HEQ := Lib.hid (fun (A4 : Option Addr) (c4 : Nat) (w3 : World) (hb3 : Below w1.heap.size w1 w3) (h4 : BR w3 w3.heap.size A4 S) => by
        have := bytesEqual_any (some (ad.add E)) A4 (c - E) c4 (b.drop E) S w3.heap.size w3 ((hD.below (hb3.mono (Nat.le_trans hB b1.size))).lift (Nat.le_trans (Nat.le_trans hB b1.size) hb3.size)) h4
        rw [show (b.drop E).length = N - E by omega] at this
        exact this)
      obtain ⟨Q, hQ⟩ : ∃ Q, decide (b.drop E = S) = Q := ⟨_, rfl⟩
      rw [hQ] at HEQ
      have HE2 : Hid (C = if Q = true then (if bigN (b.take 8) ≤ 1000000000 then (if (bigN (b.take 8) : Int) < least ∨ (bigN (b.take 8) : Int) ∈ l then 7 else if least + 64 < (bigN (b.take 8) : Int) then 11 else 0) else 1) else 15) := Lib.hid (by
        rw [HE.out, if_neg h16, if_neg h216, ← hQ]
        simp only [decide_eq_true_eq])
      have hn8 := bigN_8 (b.take 8) (by omega)
      have HNU := Lib.hid (fun (w3 : World) (hb3 : Below w1.heap.size w1 w3) => by
        have := number8_any (some ad) c (b.take 8) w3.heap.size w3 (by omega) ((hN8.below (hb3.mono (Nat.le_trans hB b1.size))).lift (Nat.le_trans (Nat.le_trans hB b1.size) hb3.size))
        rw [h8l] at this
        exact this)
      have hctr := ctr_i64w (bigN (b.take 8)) hn8
      have hsm := i64w_small (bigN (b.take 8))
      have HCT := Lib.hid (fun w => by have := p_isCounter_any (i64w (bigN (b.take 8))) w; rw [hctr] at this; exact this)
      have HRB : Hid (C = 0 → RB = (b.take E).drop 8) := Lib.hid (fun e => by rw [HEB.out, if_pos e])
      have HRN : Hid (C = 0 → RN = (bigN (b.take 8) : Int)) := Lib.hid (fun e => by rw [HEN.out, if_pos e])
      generalize bigN (b.take 8) = n at *
      have d1 : decide ((N : Int) ≤ 16) = false := decide_eq_false (by omega)
      have d2 : decide ((216 : Int) < (N : Int)) = false := decide_eq_false (by omega)
      have v1 : IntKind.i64.wrap ((N : Int) - 8) = (E : Int) := by rw [IntWalk.i64_in _ (by omega)]; omega
      have v1' : (N : Int) - 8 = (E : Int) := by omega
      have v1n : N - 8 = E := by omega
      have hEN : (E : Int) ≤ (N : Int) := by omega
      have hE0 : (0 : Int) ≤ (E : Int) := by omega
      have hEc : ¬ c = E := by omega
      have h8c : ¬ c = 8 := by omega
      have hcI : E ≤ c := by omega
      have hEI : (8 : Int) ≤ (E : Int) := by omega
      have hNc : N ≤ c := by omega
      rw [hN]
      have HQE := Lib.hid hQ
      have hNa : E + 8 ≤ N := by omega
      have hE9 : 9 ≤ E := by omega
      have hNb : N ≤ E + 8 := by omega
      have hNc' : N ≤ 216 := by omega
      clear HE HEB HEN h16 h216 hE hE1 hNE e2 hSe hQ hN hctr hIl hDl h8l hN8
      have HSS := Lib.hid (fun (w2 : World) (hb : Below w1.heap.size w1 w2) => (hb.cell hgl).trans p0)
      have hbb : Below w1.heap.size w1 w1 := Below.refl _ _
      go_enter Try.func75, Try.ntmps75
      go_upto_region 6 with fail
      rw [HW1.out]
      go_cut [30] (fun s30 wx => s30 = .bool (!Q) ∧ Below w1.heap.size w1 wx)
      case first =>
        go_region_held3 (fun wx => wx.cell? ⟨w.heap.size, 0, none⟩ = some (.int .i64 key))
          (first | with_reducible exact HSS.out _ hbb | with_reducible exact HSS.out _ hbb.drew | with_reducible exact HSS.out _ hb9 | with_reducible exact HSS.out _ hb9.drew | go_keep)
          (first
           | (go_at_call 71
              with_reducible refine (HSG.out _ ?_).mono ?_
              · first | with_reducible exact hbb.drew | with_reducible exact hbb
              rintro e w3 ⟨A4, c4, rfl, hr4, hb9, hb3⟩)
           | (go_at_call 96
              with_reducible refine (HEQ.out A4 c4 _ ?_ ?_).mono ?_
              · first | with_reducible exact hb9.drew | with_reducible exact hb9
              · first | with_reducible exact hr4
              rintro e w4 ⟨rfl, rfl⟩))
        all_goals
          go_wp2_with fail
          go_meet
          first | exact ⟨rfl, hb9⟩ | exact ⟨rfl, hb9.drew⟩
      case rest =>
        obtain ⟨rfl, hbc6⟩ := hcut
        have hBW := b1.trans (hbc6.mono b1.size)
        have hBw1 := Nat.le_trans hB b1.size
        have hS6 := hS1.below (hbc6.mono hBw1)
        have hb6 := hb1.below (hbc6.mono hBw1)
        have g6 := g1.below hbc6 hgl
        have HNU6 := Lib.hid (HNU.out wc hbc6)
        clear p0 p1 p2 HSS hbb HSG HEQ HNU
        obtain ⟨p0, p1, p2⟩ := blk_k g6
        cases Q
        · have HC : Hid (C = 15) := Lib.hid (by rw [HE2.out, if_neg (by simp)])
          have HR := Lib.hid (HFA.out 15 HC.out (by omega))
          clear HE2
          go_wp2_with fail
          go_ret3
          exact ⟨.slice none 0 0, by rw [HC.out, HR.out.2]; first | done | rfl, by rw [HR.out.1]; exact Own.nil _ _, hBW⟩
        · have HE3 : Hid (C = if n ≤ 1000000000 then (if (n : Int) < least ∨ (n : Int) ∈ l then 7 else if least + 64 < (n : Int) then 11 else 0) else 1) := Lib.hid (by rw [HE2.out, if_pos rfl])
          clear HE2
          by_cases hn : n ≤ 1000000000
          · have e1 := hsm (by omega)
            rw [e1] at HNU6 HCT
            have hdn : decide (n ≤ 1000000000) = true := decide_eq_true hn
            rw [hdn] at HCT
            have HE4 : Hid (C = if (n : Int) < least ∨ (n : Int) ∈ l then 7 else if least + 64 < (n : Int) then 11 else 0) := Lib.hid (by rw [HE3.out, if_pos hn])
            have hnI : (n : Int) ≤ 1000000000 := by omega
            have hnI0 : (0 : Int) ≤ (n : Int) := by omega
            have HCO := Lib.hid (contains_any SA sc l (n : Int) B wc (by omega) hS6)
            clear HE3 e1 hdn hsm hn
            by_cases h7 : (n : Int) < least
            · have HC : Hid (C = 7) := Lib.hid (by rw [HE4.out, if_pos (.inl h7)])
              have HR := Lib.hid (HFA.out 7 HC.out (by omega))
              have d7 : decide ((n : Int) < least) = true := decide_eq_true h7
              clear HE4 h7
              go_wp2_with (first | (go_at_call 97; with_reducible refine HNU6.out.mono ?_; rintro e w5 ⟨rfl, rfl⟩) | (go_at_call 68; with_reducible refine (HCT.out _).mono ?_; rintro e w5 ⟨rfl, rfl⟩) | fail)
              go_ret3
              exact ⟨.slice none 0 0, by rw [HC.out, HR.out.2]; first | done | rfl, by rw [HR.out.1]; exact Own.nil _ _, hBW⟩
            · have d7 : decide ((n : Int) < least) = false := decide_eq_false h7
              by_cases h8 : (n : Int) ∈ l
              · have HC : Hid (C = 7) := Lib.hid (by rw [HE4.out, if_pos (.inr h8)])
                have HR := Lib.hid (HFA.out 7 HC.out (by omega))
                have hd8 : decide ((n : Int) ∈ l) = true := decide_eq_true h8
                rw [hd8] at HCO
                clear HE4 h7 h8 hd8
                go_wp2_with (first | (go_at_call 97; with_reducible refine HNU6.out.mono ?_; rintro e w5 ⟨rfl, rfl⟩) | (go_at_call 68; with_reducible refine (HCT.out _).mono ?_; rintro e w5 ⟨rfl, rfl⟩) | (go_at_call 37; with_reducible refine HCO.out.mono ?_; rintro e w5 ⟨rfl, rfl⟩) | fail)
                go_ret3
                exact ⟨.slice none 0 0, by rw [HC.out, HR.out.2]; first | done | rfl, by rw [HR.out.1]; exact Own.nil _ _, hBW⟩
              · have hd8 : decide ((n : Int) ∈ l) = false := decide_eq_false h8
                rw [hd8] at HCO
                have h78 : ¬ ((n : Int) < least ∨ (n : Int) ∈ l) := fun q => q.elim h7 h8
                by_cases h11 : least + 64 < (n : Int)
                · have HC : Hid (C = 11) := Lib.hid (by rw [HE4.out, if_neg h78, if_pos h11])
                  have HR := Lib.hid (HFA.out 11 HC.out (by omega))
                  have d11 : decide (least + 64 < (n : Int)) = true := decide_eq_true h11
                  clear HE4 h7 h8 hd8 h78 h11
                  go_wp2_with (first | (go_at_call 97; with_reducible refine HNU6.out.mono ?_; rintro e w5 ⟨rfl, rfl⟩) | (go_at_call 68; with_reducible refine (HCT.out _).mono ?_; rintro e w5 ⟨rfl, rfl⟩) | (go_at_call 37; with_reducible refine HCO.out.mono ?_; rintro e w5 ⟨rfl, rfl⟩) | fail)
                  go_ret3
                  exact ⟨.slice none 0 0, by rw [HC.out, HR.out.2]; first | done | rfl, by rw [HR.out.1]; exact Own.nil _ _, hBW⟩
                · have HC : Hid (C = 0) := Lib.hid (by rw [HE4.out, if_neg h78, if_neg h11])
                  have HR1 := Lib.hid (HRB.out HC.out)
                  have HR2 := Lib.hid (HRN.out HC.out)
                  have d11 : decide (least + 64 < (n : Int)) = false := decide_eq_false h11
                  have hM := (hb6.front E).tail 8 (by rw [HIL.out]; omega)
                  obtain ⟨ad3, e3, hM⟩ := hM
                  obtain rfl : ad = ad3 := by injection e3
                  have hMl : ((b.take E).drop 8).length = E - 8 := by rw [List.length_drop, HIL.out]
                  have HCL := Lib.hid (clone_any (some (ad.add 8)) (E - 8) (c - 8) ((b.take E).drop 8) wc hMl.symm (by rw [hMl]; omega) (hM.lift (Nat.le_trans hBw1 hbc6.size)))
                  clear HE4 h7 h8 hd8 h78 h11 e3 hM hMl
                  go_wp2_with (first | (go_at_call 97; with_reducible refine HNU6.out.mono ?_; rintro e w5 ⟨rfl, rfl⟩) | (go_at_call 68; with_reducible refine (HCT.out _).mono ?_; rintro e w5 ⟨rfl, rfl⟩) | (go_at_call 37; with_reducible refine HCO.out.mono ?_; rintro e w5 ⟨rfl, rfl⟩) | fail)
                  refine HCL.out.mono ?_
                  rintro e w6 ⟨v6, rfl, ho6, hb66⟩
                  go_wp2_with fail
                  go_ret3
                  exact ⟨v6, by rw [HC.out, HR2.out]; first | done | rfl, by rw [HR1.out]; exact ho6.lower hBW.size, hBW.trans (hb66.mono hBW.size)⟩
          · have hdn : decide (n ≤ 1000000000) = false := decide_eq_false hn
            rw [hdn] at HCT
            have HC : Hid (C = 1) := Lib.hid (by rw [HE3.out, if_neg hn])
            have HR := Lib.hid (HFA.out 1 HC.out (by omega))
            clear HE3 hdn hsm hn
            generalize i64w n = Z at *
            go_wp2_with (first | (go_at_call 97; with_reducible refine HNU6.out.mono ?_; rintro e w5 ⟨rfl, rfl⟩) | (go_at_call 68; with_reducible refine (HCT.out _).mono ?_; rintro e w5 ⟨rfl, rfl⟩) | fail)
            go_ret3
            exact ⟨.slice none 0 0, by rw [HC.out, HR.out.2]; first | done | rfl, by rw [HR.out.1]; exact Own.nil _ _, hBW⟩
end Go.Proofs.Yteikggieekhfkaa
