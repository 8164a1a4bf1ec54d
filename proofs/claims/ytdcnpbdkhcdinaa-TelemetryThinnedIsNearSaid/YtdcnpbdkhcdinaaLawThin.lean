/- Thinned answers as the reference does, and a reader of what is left is never wrong by more than the width: the law TelemetryThinnedIsNear answers true for every input. No condition. -/
import Derived.Test.YtdcnpbdkhcdinaaRThin
import Derived.Test.YtdcnpbdkhcdinaaAwk
import Derived.Test.YtdcnpbdkhcdinaaOpenRow
import Derived.Test.YtdcnpbdkhcdinaaClosed
import Derived.Deep.DeepCutAuto
namespace Go.Proofs.Ytdcnpbdkhcdinaa
open Go.ChangeShapes Go.WideShapes Go.ChangeAt Go.RowKit

theorem cellsMo : Try.prog.cellsOf 38 = 2 := by kernel_rfl
set_option maxRecDepth 100000 in
theorem mo_of {H : Type} {enc : TypeId × Value → H} {W : World} {sp : Nat → Bool} {held : Bool} {n : Nat} {cs : List Value} {x : DataW H × List MemPlace}
    (h : DataW.trod enc Try.prog W 0 sp held n 38 cs = some x) : ∃ m : Mo, cs = m.cells ∧ (In64 m.t ∧ In64 m.v) := by
  obtain ⟨xs, k, _, rfl, hl, hlen, hf⟩ := DataW.trod_struct Try.underlying38 h
  rw [cellsMo] at hl
  obtain ⟨a, b, rfl⟩ : ∃ a b, cs = [a, b] := by
    match cs, hl with
    | [a, b], _ => exact ⟨a, b, rfl⟩
  match xs, hlen with
  | [y0, y1], _ =>
    have h0 : DataW.trod enc Try.prog W 0 sp held k 3 [a] = some y0 := by simpa [cells3] using hf 0 _ rfl
    have h1 : DataW.trod enc Try.prog W 0 sp held k 3 [b] = some y1 := by simpa [cells3] using hf 1 _ rfl
    obtain ⟨z0, rfl, w0⟩ := int_cell h0
    obtain ⟨z1, rfl, w1⟩ := int_cell h1
    exact ⟨⟨z0, z1⟩, rfl, w0, w1⟩
/-- Moments that came in. -/
theorem open_mos {H : Type} {enc : TypeId × Value → H} {W : World} {sp : Nat → Bool} {held : Bool} {n : Nat} {v : Value} {y : DataW H × List MemPlace}
    (hlt : ∀ x ∈ y.2, x.block < W.heap.size) (h : DataW.trod enc Try.prog W 0 sp held n 33 [v] = some y) :
    ∃ (A : Option Addr) (c : Nat) (l : List Mo), v = .slice A l.length c ∧ l.length ≤ c ∧ c ≤ maxLen ∧ SR Mo.cells W W.heap.size A l ∧ (∀ a ∈ l, In64 a.t ∧ In64 a.v) ∧ (l = [] ∨ ∃ el sp', y.1 = .slice el sp' ∧ l.length ≤ el.length) :=
  open_row Mo.cells 2 Mo.two (by omega) Try.underlying33 cellsMo (fun m => In64 m.t ∧ In64 m.v) (fun h _ => mo_of h) hlt h
theorem thinR_len (l : List Mo) (width : Int) : (thinR l width).length ≤ l.length := by
  unfold thinR
  split
  · have := thin_len width l l.length
    rwa [List.take_length] at this
  · simp
set_option maxRecDepth 100000 in
set_option maxHeartbeats 8000000 in
theorem lawThin_any (A : Option Addr) (l : List Mo) (c : Nat) (width : Int) (w : World) (hll : l.length ≤ 9223372036854775807) (h : SR Mo.cells w w.heap.size A l) :
    Calls Try.prog 5 #[.slice A l.length c, .int .i64 width] w fun e w' => e = .returned (.bool true) ∧ Below w.heap.size w w' := by
  have HP := Lib.hid (p_thinned_any A l c width w.heap.size w (Nat.le_refl _) hll h)
  have HR := Lib.hid (fun w1 (hb : Below w.heap.size w w1) => r_thinned_any A l c width w.heap.size w1 hb.size hll (h.below hb))
  have hrl := thinR_len l width
  have HTF := Lib.hid (show thinR l width = if thinF l width = 0 then thinL width l else [] from rfl)
  have HFF := Lib.hid (show thinF l width = if momF l = 0 then (if 0 ≤ width ∧ width ≤ 1000000000 then 0 else 1) else momF l from rfl)
  have HMF := Lib.hid (@mom_facts l)
  have HAW := Lib.hid awake_any
  unfold ThinPost at HP HR
  generalize thinF l width = F at *
  generalize thinR l width = T at *
  have dF : (F != F) = false := by simp
  go_enter Try.func5, Try.ntmps5
  go_wp2_with fail
  refine HP.out.mono ?_
  rintro e w1 ⟨v1, rfl, ho1, hb1⟩
  obtain ⟨A1, c1, rfl, hr1, -, -⟩ := ho1.form
  go_wp2_with fail
  refine (HR.out w1 hb1).mono ?_
  rintro e w2 ⟨v2, rfl, ho2, hb2⟩
  obtain ⟨A2, c2, rfl, hr2, -, -⟩ := ho2.form
  have B2 := hb1.trans (hb2.mono hb1.size)
  have hr12 := (hr1.below hb2).lift hb2.size
  have HEQ := Lib.hid (equalMo_yes A1 A2 c1 c2 T w2.heap.size w2 (by omega) hr12 hr2)
  clear HP HR ho1 ho2 hr1 hr2
  go_wp2_with fail
  refine HEQ.out.mono ?_
  rintro e w3 ⟨rfl, hb3⟩
  go_wp2_with fail
  refine (HAW.out _).mono ?_
  rintro e w4 ⟨rfl, hb4⟩
  have hb34 := hb3.trans (hb4.mono hb3.size)
  have B4 := B2.trans (hb34.mono B2.size)
  have hT4 := (hr12.below hb34).lift hb34.size
  have hl4 := h.below B4
  have hz4 := B4.size
  clear hb1 hb2 hb3 hb4 hb34 hr12 B2 HEQ HAW h
  by_cases hF : F = 0
  · subst hF
    have hTe : T = thinL width l := by rw [HTF.out, if_pos rfl]
    have hmf : momF l = 0 := by
      have := HFF.out
      by_cases hm : momF l = 0
      · exact hm
      · rw [if_neg hm] at this; exact this.symm
    obtain ⟨h5, hxb, hpw⟩ := HMF.out hmf
    have hwd : 0 ≤ width ∧ width ≤ 1000000000 := by
      have := HFF.out
      rw [if_pos hmf] at this
      by_cases hw : 0 ≤ width ∧ width ≤ 1000000000
      · exact hw
      · rw [if_neg hw] at this; simp at this
    have HXB := Lib.hid hxb
    have HPW := Lib.hid hpw
    have HTE := Lib.hid hTe
    obtain ⟨TL, hTL⟩ : ∃ TL, T.length = TL := ⟨_, rfl⟩
    have HTL := Lib.hid hTL
    rw [hTL] at hrl ⊢
    clear hxb hpw hTe HTF HFF HMF hmf hTL
    go_wp2_with fail
    go_loopw [9, 40] (fun s i wr => ∃ j k : Nat, j ≤ l.length ∧ i = .int .i64 j ∧ s = .int .i64 k ∧ k = thinN width l j - 1 ∧ Below w4.heap.size w4 wr) (fun _ i _ => l.length - (intOf i).toNat)
    case atStart => exact ⟨0, 0, Nat.zero_le _, rfl, rfl, rfl, Below.refl _ _⟩
    case round =>
      obtain ⟨j, k, hj, rfl, rfl, hk, hbr⟩ := hrel
      have hzr := hbr.size
      by_cases hlt : j < l.length
      · obtain ⟨ad, hA, hbk, c0, c1'⟩ := mos_get (hl4.below (hbr.mono hz4)) j hlt
        subst hA
        have hi0 : (0 : Int) ≤ (j : Int) := by omega
        have hi1 : (j : Int) < (l.length : Int) := by omega
        have hxj := HXB.out _ (List.getElem_mem hlt)
        obtain ⟨hn1, hn2⟩ := thin_near width hwd.1 l j hlt
        have hti : ∀ q (hq : q < T.length), T[q].t ≤ l[j].t ↔ q < thinN width l (j + 1) := fun q hq => by
          have := HTE.out
          subst this
          exact thin_times width l HPW.out j hlt q hq
        have hnl : thinN width l (j + 1) ≤ TL := by
          obtain ⟨s, hs⟩ := thin_prefix width l (j + 1) (l.length - (j + 1))
          rw [show j + 1 + (l.length - (j + 1)) = l.length by omega, List.take_length, ← HTE.out] at hs
          have := congrArg List.length hs
          rw [HTL.out, List.length_append] at this
          unfold thinN
          omega
        have hkn : k + 1 ≤ thinN width l (j + 1) := by
          obtain ⟨s, hs⟩ := thin_pre width l j hlt
          have := congrArg List.length hs
          rw [List.length_append] at this
          unfold thinN at hn1 hk ⊢
          omega
        rw [← HTE.out] at hn2
        have hyb : ∀ q (hq : q < T.length), -1000000000 ≤ T[q].v ∧ T[q].v ≤ 1000000000 := fun q hq => by
          have hm : T[q] ∈ thinL width (l.take l.length) := by rw [List.take_length, ← HTE.out]; exact List.getElem_mem _
          have := thin_mem width l l.length _ hm
          rw [List.take_length] at this
          exact (HXB.out _ this).2
        obtain ⟨M, hM⟩ : ∃ M, thinN width l (j + 1) = M := ⟨_, rfl⟩
        have HMM := Lib.hid hM
        rw [hM] at hn1 hn2 hnl hkn
        simp only [hM] at hti
        clear hM
        generalize l[j] = x at *
        obtain ⟨t, v⟩ := x
        simp only at c0 c1' hxj hti hn2
        have ba : Below w4.heap.size wr (wr.alloc (.cells #[.int .i64 t, .int .i64 v] 38)) := (Below.refl _ _).alloc hzr _
        have hT5 := hT4.below (hbr.trans ba)
        have HMOS : Hid (∀ q (hq : q < T.length), ∃ ad5, A1 = some ad5 ∧ (wr.alloc (.cells #[.int .i64 t, .int .i64 v] 38)).cell? (ad5.add (q * 2)) = some (.int .i64 T[q].t) ∧ (wr.alloc (.cells #[.int .i64 t, .int .i64 v] 38)).cell? ⟨(ad5.add (q * 2)).block, (ad5.add (q * 2)).off + 1, none⟩ = some (.int .i64 T[q].v)) := Lib.hid (fun q hq => by
          obtain ⟨ad5, a, -, b, d⟩ := mos_get hT5 q hq
          exact ⟨ad5, a, b, d⟩)
        have HTI := Lib.hid hti
        have HYB := Lib.hid hyb
        have HN2 := Lib.hid hn2
        have HK := Lib.hid hk
        obtain ⟨ad5, hA5, -, -⟩ := HMOS.out 0 (by rw [HTL.out]; omega)
        subst hA5
        clear hti hyb hn2 hk hT5
        go_wp2_with fail
        go_loopw [9] (fun s w6 => ∃ q d : Nat, s = .int .i64 q ∧ k ≤ q ∧ q + 1 ≤ M ∧ w6 = (wr.alloc (.cells #[.int .i64 t, .int .i64 v] 38)).drewN d) (fun s _ => M - (intOf s).toNat)
        case atStart => exact ⟨k, 0, rfl, Nat.le_refl _, hkn, rfl⟩
        case round =>
          obtain ⟨q, d, rfl, hkq, hqM, rfl⟩ := hrel
          have q0 : (0 : Int) ≤ (q : Int) := by omega
          have q1 : (q : Int) < (TL : Int) := by omega
          by_cases hm : q + 1 < M
          · have hq1 : q + 1 < T.length := by rw [HTL.out]; omega
            obtain ⟨ad6, hA6, f0, -⟩ := HMOS.out (q + 1) hq1
            obtain rfl : ad5 = ad6 := by injection hA6
            have hc := (HTI.out (q + 1) hq1).2 hm
            generalize T[q + 1]'hq1 = y at *
            clear hq1
            have e1n : decide (q + 1 < TL) = true := decide_eq_true (by omega)
            have e1 : decide ((q : Int) + 1 < (TL : Int)) = true := decide_eq_true (by omega)
            have e2 : decide (y.t ≤ t) = true := decide_eq_true hc
            have e3 : (q : Int) + 1 < (TL : Int) := by omega
            have e4 : (0 : Int) ≤ (q : Int) + 1 := by omega
            go_wp2_with fail
            go_quiet (fail)
            go_wp2_with fail
            go_roundw
            case rel => exact ⟨q + 1, d + nq, by go_num, by omega, by omega, rfl⟩
            case measure => simp [intOf]; omega
          · have hqT : q < T.length := by rw [HTL.out]; omega
            obtain ⟨ad7, hA7, -, f1⟩ := HMOS.out q hqT
            obtain rfl : ad5 = ad7 := by injection hA7
            have hqe : q = M - 1 := by omega
            have hny : nearB width v (T[q]'hqT).v = true := by
              have := HN2.out
              rw [← hqe] at this
              simpa [List.getD, hqT] using this
            have HQE := Lib.hid hqe
            clear hqe
            have hyq := HYB.out q hqT
            generalize (T[q]'hqT).v = y at *
            clear hqT
            unfold nearB at hny
            simp only [decide_eq_true_eq] at hny
            have w1' : IntKind.i64.wrap (v - y) = v - y := IntWalk.i64_in _ (by omega)
            have w2' : wrap64 (v - y) = v - y := IntWalk.wrap64_in _ (by omega)
            have w3' : IntKind.i64.wrap (y - v) = y - v := IntWalk.i64_in _ (by omega)
            have w4' : IntKind.i64.wrap (-(v - y)) = y - v := by rw [Int.neg_sub]; exact IntWalk.i64_in _ (by omega)
            have w5' : wrap64 (y - v) = y - v := IntWalk.wrap64_in _ (by omega)
            have g1 : decide (width < v - y) = false := decide_eq_false (by omega)
            have g2 : decide (width < y - v) = false := decide_eq_false (by omega)
            by_cases hq2 : q + 1 < TL
            · have hq1 : q + 1 < T.length := by rw [HTL.out]; omega
              obtain ⟨ad6, hA6, f0, -⟩ := HMOS.out (q + 1) hq1
              obtain rfl : ad5 = ad6 := by injection hA6
              have hc : ¬ (T[q + 1]'hq1).t ≤ t := fun hh => hm ((HTI.out (q + 1) hq1).1 hh)
              generalize T[q + 1]'hq1 = z at *
              clear hq1
              have e1n : decide (q + 1 < TL) = true := decide_eq_true (by omega)
              have e1 : decide ((q : Int) + 1 < (TL : Int)) = true := decide_eq_true (by omega)
              have e2 : decide (z.t ≤ t) = false := decide_eq_false hc
              have e3 : (q : Int) + 1 < (TL : Int) := by omega
              have e4 : (0 : Int) ≤ (q : Int) + 1 := by omega
              clear hny hxj
              go_wp2_with fail
              go_quiet (fail)
              go_wp2_with fail
              go_quiet (fail)
              go_wp2_with fail
              go_roundw
              case rel => exact ⟨j + 1, q, by omega, by go_num, rfl, by rw [HMM.out]; exact HQE.out, below_draws (hbr.trans ba) _⟩
              case measure => simp [intOf]; omega
            · have e1 : decide ((q : Int) + 1 < (TL : Int)) = false := decide_eq_false (by omega)
              have e1n : decide (q + 1 < TL) = false := decide_eq_false (by omega)
              clear hny hxj
              go_wp2_with fail
              go_quiet (fail)
              go_wp2_with fail
              go_quiet (fail)
              go_wp2_with fail
              go_roundw
              case rel => exact ⟨j + 1, q, by omega, by go_num, rfl, by rw [HMM.out]; exact HQE.out, below_draws (hbr.trans ba) _⟩
              case measure => simp [intOf]; omega
      · obtain rfl : j = l.length := by omega
        go_wp2_with fail
        go_ret
        exact ⟨rfl, B4.trans (hbr.mono hz4)⟩
  · have dq : (F != 0) = true := by simpa using hF
    clear HTF HFF HMF hF hT4
    go_wp2_with fail
    go_loopw [9, 40] (fun _ i wr => ∃ j : Nat, j ≤ l.length ∧ i = .int .i64 j ∧ Below w4.heap.size w4 wr) (fun _ i _ => l.length - (intOf i).toNat)
    case atStart => exact ⟨0, Nat.zero_le _, rfl, Below.refl _ _⟩
    case round =>
      obtain ⟨j, hj, rfl, hbr⟩ := hrel
      have hzr := hbr.size
      by_cases hlt : j < l.length
      · obtain ⟨ad, hA, hbk, c0, c1'⟩ := mos_get (hl4.below (hbr.mono hz4)) j hlt
        subst hA
        have hi0 : (0 : Int) ≤ (j : Int) := by omega
        have hi1 : (j : Int) < (l.length : Int) := by omega
        generalize l[j] = x at *
        obtain ⟨t, v⟩ := x
        simp only at c0 c1'
        have ba : Below w4.heap.size wr (wr.alloc (.cells #[.int .i64 t, .int .i64 v] 38)) := (Below.refl _ _).alloc hzr _
        go_wp2_with fail
        go_ret
        exact ⟨rfl, B4.trans ((hbr.trans ba).mono hz4)⟩
      · obtain rfl : j = l.length := by omega
        go_wp2_with fail
        go_ret
        exact ⟨rfl, B4.trans (hbr.mono hz4)⟩

set_option maxHeartbeats 1600000 in
set_option maxRecDepth 100000 in
theorem thin_lifted (os : Os) (started : os.Started) (H : Type) (enc : TypeId × Value → H) :
    ReturnsInHanded {} Try.checked os 5 .any (Rows.telemetryThinnedIsNearSpec.pre6 enc Try.prog Try.f5 Rows.telemetryThinnedIsNearRow.domain false) (Rows.telemetryThinnedIsNearSpec.post enc Try.prog Try.f5 false true false false) := by
  refine returnsInHanded_of_change (C := Try.checked) own started (by kernel_rfl) Try.func5
    (ChangeSpec.witness6 (enc := enc) (C := Try.checked) false ⟨#[], #[.slice none 0 0, .int .i64 0], []⟩ 8 (by kernel_rfl) (by kernel_rfl) (by kernel_rfl) (by kernel_rfl)) ?_
  intro W base args ds gs before hval0 hW _ _
  have hval : ∀ (j : Nat) t v, Try.f5.params[j]? = some t → args[j]? = some v → Value.okWide Try.prog W .any base t v := hval0
  have hW' := hW
  have hlt := fun x hx => hW'.lt x hx
  obtain ⟨p, q, hA0, hV, rfl, _, _⟩ := hW
  have hA : DataW.TrodAll enc Try.prog W 0 (fun _ => true) true Try.f5.params.toList args.toList ds p := hA0
  rw [Try.params5] at hA hval
  obtain ⟨v0, v1, d0, d1, p0, p1, rfl, rfl, rfl, h0, h1⟩ := trodAll_two hA
  obtain ⟨rfl, rfl⟩ := trodVars_none hV
  obtain ⟨Am', lenm, capm, rfl⟩ := okWide_slice Try.underlying33 (hval 0 33 v0 rfl rfl)
  obtain ⟨nm, hnm⟩ := h0
  obtain ⟨Am, cm, m, hvm, hlcm, hcm, hBm, hIm, hdm⟩ := open_mos (fun x hx => hlt x (by simp [hx])) hnm
  obtain ⟨k, rfl, rfl, rfl, wfk⟩ := open_int Try.underlying3 (hval 1 3 v1 rfl rfl) h1
  have hbk := bounds_i64 wfk
  rw [hvm] at hW' ⊢
  refine (lawThin_any Am m cm k W (by have := hlcm; have := hcm; unfold maxLen at *; omega) hBm).mono fun e W' ⟨he, hb⟩ => ?_
  subst he
  exact ⟨_, rfl, law_post (by decide +kernel) rfl rfl hW' rfl hb⟩

set_option maxRecDepth 100000 in
theorem thin_closed : joinedFacts Try.prog 5 Try.f5 Rows.telemetryThinnedIsNearSpec Rows.telemetryThinnedIsNearRow = true :=
  closed_all (by as_aux_lemma => kernel_rfl) (by as_aux_lemma => kernel_rfl) (by as_aux_lemma => kernel_rfl) (by as_aux_lemma => kernel_rfl) (by as_aux_lemma => kernel_rfl) (by as_aux_lemma => kernel_rfl) (by as_aux_lemma => kernel_rfl) (by as_aux_lemma => kernel_rfl) (by as_aux_lemma => kernel_rfl) (by as_aux_lemma => kernel_rfl) (by as_aux_lemma => kernel_rfl) (by as_aux_lemma => kernel_rfl) (by as_aux_lemma => kernel_rfl) (by as_aux_lemma => kernel_rfl) (by as_aux_lemma => kernel_rfl) (by as_aux_lemma => kernel_rfl) (by as_aux_lemma => kernel_rfl) (by as_aux_lemma => kernel_rfl) pKeys (by as_aux_lemma => kernel_rfl) pLifts pMake (by as_aux_lemma => kernel_rfl) (by as_aux_lemma => kernel_rfl) (by as_aux_lemma => kernel_rfl) (by as_aux_lemma => kernel_rfl)

theorem thin_holds : Rows.TelemetryThinnedIsNearSaid :=
  OpenClaim.holds_of_wide 5 Try.f5 rfl rfl rfl rfl rfl rfl rfl ⟨rfl, rfl, rfl, rfl, rfl⟩ rfl rfl rfl rfl rfl (by kernel_rfl) Try.func5 thin_closed
    (of_decide_eq_true (by kernel_rfl)) (by unfold Func.isWrapper; first | (rw [if_pos (by decide +kernel)]; kernel_rfl) | (rw [if_neg (by decide +kernel)]; exact ⟨rfl, rfl⟩))
    (fun os started H enc _ => thin_lifted os started H enc)
#print axioms thin_holds
end Go.Proofs.Ytdcnpbdkhcdinaa
