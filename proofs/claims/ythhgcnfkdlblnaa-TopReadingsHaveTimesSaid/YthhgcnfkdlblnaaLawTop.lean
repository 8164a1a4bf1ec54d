/- Readings of a counter that goes around have times that never fall, and are those of the ticks: the law TopReadingsHaveTimes answers true for every input. No condition. -/
import Derived.Test.YthhgcnfkdlblnaaTopMath
import Derived.Test.YthhgcnfkdlblnaaLawNever
namespace Go.Proofs.Ythhgcnfkdlblnaa
open Go.ChangeShapes Go.WideShapes Go.ChangeAt Go.RowKit

theorem turned_turns : turned stepR [17] 4 = ([1], 0) := by decide +kernel
set_option maxRecDepth 100000 in
set_option maxHeartbeats 400000 in
theorem turns_any (w : World) :
    Calls Try.prog 51 #[] w fun e w' => e = .returned (.bool true) ∧ Below w.heap.size w w' := by
  have hs := fun C (hC : C = ([17].map iv).toArray) => rolled_any (some ⟨w.heap.size, 0, none⟩) 1 [17] 4 (w.alloc (.cells C 3)) (by decide) (by have := Cells.fresh w ([17].map iv) 3 (0, 0) C hC; simpa [IR] using this)
  rw [turned_turns] at hs
  have HS := Lib.hid hs
  clear hs
  go_enter Try.func51, Try.ntmps51
  go_wp2_with fail
  refine (HS.out _ rfl).mono ?_
  rintro e w' ⟨v, rfl, hown, hb⟩
  obtain ⟨ad, c, rfl, hc⟩ := hown.get 0 (by simp)
  simp only [List.getElem_cons_zero, addr_zero] at hc
  go_wp2_with fail
  go_ret
  exact ⟨rfl, ((Below.refl _ _).alloc (Nat.le_refl _) _).trans (hb.mono (by simp))⟩

/-- the head of the first loop -/
def TopAt (R : Int) (l : List Int) (W : World) (f i : Value) (wr : World) : Prop := ∃ (k d : Nat) (t : Bool), 1 ≤ k ∧ i = .int .i64 k ∧ f = .bool t ∧ (t = true ↔ NearTo R l k) ∧ wr = W.drewN d
/-- the head of the second loop -/
def TopIn (m : List Mk) (Y : List Int) (W : World) (la an i : Value) (wr : World) : Prop :=
  ∃ (k : Nat) (z : Int) (t : Bool), k ≤ Y.length ∧ i = .int .i64 k ∧ la = .int .i64 z ∧ an = .bool t ∧ Below W.heap.size W wr ∧ (t = true → ∃ (j : Nat) (h : j < Y.length), j < k ∧ TimeR m Y[j] (z, 0))
set_option maxRecDepth 100000 in
set_option maxHeartbeats 4000000 in
theorem lawTop_any (A A' : Option Addr) (c c' : Nat) (m : List Mk) (l : List Int) (b : Int) (w : World) (hm : m.length ≤ 9223372036854775807) (hl : l.length ≤ 9223372036854775807) (hM : MR w w.heap.size A m) (h : IR w w.heap.size A' l) :
    Calls Try.prog 18 #[.slice A m.length c, .slice A' l.length c', .int .i64 b] w fun e w' => e = .returned (.bool true) ∧ Below w.heap.size w w' := by
  have c1 := rolled_any A' c' l b w hl h
  by_cases hf : (turned stepR l b).2 = 0
  · obtain ⟨e1, hb, hl5, hbd, -⟩ := unrolls l b hf
    have hsh := wrap_round b hb.1 hb.2
    have HTN := Lib.hid (fun hn => top_near l b hf hn)
    obtain ⟨X, hX⟩ : ∃ X, X = l.map (· % roundOf b) := ⟨_, rfl⟩
    have hXl : X.length = l.length := by rw [hX]; simp
    rw [e1, ← hX] at c1
    rw [← hX] at HTN
    have c3 := fun (A1 : Option Addr) (k1 : Nat) (w' : World) (hI : IR w' w'.heap.size A1 X) => unrolled_any A1 k1 X b w' (by omega) hI
    have htt := fun hh => top_ticks X b hh
    have hnf := fun hh => turned_fault stepU X b hh
    have HT := Lib.hid (fun (w' : World) (hb : Below w.heap.size w w') (n : Int) => timeOf_any A c m n w' hm ((hM.below hb).lift hb.size))
    generalize turned stepU X b = r2 at *
    obtain ⟨hR1, hR2⟩ := roundOf_bd b hb.1 hb.2
    generalize roundOf b = R at *
    unfold TimeOfPost at HT
    have C1 := Lib.hid c1
    have C3 := Lib.hid c3
    have HTT := Lib.hid htt
    have HNF := Lib.hid hnf
    have HBD := Lib.hid hbd
    have HA := Lib.hid hM
    clear c1 c3 htt hnf hbd hf e1 hX hM
    obtain ⟨hb1, hb2⟩ := hb
    have HXL := Lib.hid hXl
    clear hXl
    go_enter Try.func18, Try.ntmps18
    go_wp2_with fail
    refine C1.out.mono ?_
    rintro e w1 ⟨v1, rfl, ho1, hb1'⟩
    obtain ⟨A1, k1, rfl, r1⟩ := ho1.form
    clear ho1
    have hw1 := h.below hb1'
    rcases Nat.eq_zero_or_pos l.length with h0 | hpos
    · obtain rfl : l = [] := List.eq_nil_of_length_eq_zero h0
      obtain rfl : X = [] := List.eq_nil_of_length_eq_zero (by rw [HXL.out]; rfl)
      have e2 : r2 = ([], 0) := HTN.out ⟨fun h => by simp at h, fun i h _ => by simp at h⟩
      subst e2
      have C4 := Lib.hid (C3.out A1 k1 w1 r1)
      clear HTN HTT HNF h0 HBD HXL C3 r1 h hw1
      simp only [List.length_nil]
      go_wp2_with fail
      go_loopw [9, 10] (fun f i wr => f = .bool true ∧ i = .int .i64 1 ∧ wr = w1) (fun _ _ _ => 0)
      case atStart => exact ⟨rfl, rfl, rfl⟩
      case round =>
        obtain ⟨rfl, rfl, rfl⟩ := hrel
        go_wp2_with fail
        refine C4.out.mono ?_
        rintro e w3 ⟨v3, rfl, ho3, hb3⟩
        have g3 := hb1'.trans (hb3.mono hb1'.size)
        obtain ⟨A3, k3, rfl, r3⟩ := ho3.form
        simp only [List.length_nil]
        clear ho3 hb3 r3
        go_wp2_with fail
        go_loopw [12, 13, 14] (fun _ _ i wr => i = .int .i64 0 ∧ wr = w3) (fun _ _ _ _ => 0)
        case atStart => exact ⟨rfl, rfl⟩
        case round =>
          obtain ⟨rfl, rfl⟩ := hrel
          go_wp2_with fail
          refine (turns_any _).mono ?_
          rintro e w5 ⟨rfl, hb5⟩
          go_wp2_with fail
          go_ret
          exact ⟨rfl, g3.trans (hb5.mono g3.size)⟩
    have hl0 : ((l.length : Int) == 0) = false := beq_eq_false_iff_ne.2 (by omega)
    obtain ⟨al, rfl, hal, cl0⟩ := hw1.get 0 hpos
    rw [addr_zero] at cl0
    have hx0 := HBD.out _ (List.getElem_mem hpos)
    have HN0 : Hid ((decide (l[0] < R) = true) ↔ NearTo R l 1) := Lib.hid (by rw [nearTo_first, decide_eq_true_eq]; exact ⟨fun h _ => h, fun h => h hpos⟩)
    generalize l[0] = x0 at *
    generalize hq0 : decide (x0 < R) = t0 at *
    go_wp2_with fail
    simp only [hsh]
    go_loopw [9, 10] (fun f i wr => TopAt R l w1 f i wr) (fun _ i _ => l.length - (intOf i).toNat)
    case atStart => exact ⟨1, 0, t0, by omega, rfl, by simp, HN0.out, rfl⟩
    case round =>
      obtain ⟨k, d, t, hk1, rfl, rfl, hn, rfl⟩ := hrel
      have HNE := Lib.hid hn
      clear hn
      by_cases hlt : k < l.length
      · obtain ⟨ad, e1', -, hc⟩ := hw1.get k hlt
        obtain rfl : al = ad := by injection e1'
        obtain ⟨ad', e', -, hc'⟩ := hw1.get (k - 1) (by omega)
        obtain rfl : al = ad' := by injection e'
        obtain ⟨m3, m4⟩ := HBD.out _ (List.getElem_mem hlt)
        obtain ⟨m5, m6⟩ := HBD.out _ (List.getElem_mem (show k - 1 < l.length by omega))
        have HNN := Lib.hid (nearTo_next R l k hk1 hlt)
        generalize l[k] = x at *
        generalize l[k - 1] = y at *
        have hk0 : (0 : Int) ≤ (k : Int) := by omega
        have hk2 : (k : Int) < (l.length : Int) := by omega
        have hk3 : (0 : Int) ≤ (k : Int) - 1 := by omega
        have hk4 : (k : Int) - 1 < (l.length : Int) := by omega
        have hk5 : ((k : Int) - 1).toNat = k - 1 := by omega
        clear e' e1'
        rcases t with _ | _
        · have HFIN : Hid (false = true ↔ NearTo R l (k + 1)) := Lib.hid ⟨fun e => (by cases e), fun e => HNE.out.2 (HNN.out.1 e).1⟩
          go_wp2_with fail
          go_quiet (fail)
          go_wp2_with fail
          go_roundw
          case rel => exact ⟨k + 1, d + nq, false, by omega, by go_num, rfl, HFIN.out, rfl⟩
          case measure => simp [intOf]; omega
        · have HFIN : Hid (decide (x - y < R) = true ↔ NearTo R l (k + 1)) := Lib.hid ⟨fun e => HNN.out.2 ⟨HNE.out.1 rfl, of_decide_eq_true e⟩, fun e => decide_eq_true (HNN.out.1 e).2⟩
          generalize hq : decide (x - y < R) = q at *
          go_wp2_with fail
          go_quiet (fail)
          go_wp2_with fail
          go_roundw
          case rel => exact ⟨k + 1, d + nq, q, by omega, by go_num, rfl, HFIN.out, rfl⟩
          case measure => simp [intOf]; omega
      · have hke : l.length ≤ k := by omega
        go_wp2_with fail
        refine (C3.out A1 k1 (w1.drewN d) (r1.below (below_draws (Below.refl _ _) d))).mono ?_
        rintro e w3 ⟨v3, rfl, ho3, hb3⟩
        have g3 : Below w.heap.size w w3 := (below_draws hb1' d).trans (hb3.mono hb1'.size)
        obtain ⟨A3, k3, rfl, r3⟩ := ho3.form
        clear ho3 hb3 C3
        rcases t with _ | _
        · by_cases hG : r2.2 = 0
          · obtain ⟨Y, e2, hYl, hmo⟩ := HTT.out hG
            have HMO := Lib.hid hmo
            have HYL := Lib.hid hYl
            have hY5 : Y.length ≤ 5000 := by rw [hYl, HXL.out]; exact hl5
            subst e2
            simp only at r3
            clear hG hmo hYl HTN HTT HNF
            go_wp2_with fail
            go_loopw [12, 13, 14] (fun la an i wr => TopIn m Y w3 la an i wr) (fun _ _ i _ => Y.length - (intOf i).toNat)
            case atStart => exact ⟨0, 0, false, Nat.zero_le _, rfl, rfl, rfl, Below.refl _ _, fun e => by cases e⟩
            case round =>
              obtain ⟨k, z, t, hk, rfl, rfl, rfl, hb, hz⟩ := hrel
              have HZ := Lib.hid hz
              clear hz
              have hbw := g3.trans (hb.mono g3.size)
              by_cases hkl : k < Y.length
              · obtain ⟨ay, rfl, hay, cy⟩ := (r3.below hb).get k hkl
                have HYK := Lib.hid (fun (j : Nat) hj => HMO.out k j hkl hj)
                have HYE : Hid (Y[k]? = some Y[k]) := Lib.hid (List.getElem?_eq_getElem hkl)
                have hk0 : (0 : Int) ≤ (k : Int) := by omega
                have hk1 : (k : Int) < (Y.length : Int) := by omega
                have HYN := Lib.hid (show Y[k] = Y[k] from rfl)
                generalize hy : Y[k] = y at *
                go_wp2_with fail
                refine (HT.out wr hbw y).mono ?_
                rintro e w4 ⟨⟨a, F, rfl, ha⟩, hb4⟩
                have g4 := hb.trans (hb4.mono hb.size)
                have gw4 := hbw.trans (hb4.mono hbw.size)
                have HAT := Lib.hid ha
                have HY := Lib.hid hy
                clear ha hy hb4
                have gF := g4
                by_cases hF : F = 0
                · subst hF
                  have HREL : Hid (∃ (j : Nat) (h : j < Y.length), j < k + 1 ∧ TimeR m Y[j] (a, 0)) := Lib.hid ⟨k, hkl, by omega, by rw [HY.out]; exact HAT.out⟩
                  rcases t with _ | _
                  · go_wp2_with fail
                    go_roundw
                    case rel => exact ⟨k + 1, a, true, by omega, by go_num, rfl, rfl, gF, fun _ => HREL.out⟩
                    case measure => simp [intOf]; omega
                  · have hza : z ≤ a := by
                      obtain ⟨j, hj, hjk, hjt⟩ := HZ.out rfl
                      have q := HYK.out j (by omega)
                      exact TimeR.mono hjt HAT.out q
                    have t1 : decide (a < z) = false := by simp; omega
                    clear hza
                    go_wp2_with fail
                    go_roundw
                    case rel => exact ⟨k + 1, a, true, by omega, by go_num, rfl, rfl, gF, fun _ => HREL.out⟩
                    case measure => simp [intOf]; omega
                · have hF1 : ((F : Int) != 0) = true := by simpa using hF
                  have HREL : Hid (t = true → ∃ (j : Nat) (h : j < Y.length), j < k + 1 ∧ TimeR m Y[j] (z, 0)) := Lib.hid fun e => by
                    obtain ⟨j, hj, hjk, hjt⟩ := HZ.out e
                    exact ⟨j, hj, by omega, hjt⟩
                  clear hF
                  go_wp2_with fail
                  go_roundw
                  case rel => exact ⟨k + 1, z, t, by omega, by go_num, rfl, rfl, gF, HREL.out⟩
                  case measure => simp [intOf]; omega
              · go_wp2_with fail
                refine (turns_any _).mono ?_
                rintro e w5 ⟨rfl, hb5⟩
                go_wp2_with fail
                go_ret
                exact ⟨rfl, hbw.trans (hb5.mono hbw.size)⟩
          · have hn := HNF.out hG
            obtain ⟨Y, G⟩ := r2
            simp only at hn hG r3
            subst hn
            have hG1 : ((G : Int) != 0) = true := by simpa using hG
            clear hG HTN HTT HNF
            go_wp2_with fail
            refine (turns_any _).mono ?_
            rintro e w5 ⟨rfl, hb5⟩
            go_wp2_with fail
            go_ret
            exact ⟨rfl, g3.trans (hb5.mono g3.size)⟩
        · obtain rfl : r2 = (l, 0) := HTN.out ((nearTo_end _ _ _ hke).1 (HNE.out.1 rfl))
          obtain ⟨Y, e2, -, hmo⟩ := HTT.out rfl
          obtain ⟨rfl, -⟩ := Prod.mk.injEq .. ▸ e2
          have HMO := Lib.hid hmo
          simp only at r3
          clear hmo e2 HTN HTT HNF
          go_wp2_with fail
          go_loopw [12, 13, 14] (fun la an i wr => TopIn m l w3 la an i wr) (fun _ _ i _ => l.length - (intOf i).toNat)
          case atStart => exact ⟨0, 0, false, Nat.zero_le _, rfl, rfl, rfl, Below.refl _ _, fun e => by cases e⟩
          case round =>
            obtain ⟨k, z, t, hk, rfl, rfl, rfl, hb, hz⟩ := hrel
            have HZ := Lib.hid hz
            clear hz
            have hbw := g3.trans (hb.mono g3.size)
            by_cases hkl : k < l.length
            · obtain ⟨ay, rfl, hay, cy⟩ := (r3.below hb).get k hkl
              obtain ⟨al2, hal2, had, cl⟩ := (h.below hbw).get k hkl
              obtain rfl : al = al2 := by injection hal2
              have HYK := Lib.hid (fun (j : Nat) hj => HMO.out k j hkl hj)
              have HYE : Hid (l[k]? = some l[k]) := Lib.hid (List.getElem?_eq_getElem hkl)
              have hk0 : (0 : Int) ≤ (k : Int) := by omega
              have hk1 : (k : Int) < (l.length : Int) := by omega
              have HYN := Lib.hid (show l[k] = l[k] from rfl)
              generalize hy : l[k] = y at *
              go_wp2_with fail
              refine (HT.out wr hbw y).mono ?_
              rintro e w4 ⟨⟨a, F, rfl, ha⟩, hb4⟩
              have g4 := hb.trans (hb4.mono hb.size)
              have gw4 := hbw.trans (hb4.mono hbw.size)
              have HAT := Lib.hid ha
              have HY := Lib.hid hy
              clear ha hy hb4
              have cl := (Below.cell gw4 (p := al.add k) (by rw [add_block]; omega)).trans ((Below.cell hbw (p := al.add k) (by rw [add_block]; omega)).symm.trans cl)
              go_wp2_with fail
              refine (HT.out w4 gw4 y).mono ?_
              rintro e w5 ⟨⟨u, G, rfl, hu⟩, hb5⟩
              have g5 := g4.trans (hb5.mono g4.size)
              have hug := TimeR.unique HAT.out hu
              injection hug with hu1 hu2
              subst hu1 hu2
              clear hu hb5 g4 gw4
              have gF := g5
              by_cases hF : F = 0
              · subst hF
                have HREL : Hid (∃ (j : Nat) (h : j < l.length), j < k + 1 ∧ TimeR m l[j] (a, 0)) := Lib.hid ⟨k, hkl, by omega, by rw [HY.out]; exact HAT.out⟩
                rcases t with _ | _
                · go_wp2_with fail
                  go_roundw
                  case rel => exact ⟨k + 1, a, true, by omega, by go_num, rfl, rfl, gF, fun _ => HREL.out⟩
                  case measure => simp [intOf]; omega
                · have hza : z ≤ a := by
                    obtain ⟨j, hj, hjk, hjt⟩ := HZ.out rfl
                    have q := HYK.out j (by omega)
                    exact TimeR.mono hjt HAT.out q
                  have t1 : decide (a < z) = false := by simp; omega
                  clear hza
                  go_wp2_with fail
                  go_roundw
                  case rel => exact ⟨k + 1, a, true, by omega, by go_num, rfl, rfl, gF, fun _ => HREL.out⟩
                  case measure => simp [intOf]; omega
              · have hF1 : ((F : Int) != 0) = true := by simpa using hF
                have HREL : Hid (t = true → ∃ (j : Nat) (h : j < l.length), j < k + 1 ∧ TimeR m l[j] (z, 0)) := Lib.hid fun e => by
                  obtain ⟨j, hj, hjk, hjt⟩ := HZ.out e
                  exact ⟨j, hj, by omega, hjt⟩
                clear hF
                go_wp2_with fail
                go_roundw
                case rel => exact ⟨k + 1, z, t, by omega, by go_num, rfl, rfl, gF, HREL.out⟩
                case measure => simp [intOf]; omega
            · go_wp2_with fail
              refine (turns_any _).mono ?_
              rintro e w5 ⟨rfl, hb5⟩
              go_wp2_with fail
              go_ret
              exact ⟨rfl, hbw.trans (hb5.mono hbw.size)⟩
  · have hn := turned_fault stepR l b hf
    generalize turned stepR l b = r at *
    obtain ⟨L, F⟩ := r
    simp only at hn hf
    subst hn
    have hf1 : ((F : Int) != 0) = true := by simpa using hf
    have C1 := Lib.hid c1
    have HF := Lib.hid hf
    clear c1 hf hM h
    go_enter Try.func18, Try.ntmps18
    go_wp2_with fail
    refine C1.out.mono ?_
    rintro e w1 ⟨v1, rfl, ho1, hb1⟩
    obtain ⟨A1, k1, rfl, r1⟩ := ho1.form
    go_wp2_with fail
    refine (turns_any _).mono ?_
    rintro e w5 ⟨rfl, hb5⟩
    go_wp2_with fail
    go_ret
    exact ⟨rfl, hb1.trans (hb5.mono hb1.size)⟩

set_option maxHeartbeats 1600000 in
set_option maxRecDepth 100000 in
theorem top_lifted (os : Os) (started : os.Started) (H : Type) (enc : TypeId × Value → H) :
    ReturnsInHanded {} Try.checked os 18 .any (Rows.topReadingsHaveTimesSpec.pre6 enc Try.prog Try.f18 Rows.topReadingsHaveTimesRow.domain false) (Rows.topReadingsHaveTimesSpec.post enc Try.prog Try.f18 false true false false) := by
  refine returnsInHanded_of_change (C := Try.checked) own started (by kernel_rfl) Try.func18
    (ChangeSpec.witness6 (enc := enc) (C := Try.checked) false ⟨#[], #[.slice none 0 0, .slice none 0 0, .int .i64 0], []⟩ 8 (by kernel_rfl) (by kernel_rfl) (by kernel_rfl) (by kernel_rfl)) ?_
  intro W base args ds gs before hval0 hW _ _
  have hval : ∀ (j : Nat) t v, Try.f18.params[j]? = some t → args[j]? = some v → Value.okWide Try.prog W .any base t v := hval0
  have hW' := hW
  have hlt := fun x hx => hW'.lt x hx
  obtain ⟨p, q, hA0, hV, rfl, _, _⟩ := hW
  have hA : DataW.TrodAll enc Try.prog W 0 (fun _ => true) true Try.f18.params.toList args.toList ds p := hA0
  rw [Try.params18] at hA hval
  obtain ⟨v0, v1, v2, d0, d1, d2, p0, p1, p2, rfl, rfl, rfl, h0, h1, h2⟩ := trodAll_three hA
  obtain ⟨rfl, rfl⟩ := trodVars_none hV
  obtain ⟨Am', lenm, capm, rfl⟩ := okWide_slice Try.underlying31 (hval 0 31 v0 rfl rfl)
  obtain ⟨nm, hnm⟩ := h0
  obtain ⟨Am, cm, m, hvm, hlcm, hcm, hBm, hIm⟩ := open_marks (fun x hx => hlt x (by simp [hx])) hnm
  obtain ⟨Al', lenl, capl, rfl⟩ := okWide_slice Try.underlying22 (hval 1 22 v1 rfl rfl)
  obtain ⟨nl, hnl⟩ := h1
  obtain ⟨Al, cl, l, hvl, hlcl, hcl, hBl, hIl⟩ := open_is (fun x hx => hlt x (by simp [hx])) hnl
  obtain ⟨b, rfl, rfl, rfl, wfb⟩ := open_int Try.underlying3 (hval 2 3 v2 rfl rfl) h2
  have hbb := bounds_i64 wfb
  rw [hvm] at hW' ⊢
  rw [hvl] at hW' ⊢
  refine (lawTop_any Am Al cm cl m l b W (by unfold maxLen at hcm; omega) (by unfold maxLen at hcl; omega) hBm hBl).mono fun e W' ⟨he, hb⟩ => ?_
  subst he
  exact ⟨_, rfl, law_post (by decide +kernel) rfl rfl hW' rfl hb⟩

set_option maxRecDepth 100000 in
theorem top_closed : joinedFacts Try.prog 18 Try.f18 Rows.topReadingsHaveTimesSpec Rows.topReadingsHaveTimesRow = true :=
  closed_all (by as_aux_lemma => kernel_rfl) (by as_aux_lemma => kernel_rfl) (by as_aux_lemma => kernel_rfl) (by as_aux_lemma => kernel_rfl) (by as_aux_lemma => kernel_rfl) (by as_aux_lemma => kernel_rfl) (by as_aux_lemma => kernel_rfl) (by as_aux_lemma => kernel_rfl) (by as_aux_lemma => kernel_rfl) (by as_aux_lemma => kernel_rfl) (by as_aux_lemma => kernel_rfl) (by as_aux_lemma => kernel_rfl) (by as_aux_lemma => kernel_rfl) (by as_aux_lemma => kernel_rfl) (by as_aux_lemma => kernel_rfl) (by as_aux_lemma => kernel_rfl) (by as_aux_lemma => kernel_rfl) (by as_aux_lemma => kernel_rfl) pKeys (by as_aux_lemma => kernel_rfl) pLifts pMake (by as_aux_lemma => kernel_rfl) (by as_aux_lemma => kernel_rfl) (by as_aux_lemma => kernel_rfl) (by as_aux_lemma => kernel_rfl)

theorem top_holds : Rows.TopReadingsHaveTimesSaid :=
  OpenClaim.holds_of_wide 18 Try.f18 rfl rfl rfl rfl rfl rfl rfl ⟨rfl, rfl, rfl, rfl, rfl⟩ rfl rfl rfl rfl rfl (by kernel_rfl) Try.func18 top_closed
    (of_decide_eq_true (by kernel_rfl)) (by unfold Func.isWrapper; first | (rw [if_pos (by decide +kernel)]; kernel_rfl) | (rw [if_neg (by decide +kernel)]; exact ⟨rfl, rfl⟩))
    (fun os started H enc _ => top_lifted os started H enc)
#print axioms top_holds
end Go.Proofs.Ythhgcnfkdlblnaa
