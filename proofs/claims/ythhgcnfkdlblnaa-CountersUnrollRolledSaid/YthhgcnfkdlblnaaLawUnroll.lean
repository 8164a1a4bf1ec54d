/- Ticks that are rolled come back, less a multiple of the round: the law CountersUnrollRolled answers true for every input. No condition. -/
import Derived.Test.YthhgcnfkdlblnaaAwake
import Derived.Test.YthhgcnfkdlblnaaClose
import Derived.Test.YthhgcnfkdlblnaaClosed
namespace Go.Proofs.Ythhgcnfkdlblnaa
open Go.ChangeShapes Go.WideShapes Go.ChangeAt Go.RowKit

/-- the first loop has found no two ticks a round apart up to k -/
def NearTo (R : Int) (l : List Int) (k : Nat) : Prop := ∀ (i : Nat) (h : i + 1 < l.length), i + 1 < k → l[i + 1] - l[i] < R
set_option maxRecDepth 100000 in
set_option maxHeartbeats 2000000 in
theorem lawUnroll_any (A : Option Addr) (c : Nat) (l : List Int) (b : Int) (w : World) (hl : l.length ≤ 9223372036854775807) (h : IR w w.heap.size A l) :
    Calls Try.prog 5 #[.slice A l.length c, .int .i64 b] w fun e w' => e = .returned (.bool true) ∧ Below w.heap.size w w' := by
  have c1 := rolled_any A c l b w hl h
  by_cases hf : (turned stepR l b).2 = 0
  · obtain ⟨e1, ⟨hb4, hb40⟩, hl5, hbd, hD⟩ := unrolls l b hf
    rw [e1] at c1
    obtain ⟨X, hX⟩ : ∃ X, X = l.map (· % roundOf b) := ⟨_, rfl⟩
    have hXl : X.length = l.length := by rw [hX]; simp
    rw [← hX] at c1 hD
    have C1 := Lib.hid c1
    have c3 := fun (A' : Option Addr) (c' : Nat) (w' : World) (hI : IR w' w'.heap.size A' X) => unrolled_any A' c' X b w' (by omega) hI
    have C3 := Lib.hid c3
    obtain ⟨hR1, hR2⟩ := roundOf_bd b hb4 hb40
    have hsh := wrap_round b hb4 hb40
    have HD := Lib.hid hD
    have HBD := Lib.hid hbd
    clear c1 c3 e1 hf hD hbd
    clear hX
    generalize roundOf b = R at *
    have HXL := Lib.hid hXl
    clear hXl
    go_enter Try.func5, Try.ntmps5
    go_wp2_with fail
    refine C1.out.mono ?_
    rintro e w1 ⟨v1, rfl, ho1, hb1⟩
    obtain ⟨A1, k1, rfl, r1⟩ := ho1.form
    go_wp2_with fail
    go_loopw [7] (fun i wr => ∃ k d : Nat, 1 ≤ k ∧ i = .int .i64 k ∧ wr = w1.drewN d ∧ NearTo R l k) (fun i _ => l.length - (intOf i).toNat)
    case atStart => exact ⟨1, 0, by omega, rfl, rfl, fun i h h' => by omega⟩
    case round =>
      obtain ⟨k, d, hk1, rfl, rfl, hn⟩ := hrel
      have HN := Lib.hid hn
      clear hn
      by_cases hlt : k < l.length
      · have hw1 := h.below hb1
        obtain ⟨ad, rfl, -, hc⟩ := hw1.get k hlt
        obtain ⟨ad', e', -, hc'⟩ := hw1.get (k - 1) (by omega)
        obtain rfl : ad = ad' := by injection e'
        have m1 := HBD.out _ (List.getElem_mem hlt)
        have m2 := HBD.out _ (List.getElem_mem (show k - 1 < l.length by omega))
        have HNN : Hid (l[k] - l[k - 1] < R → NearTo R l (k + 1)) := fun hd i hi hik => by
          rcases Nat.lt_or_ge (i + 1) k with q | q
          · exact HN.out i hi q
          · obtain rfl : k = i + 1 := by omega
            simpa using hd
        obtain ⟨m3, m4⟩ := m1
        obtain ⟨m5, m6⟩ := m2
        generalize l[k] = x at *
        generalize l[k - 1] = y at *
        have hk0 : (0 : Int) ≤ (k : Int) := by omega
        have hk2 : (k : Int) < (l.length : Int) := by omega
        have hk3 : (0 : Int) ≤ (k : Int) - 1 := by omega
        have hk4 : (k : Int) - 1 < (l.length : Int) := by omega
        have hk5 : ((k : Int) - 1).toNat = k - 1 := by omega
        by_cases hd : R ≤ x - y
        · have t2 : decide (R ≤ x - y) = true := by simpa using hd
          clear e' hd
          go_wp2_with fail
          go_quiet (fail)
          go_wp2_with fail
          refine (awake_any _).mono ?_
          rintro e w5 ⟨rfl, hb5⟩
          go_wp2_with fail
          go_ret
          exact ⟨rfl, (below_draws hb1 _).trans (hb5.mono (below_draws hb1 _).size)⟩
        · have t2 : decide (R ≤ x - y) = false := by simpa using hd
          have HHD := Lib.hid (show x - y < R by omega)
          clear e' hd
          go_wp2_with fail
          go_quiet (fail)
          go_wp2_with fail
          go_roundw
          case rel => exact ⟨k + 1, d + nq, by omega, by go_num, rfl, HNN.out HHD.out⟩
          case measure => simp [intOf]; omega
      · obtain ⟨D, hDm, hD0, hD1, hDe⟩ := HD.out fun i hi => HN.out i hi (by omega)
        have C4 : Hid (∀ (A' : Option Addr) (c' : Nat) (w' : World), IR w' w'.heap.size A' X → Calls Try.prog 19 #[.slice A' X.length c', .int .i64 b] w' (TurnPost (l.map (· - D), 0) w')) := by
          intro A' c' w' hI
          have := C3.out A' c' w' hI
          rw [hDe] at this
          exact this
        have HDM := Lib.hid hDm
        obtain ⟨Y, hY⟩ : ∃ Y, Y = l.map (· - D) := ⟨_, rfl⟩
        have hYl : Y.length = l.length := by rw [hY]; simp
        have hYg : ∀ (k : Nat) (hk : k < Y.length) (hk' : k < l.length), Y[k] = l[k] - D := fun k hk hk' => by subst hY; simp
        rw [← hY] at C4
        have HYL := Lib.hid hYl
        have HYG := Lib.hid hYg
        have hXle : X.length ≤ 5000 := by rw [HXL.out]; omega
        have hYle : Y.length ≤ 5000 := by omega
        clear hDm hDe hYl hYg C3 hY
        go_wp2_with fail
        refine (C4.out A1 k1 (w1.drewN d) (r1.below (below_draws (Below.refl _ _) d))).mono ?_
        rintro e w3 ⟨v3, rfl, ho3, hb3⟩
        have g3 : Below w.heap.size w w3 := (below_draws hb1 d).trans (hb3.mono hb1.size)
        obtain ⟨A3, k3, rfl, r3⟩ := ho3.form
        have hne : ((Y.length : Int) != (l.length : Int)) = false := by rw [HYL.out]; simp
        have hle1 : Y.length ≤ l.length := by rw [HYL.out]; omega
        have hle2 : l.length ≤ Y.length := by rw [HYL.out]; omega
        clear hb3 ho3
        go_wp2_with fail
        go_loopw [9] (fun i wr => ∃ k d : Nat, i = .int .i64 k ∧ wr = w3.drewN d) (fun i _ => l.length - (intOf i).toNat)
        case atStart => exact ⟨0, 0, rfl, rfl⟩
        case round =>
          obtain ⟨k, d', rfl, rfl⟩ := hrel
          by_cases hlt : k < Y.length
          · have hw3 := h.below g3
            obtain ⟨ad, rfl, -, hc⟩ := hw3.get k (by omega)
            obtain ⟨ad', e', -, hc'⟩ := hw3.get 0 (by omega)
            obtain rfl : ad = ad' := by injection e'
            obtain ⟨au, rfl, -, hu⟩ := r3.get k (by omega)
            obtain ⟨au', e'', -, hu'⟩ := r3.get 0 (by omega)
            obtain rfl : au = au' := by injection e''
            rw [addr_zero] at hc' hu'
            rw [HYG.out k (by omega) (by omega)] at hu
            rw [HYG.out 0 (by omega) (by omega)] at hu'
            obtain ⟨m3, m4⟩ := HBD.out _ (List.getElem_mem (show k < l.length by omega))
            obtain ⟨m5, m6⟩ := HBD.out _ (List.getElem_mem (show 0 < l.length by omega))
            have hk1 : k < l.length := by omega
            generalize l[k] = x at *
            generalize l[0] = y at *
            have hk0 : (0 : Int) ≤ (k : Int) := by omega
            have hk2 : (k : Int) < (l.length : Int) := by omega
            have hk3 : (k : Int) < (Y.length : Int) := by omega
            have hp1 : (0 : Int) < (Y.length : Int) := by omega
            have hp2 : (0 : Int) < (l.length : Int) := by omega
            have hp3 : 0 < Y.length := by omega
            have hp4 : 0 < l.length := by omega
            have t1 : ((x - (x - D)) != (y - (y - D))) = false := by simp; omega
            have t2 : (((y - (y - D)) % R) != 0) = false := by rw [show y - (y - D) = D by omega, HDM.out]; rfl
            have b1 : 0 ≤ x - (x - D) ∧ x - (x - D) ≤ 1000000000000 := by omega
            have b2 : 0 ≤ y - (y - D) ∧ y - (y - D) ≤ 1000000000000 := by omega
            obtain ⟨b11, b12⟩ := b1
            obtain ⟨b21, b22⟩ := b2
            generalize x - D = p at *
            generalize y - D = q at *
            clear e' e''
            go_wp2_with fail
            go_quiet (fail)
            go_wp2_with fail
            go_roundw
            case rel => exact ⟨k + 1, d' + nq, by go_num, rfl⟩
            case measure => simp [intOf]; omega
          · go_wp2_with fail
            refine (awake_any _).mono ?_
            rintro e w5 ⟨rfl, hb5⟩
            go_wp2_with fail
            go_ret
            exact ⟨rfl, (below_draws g3 _).trans (hb5.mono (below_draws g3 _).size)⟩
  · have hn := turned_fault stepR l b hf
    generalize turned stepR l b = r at *
    obtain ⟨L, F⟩ := r
    simp only at hn hf
    subst hn
    have hf1 : ((F : Int) != 0) = true := by simpa using hf
    have C1 := Lib.hid c1
    have HF := Lib.hid hf
    clear c1 hf
    go_enter Try.func5, Try.ntmps5
    go_wp2_with fail
    refine C1.out.mono ?_
    rintro e w1 ⟨v1, rfl, ho1, hb1⟩
    obtain ⟨A1, k1, rfl, r1⟩ := ho1.form
    go_wp2_with fail
    refine (awake_any _).mono ?_
    rintro e w5 ⟨rfl, hb5⟩
    go_wp2_with fail
    go_ret
    exact ⟨rfl, hb1.trans (hb5.mono hb1.size)⟩

set_option maxHeartbeats 1600000 in
set_option maxRecDepth 100000 in
theorem unroll_lifted (os : Os) (started : os.Started) (H : Type) (enc : TypeId × Value → H) :
    ReturnsInHanded {} Try.checked os 5 .any (Rows.countersUnrollRolledSpec.pre6 enc Try.prog Try.f5 Rows.countersUnrollRolledRow.domain false) (Rows.countersUnrollRolledSpec.post enc Try.prog Try.f5 false true false false) := by
  refine returnsInHanded_of_change (C := Try.checked) own started (by kernel_rfl) Try.func5
    (ChangeSpec.witness6 (enc := enc) (C := Try.checked) false ⟨#[], #[.slice none 0 0, .int .i64 0], []⟩ 8 (by kernel_rfl) (by kernel_rfl) (by kernel_rfl) (by kernel_rfl)) ?_
  intro W base args ds gs before hval0 hW _ _
  have hval : ∀ (j : Nat) t v, Try.f5.params[j]? = some t → args[j]? = some v → Value.okWide Try.prog W .any base t v := hval0
  have hW' := hW
  have hlt := fun x hx => hW'.lt x hx
  obtain ⟨p, q, hA0, hV, rfl, _, _⟩ := hW
  have hA : DataW.TrodAll enc Try.prog W 0 (fun _ => true) true Try.f5.params.toList args.toList ds p := hA0
  rw [Try.params5] at hA hval
  obtain ⟨v0, v1, d0, d1, p0, p1, rfl, rfl, rfl, h0, h1⟩ := trodAll_two hA
  obtain ⟨rfl, rfl⟩ := trodVars_none hV
  obtain ⟨Al', lenl, capl, rfl⟩ := okWide_slice Try.underlying22 (hval 0 22 v0 rfl rfl)
  obtain ⟨nl, hnl⟩ := h0
  obtain ⟨Al, cl, l, hvl, hlcl, hcl, hBl, hIl⟩ := open_is (fun x hx => hlt x (by simp [hx])) hnl
  obtain ⟨b, rfl, rfl, rfl, wfb⟩ := open_int Try.underlying3 (hval 1 3 v1 rfl rfl) h1
  have hbb := bounds_i64 wfb
  rw [hvl] at hW' ⊢
  refine (lawUnroll_any Al cl l b W (by unfold maxLen at hcl; omega) hBl).mono fun e W' ⟨he, hb⟩ => ?_
  subst he
  exact ⟨_, rfl, law_post (by decide +kernel) rfl rfl hW' rfl hb⟩

set_option maxRecDepth 100000 in
theorem unroll_closed : joinedFacts Try.prog 5 Try.f5 Rows.countersUnrollRolledSpec Rows.countersUnrollRolledRow = true :=
  closed_all (by as_aux_lemma => kernel_rfl) (by as_aux_lemma => kernel_rfl) (by as_aux_lemma => kernel_rfl) (by as_aux_lemma => kernel_rfl) (by as_aux_lemma => kernel_rfl) (by as_aux_lemma => kernel_rfl) (by as_aux_lemma => kernel_rfl) (by as_aux_lemma => kernel_rfl) (by as_aux_lemma => kernel_rfl) (by as_aux_lemma => kernel_rfl) (by as_aux_lemma => kernel_rfl) (by as_aux_lemma => kernel_rfl) (by as_aux_lemma => kernel_rfl) (by as_aux_lemma => kernel_rfl) (by as_aux_lemma => kernel_rfl) (by as_aux_lemma => kernel_rfl) (by as_aux_lemma => kernel_rfl) (by as_aux_lemma => kernel_rfl) pKeys (by as_aux_lemma => kernel_rfl) pLifts pMake (by as_aux_lemma => kernel_rfl) (by as_aux_lemma => kernel_rfl) (by as_aux_lemma => kernel_rfl) (by as_aux_lemma => kernel_rfl)

theorem unroll_holds : Rows.CountersUnrollRolledSaid :=
  OpenClaim.holds_of_wide 5 Try.f5 rfl rfl rfl rfl rfl rfl rfl ⟨rfl, rfl, rfl, rfl, rfl⟩ rfl rfl rfl rfl rfl (by kernel_rfl) Try.func5 unroll_closed
    (of_decide_eq_true (by kernel_rfl)) (by unfold Func.isWrapper; first | (rw [if_pos (by decide +kernel)]; kernel_rfl) | (rw [if_neg (by decide +kernel)]; exact ⟨rfl, rfl⟩))
    (fun os started H enc _ => unroll_lifted os started H enc)
#print axioms unroll_holds
end Go.Proofs.Ythhgcnfkdlblnaa
