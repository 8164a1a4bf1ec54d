/- What is unrolled is rolled again: the law CountersComeBack answers true for every input. No condition. -/
import Derived.Test.YthhgcnfkdlblnaaAwake
import Derived.Test.YthhgcnfkdlblnaaClose
import Derived.Test.YthhgcnfkdlblnaaClosed
namespace Go.Proofs.Ythhgcnfkdlblnaa
open Go.ChangeShapes Go.WideShapes Go.ChangeAt Go.RowKit

set_option maxRecDepth 100000 in
set_option maxHeartbeats 1000000 in
theorem lawCome_any (A : Option Addr) (c : Nat) (l : List Int) (b : Int) (w : World) (hl : l.length ≤ 9223372036854775807) (h : IR w w.heap.size A l) :
    Calls Try.prog 4 #[.slice A l.length c, .int .i64 b] w fun e w' => e = .returned (.bool true) ∧ Below w.heap.size w w' := by
  have c1 := unrolled_any A c l b w hl h
  by_cases hf : (turned stepU l b).2 = 0
  · obtain ⟨L, e1, e2, hbd, ⟨hb4, hb40⟩, hLl, hl5, hst⟩ := comes_back l b hf
    rw [e1] at c1
    have C1 := Lib.hid c1
    have c3 := fun (A' : Option Addr) (c' : Nat) (w' : World) (hI : IR w' w'.heap.size A' L) => rolled_any A' c' L b w' (by omega) hI
    rw [e2] at c3
    have C3 := Lib.hid c3
    obtain ⟨hR1, hR2⟩ := roundOf_bd b hb4 hb40
    have hsh := wrap_round b hb4 hb40
    have HLL := Lib.hid hLl
    have hLle : L.length ≤ 5000 := by omega
    clear c1 c3 e1 e2 hf hLl
    generalize roundOf b = R at *
    go_enter Try.func4, Try.ntmps4
    go_wp2_with fail
    refine C1.out.mono ?_
    rintro e w1 ⟨v1, rfl, ho1, hb1⟩
    obtain ⟨A1, k1, rfl, r1⟩ := ho1.form
    go_wp2_with fail
    go_loopw [7] (fun i wr => ∃ k d : Nat, 1 ≤ k ∧ i = .int .i64 k ∧ wr = w1.drewN d) (fun i _ => L.length - (intOf i).toNat)
    case atStart => exact ⟨1, 0, by omega, rfl, rfl⟩
    case round =>
      obtain ⟨k, d, hk1, rfl, rfl⟩ := hrel
      by_cases hlt : k < L.length
      · obtain ⟨ad, rfl, -, hc⟩ := r1.get k hlt
        obtain ⟨ad', e', -, hc'⟩ := r1.get (k - 1) (by omega)
        obtain rfl : ad = ad' := by injection e'
        have hss := hst (k - 1) (by omega)
        have m1 := hbd _ (List.getElem_mem hlt)
        have m2 := hbd _ (List.getElem_mem (show k - 1 < L.length by omega))
        simp only [show k - 1 + 1 = k by omega] at hss
        obtain ⟨s1, s2⟩ := hss
        obtain ⟨m3, m4⟩ := m1
        obtain ⟨m5, m6⟩ := m2
        generalize L[k] = x at *
        generalize L[k - 1] = y at *
        have hk0 : (0 : Int) ≤ (k : Int) := by omega
        have hk2 : (k : Int) < (L.length : Int) := by omega
        have hk3 : (0 : Int) ≤ (k : Int) - 1 := by omega
        have hk4 : (k : Int) - 1 < (L.length : Int) := by omega
        have hk5 : ((k : Int) - 1).toNat = k - 1 := by omega
        have t1 : decide (x < y) = false := by simp; omega
        have t2 : decide (R ≤ x - y) = false := by simp; omega
        clear hst hbd e'
        go_wp2_with fail
        go_quiet (fail)
        go_wp2_with fail
        go_roundw
        case rel => exact ⟨k + 1, d + nq, by omega, by go_num, rfl⟩
        case measure => simp [intOf]; omega
      · clear hst hbd
        go_wp2_with fail
        refine (C3.out A1 k1 (w1.drewN d) (r1.below (below_draws (Below.refl _ _) d))).mono ?_
        rintro e w3 ⟨v3, rfl, ho3, hb3⟩
        have g3 : Below w.heap.size w w3 := (below_draws hb1 d).trans (hb3.mono hb1.size)
        obtain ⟨A3, k3, rfl, r3⟩ := ho3.form
        have Q1 := Lib.hid (equalI_yes A3 A k3 c l w3.heap.size w3 hl r3 ((h.below g3).lift g3.size))
        clear r3 ho3 hb3
        go_wp2_with fail
        refine Q1.out.mono ?_
        rintro e w4 ⟨rfl, hb4'⟩
        go_wp2_with fail
        refine (awake_any _).mono ?_
        rintro e w5 ⟨rfl, hb5⟩
        go_wp2_with fail
        go_ret
        have g4 := g3.trans (hb4'.mono g3.size)
        exact ⟨rfl, g4.trans (hb5.mono g4.size)⟩
  · have hn := turned_fault stepU l b hf
    generalize turned stepU l b = r at *
    obtain ⟨L, F⟩ := r
    simp only at hn hf
    subst hn
    have hf1 : ((F : Int) != 0) = true := by simpa using hf
    have C1 := Lib.hid c1
    have HF := Lib.hid hf
    clear c1 hf
    go_enter Try.func4, Try.ntmps4
    go_wp2_with fail
    refine C1.out.mono ?_
    rintro e w1 ⟨v1, rfl, ho1, hb1⟩
    obtain ⟨A1, k1, rfl, r1⟩ := ho1.form
    go_wp2_with fail
    refine (awake_any _).mono ?_
    rintro e w5 ⟨rfl, hb5⟩
    go_wp2_with fail
    go_ret
    exact ⟨rfl, hb1.trans (hb5.mono hb1.size)⟩

set_option maxHeartbeats 1600000 in
set_option maxRecDepth 100000 in
theorem come_lifted (os : Os) (started : os.Started) (H : Type) (enc : TypeId × Value → H) :
    ReturnsInHanded {} Try.checked os 4 .any (Rows.countersComeBackSpec.pre6 enc Try.prog Try.f4 Rows.countersComeBackRow.domain false) (Rows.countersComeBackSpec.post enc Try.prog Try.f4 false true false false) := by
  refine returnsInHanded_of_change (C := Try.checked) own started (by kernel_rfl) Try.func4
    (ChangeSpec.witness6 (enc := enc) (C := Try.checked) false ⟨#[], #[.slice none 0 0, .int .i64 0], []⟩ 8 (by kernel_rfl) (by kernel_rfl) (by kernel_rfl) (by kernel_rfl)) ?_
  intro W base args ds gs before hval0 hW _ _
  have hval : ∀ (j : Nat) t v, Try.f4.params[j]? = some t → args[j]? = some v → Value.okWide Try.prog W .any base t v := hval0
  have hW' := hW
  have hlt := fun x hx => hW'.lt x hx
  obtain ⟨p, q, hA0, hV, rfl, _, _⟩ := hW
  have hA : DataW.TrodAll enc Try.prog W 0 (fun _ => true) true Try.f4.params.toList args.toList ds p := hA0
  rw [Try.params4] at hA hval
  obtain ⟨v0, v1, d0, d1, p0, p1, rfl, rfl, rfl, h0, h1⟩ := trodAll_two hA
  obtain ⟨rfl, rfl⟩ := trodVars_none hV
  obtain ⟨Al', lenl, capl, rfl⟩ := okWide_slice Try.underlying22 (hval 0 22 v0 rfl rfl)
  obtain ⟨nl, hnl⟩ := h0
  obtain ⟨Al, cl, l, hvl, hlcl, hcl, hBl, hIl⟩ := open_is (fun x hx => hlt x (by simp [hx])) hnl
  obtain ⟨b, rfl, rfl, rfl, wfb⟩ := open_int Try.underlying3 (hval 1 3 v1 rfl rfl) h1
  have hbb := bounds_i64 wfb
  rw [hvl] at hW' ⊢
  refine (lawCome_any Al cl l b W (by unfold maxLen at hcl; omega) hBl).mono fun e W' ⟨he, hb⟩ => ?_
  subst he
  exact ⟨_, rfl, law_post (by decide +kernel) rfl rfl hW' rfl hb⟩

set_option maxRecDepth 100000 in
theorem come_closed : joinedFacts Try.prog 4 Try.f4 Rows.countersComeBackSpec Rows.countersComeBackRow = true :=
  closed_all (by as_aux_lemma => kernel_rfl) (by as_aux_lemma => kernel_rfl) (by as_aux_lemma => kernel_rfl) (by as_aux_lemma => kernel_rfl) (by as_aux_lemma => kernel_rfl) (by as_aux_lemma => kernel_rfl) (by as_aux_lemma => kernel_rfl) (by as_aux_lemma => kernel_rfl) (by as_aux_lemma => kernel_rfl) (by as_aux_lemma => kernel_rfl) (by as_aux_lemma => kernel_rfl) (by as_aux_lemma => kernel_rfl) (by as_aux_lemma => kernel_rfl) (by as_aux_lemma => kernel_rfl) (by as_aux_lemma => kernel_rfl) (by as_aux_lemma => kernel_rfl) (by as_aux_lemma => kernel_rfl) (by as_aux_lemma => kernel_rfl) pKeys (by as_aux_lemma => kernel_rfl) pLifts pMake (by as_aux_lemma => kernel_rfl) (by as_aux_lemma => kernel_rfl) (by as_aux_lemma => kernel_rfl) (by as_aux_lemma => kernel_rfl)

theorem come_holds : Rows.CountersComeBackSaid :=
  OpenClaim.holds_of_wide 4 Try.f4 rfl rfl rfl rfl rfl rfl rfl ⟨rfl, rfl, rfl, rfl, rfl⟩ rfl rfl rfl rfl rfl (by kernel_rfl) Try.func4 come_closed
    (of_decide_eq_true (by kernel_rfl)) (by unfold Func.isWrapper; first | (rw [if_pos (by decide +kernel)]; kernel_rfl) | (rw [if_neg (by decide +kernel)]; exact ⟨rfl, rfl⟩))
    (fun os started H enc _ => come_lifted os started H enc)
#print axioms come_holds
end Go.Proofs.Ythhgcnfkdlblnaa
