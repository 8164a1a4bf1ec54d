/- By more marks a window is not wider: the law ClocksWindowsShrink answers true for every input. No condition. -/
import Derived.Test.YthhgcnfkdlblnaaClash
import Derived.Test.YthhgcnfkdlblnaaClockMath2
import Derived.Test.YthhgcnfkdlblnaaAwake
import Derived.Test.YthhgcnfkdlblnaaCloseM
import Derived.Test.YthhgcnfkdlblnaaClosed
namespace Go.Proofs.Ythhgcnfkdlblnaa
open Go.ChangeShapes Go.WideShapes Go.ChangeAt Go.RowKit

theorem mcells_app (a b : List Mk) : mcells (a ++ b) = mcells a ++ mcells b := by unfold mcells; rw [List.flatMap_append]
theorem MR.take {w : World} {B : Nat} {A : Option Addr} {l : List Mk} (h : MR w B A l) (k : Nat) : MR w B A (l.take k) := by
  have e : mcells l = mcells (l.take k) ++ mcells (l.drop k) := by rw [← mcells_app, List.take_append_drop]
  rcases h with h | ⟨ad, ha, hb, hc⟩
  · refine .inl ?_
    rw [e] at h
    exact (List.append_eq_nil_iff.1 h).1
  · refine .inr ⟨ad, ha, hb, fun j u hu => hc j u ?_⟩
    rw [e, List.getElem?_append_left ((List.getElem?_eq_some_iff.1 hu).1)]
    exact hu

set_option maxRecDepth 100000 in
set_option maxHeartbeats 2000000 in
theorem lawShrink_any (s f : Int) (A : Option Addr) (c : Nat) (l : List Mk) (t n : Int) (w : World) (hcap : l.length ≤ c) (hcm : c ≤ 9223372036854775807) (hA : MR w w.heap.size A l) :
    Calls Try.prog 11 #[cv s f, .slice A l.length c, .int .i64 t, .int .i64 n] w fun e w' => e = .returned (.bool true) ∧ Below w.heap.size w w' := by
  have b0 := boxed_below s f w
  have b1 : Below (w.heap.size + 1) (boxed s f w) (boxed s f w) := Below.refl _ _
  obtain ⟨fa, fb⟩ := boxed_cells b1
  have bsz := boxed_size s f w
  by_cases hn : n < 1 ∨ (l.length : Int) < n
  · unfold cv
    by_cases hn1 : n < 1
    · clear hn hA fa fb
      go_enter Try.func11, Try.ntmps11
      go_wp2_with fail
      refine (awake_any _).mono ?_
      rintro e w1 ⟨rfl, hb1⟩
      go_wp2_with fail
      go_ret
      exact ⟨rfl, boxed_trans hb1⟩
    · have hn2 : (l.length : Int) < n := by omega
      clear hn hA fa fb
      go_enter Try.func11, Try.ntmps11
      go_wp2_with fail
      refine (awake_any _).mono ?_
      rintro e w1 ⟨rfl, hb1⟩
      go_wp2_with fail
      go_ret
      exact ⟨rfl, boxed_trans hb1⟩
  · obtain ⟨k, rfl⟩ : ∃ k : Nat, n = k := ⟨n.toNat, by omega⟩
    have hk : k ≤ l.length := by omega
    have hk1 : 1 ≤ k := by omega
    have c1 := fun (w' : World) (hb : Below w.heap.size w w') => window_any s f A c (l.take k) t w' (by rw [List.length_take]; omega) (((hA.take k).below hb).lift hb.size)
    have c2 := fun (w' : World) (hb : Below w.heap.size w w') => window_any s f A c l t w' (by omega) ((hA.below hb).lift hb.size)
    rw [List.length_take, Nat.min_eq_left hk] at c1
    have h1 := fun h => windowS_no (s := s) (f := f) (n := t) (l := l.take k) h
    have h2 := fun h h' => shrink (s := s) (f := f) (n := t) (l := l) (k := k) h h'
    generalize windowS s f (l.take k) t = r1 at *
    generalize windowS s f l t = r2 at *
    obtain ⟨a, b, F⟩ := r1
    obtain ⟨x, y, G⟩ := r2
    simp only at h1 h2
    unfold WinPost at c1 c2
    simp only at c1 c2
    unfold cv at *
    have C1 := Lib.hid c1
    have C2 := Lib.hid c2
    clear c1 c2 hA hn
    have hkc : k ≤ c := by omega
    have hk0 : (0 : Int) ≤ (k : Int) := by omega
    have hkci : (k : Int) ≤ (c : Int) := by omega
    generalize hW0 : boxed s f w = W0 at *
    have hW1 : w.alloc (.cells #[.int .i64 s, .int .i64 f] 45) = W0 := hW0
    have HB0 := Lib.hid b0
    clear b1 hW0
    have C1 := Lib.hid (fun (w' : World) (hb : Below (w.heap.size + 1) W0 w') (hz : w.heap.size + 1 ≤ w'.heap.size) => carryB (C1.out w' (HB0.out.trans (hb.mono (by omega)))) hb hz)
    by_cases hF : F = 0
    · subst hF
      clear h1
      by_cases hG : G = 0
      · subst hG
        obtain ⟨p1, p2, p3⟩ := h2 rfl rfl
        have t1 : decide (a ≤ x) = true := by simpa using p1
        have t2 : decide (y ≤ b) = true := by simpa using p2
        have t3 : decide (x ≤ y) = true := by simpa using p3
        clear h2
        go_enter Try.func11, Try.ntmps11
        go_wp2_with fail
        go_region_held3 (fun w' => w'.cell? ⟨w.heap.size, 0, none⟩ = some (.int .i64 s) ∧ w'.cell? ⟨w.heap.size, 1, none⟩ = some (.int .i64 f))
          (first | go_keep | exact ⟨(Below.at_ (a := W0) (by assumption) w.heap.size (by omega) _).trans fa, (Below.at_ (a := W0) (by assumption) w.heap.size (by omega) _).trans fb⟩)
          (first
           | (go_at_call 33
              refine (C1.out _ ?_ ?_).mono ?_
              · first | assumption | exact (Below.refl _ _).drew | exact Below.drew (by assumption)
              · first | assumption | (simp; omega)
              rintro e w3 ⟨rfl, hb3, hs3⟩))
        have hb4 : Below w.heap.size w w3 := HB0.out.trans (hb3.mono (by omega))
        have fa := (Below.at_ hb3 w.heap.size (by omega) 0).trans fa
        have fb := (Below.at_ hb3 w.heap.size (by omega) 1).trans fb
        clear hb3 hs3
        go_wp2_with fail
        refine (C2.out w3 hb4).mono ?_
        rintro e w2 ⟨rfl, hb2⟩
        have g2 := hb4.trans (hb2.mono hb4.size)
        go_wp2_with fail
        refine (awake_any _).mono ?_
        rintro e w5 ⟨rfl, hb5⟩
        go_wp2_with fail
        go_ret
        exact ⟨rfl, g2.trans (hb5.mono g2.size)⟩
      · have hG1 : ((G : Int) != 0) = true := by simpa using hG
        clear h2
        go_enter Try.func11, Try.ntmps11
        go_wp2_with fail
        go_region_held3 (fun w' => w'.cell? ⟨w.heap.size, 0, none⟩ = some (.int .i64 s) ∧ w'.cell? ⟨w.heap.size, 1, none⟩ = some (.int .i64 f))
          (first | go_keep | exact ⟨(Below.at_ (a := W0) (by assumption) w.heap.size (by omega) _).trans fa, (Below.at_ (a := W0) (by assumption) w.heap.size (by omega) _).trans fb⟩)
          (first
           | (go_at_call 33
              refine (C1.out _ ?_ ?_).mono ?_
              · first | assumption | exact (Below.refl _ _).drew | exact Below.drew (by assumption)
              · first | assumption | (simp; omega)
              rintro e w3 ⟨rfl, hb3, hs3⟩))
        have hb4 : Below w.heap.size w w3 := HB0.out.trans (hb3.mono (by omega))
        have fa := (Below.at_ hb3 w.heap.size (by omega) 0).trans fa
        have fb := (Below.at_ hb3 w.heap.size (by omega) 1).trans fb
        clear hb3 hs3
        go_wp2_with fail
        refine (C2.out w3 hb4).mono ?_
        rintro e w2 ⟨rfl, hb2⟩
        have g2 := hb4.trans (hb2.mono hb4.size)
        go_wp2_with fail
        refine (awake_any _).mono ?_
        rintro e w5 ⟨rfl, hb5⟩
        go_wp2_with fail
        go_ret
        exact ⟨rfl, g2.trans (hb5.mono g2.size)⟩
    · obtain ⟨rfl, rfl⟩ := h1 hF
      have hF1 : ((F : Int) != 0) = true := by simpa using hF
      have hF2 : ((F : Int) == 0) = false := by simpa using hF
      clear h1 h2
      go_enter Try.func11, Try.ntmps11
      go_wp2_with fail
      go_region_held3 (fun w' => w'.cell? ⟨w.heap.size, 0, none⟩ = some (.int .i64 s) ∧ w'.cell? ⟨w.heap.size, 1, none⟩ = some (.int .i64 f))
        (first | go_keep | exact ⟨(Below.at_ (a := W0) (by assumption) w.heap.size (by omega) _).trans fa, (Below.at_ (a := W0) (by assumption) w.heap.size (by omega) _).trans fb⟩)
        (first
         | (go_at_call 33
            refine (C1.out _ ?_ ?_).mono ?_
            · first | assumption | exact (Below.refl _ _).drew | exact Below.drew (by assumption)
            · first | assumption | (simp; omega)
            rintro e w3 ⟨rfl, hb3, hs3⟩))
      have hb4 : Below w.heap.size w w3 := HB0.out.trans (hb3.mono (by omega))
      have fa := (Below.at_ hb3 w.heap.size (by omega) 0).trans fa
      have fb := (Below.at_ hb3 w.heap.size (by omega) 1).trans fb
      clear hb3 hs3
      go_wp2_with fail
      refine (C2.out w3 hb4).mono ?_
      rintro e w2 ⟨rfl, hb2⟩
      have g2 := hb4.trans (hb2.mono hb4.size)
      go_wp2_with fail
      refine (awake_any _).mono ?_
      rintro e w5 ⟨rfl, hb5⟩
      go_wp2_with fail
      go_ret
      exact ⟨rfl, g2.trans (hb5.mono g2.size)⟩

set_option maxHeartbeats 1600000 in
set_option maxRecDepth 100000 in
theorem shrink_lifted (os : Os) (started : os.Started) (H : Type) (enc : TypeId × Value → H) :
    ReturnsInHanded {} Try.checked os 11 .any (Rows.clocksWindowsShrinkSpec.pre6 enc Try.prog Try.f11 Rows.clocksWindowsShrinkRow.domain false) (Rows.clocksWindowsShrinkSpec.post enc Try.prog Try.f11 false true false false) := by
  refine returnsInHanded_of_change (C := Try.checked) own started (by kernel_rfl) Try.func11
    (ChangeSpec.witness6 (enc := enc) (C := Try.checked) false ⟨#[], #[.agg #[.int .i64 0, .int .i64 0], .slice none 0 0, .int .i64 0, .int .i64 0], []⟩ 8 (by kernel_rfl) (by kernel_rfl) (by kernel_rfl) (by kernel_rfl)) ?_
  intro W base args ds gs before hval0 hW _ _
  have hval : ∀ (j : Nat) t v, Try.f11.params[j]? = some t → args[j]? = some v → Value.okWide Try.prog W .any base t v := hval0
  have hW' := hW
  have hlt := fun x hx => hW'.lt x hx
  obtain ⟨p, q, hA0, hV, rfl, _, _⟩ := hW
  have hA : DataW.TrodAll enc Try.prog W 0 (fun _ => true) true Try.f11.params.toList args.toList ds p := hA0
  rw [Try.params11] at hA hval
  obtain ⟨v0, v1, v2, v3, d0, d1, d2, d3, p0, p1, p2, p3, rfl, rfl, rfl, h0, h1, h2, h3⟩ := trodAll_four hA
  obtain ⟨rfl, rfl⟩ := trodVars_none hV
  obtain ⟨cs, cf, rfl, hbc⟩ := open_clock (fun x hx => hlt x (by simp [hx])) (hval 0 45 v0 rfl rfl) h0
  obtain ⟨Am', lenm, capm, rfl⟩ := okWide_slice Try.underlying31 (hval 1 31 v1 rfl rfl)
  obtain ⟨nm, hnm⟩ := h1
  obtain ⟨Am, cm, m, hvm, hlcm, hcm, hBm, hIm⟩ := open_marks (fun x hx => hlt x (by simp [hx])) hnm
  obtain ⟨t, rfl, rfl, rfl, wft⟩ := open_int Try.underlying3 (hval 2 3 v2 rfl rfl) h2
  have hbt := bounds_i64 wft
  obtain ⟨n, rfl, rfl, rfl, wfn⟩ := open_int Try.underlying3 (hval 3 3 v3 rfl rfl) h3
  have hbn := bounds_i64 wfn
  rw [hvm] at hW' ⊢
  refine (lawShrink_any cs cf Am cm m t n W hlcm (by unfold maxLen at hcm; omega) hBm).mono fun e W' ⟨he, hb⟩ => ?_
  subst he
  exact ⟨_, rfl, law_post (by decide +kernel) rfl rfl hW' rfl hb⟩

set_option maxRecDepth 100000 in
theorem shrink_closed : joinedFacts Try.prog 11 Try.f11 Rows.clocksWindowsShrinkSpec Rows.clocksWindowsShrinkRow = true :=
  closed_all (by as_aux_lemma => kernel_rfl) (by as_aux_lemma => kernel_rfl) (by as_aux_lemma => kernel_rfl) (by as_aux_lemma => kernel_rfl) (by as_aux_lemma => kernel_rfl) (by as_aux_lemma => kernel_rfl) (by as_aux_lemma => kernel_rfl) (by as_aux_lemma => kernel_rfl) (by as_aux_lemma => kernel_rfl) (by as_aux_lemma => kernel_rfl) (by as_aux_lemma => kernel_rfl) (by as_aux_lemma => kernel_rfl) (by as_aux_lemma => kernel_rfl) (by as_aux_lemma => kernel_rfl) (by as_aux_lemma => kernel_rfl) (by as_aux_lemma => kernel_rfl) (by as_aux_lemma => kernel_rfl) (by as_aux_lemma => kernel_rfl) pKeys (by as_aux_lemma => kernel_rfl) pLifts pMake (by as_aux_lemma => kernel_rfl) (by as_aux_lemma => kernel_rfl) (by as_aux_lemma => kernel_rfl) (by as_aux_lemma => kernel_rfl)

theorem shrink_holds : Rows.ClocksWindowsShrinkSaid :=
  OpenClaim.holds_of_wide 11 Try.f11 rfl rfl rfl rfl rfl rfl rfl ⟨rfl, rfl, rfl, rfl, rfl⟩ rfl rfl rfl rfl rfl (by kernel_rfl) Try.func11 shrink_closed
    (of_decide_eq_true (by kernel_rfl)) (by unfold Func.isWrapper; first | (rw [if_pos (by decide +kernel)]; kernel_rfl) | (rw [if_neg (by decide +kernel)]; exact ⟨rfl, rfl⟩))
    (fun os started H enc _ => shrink_lifted os started H enc)
#print axioms shrink_holds
end Go.Proofs.Ythhgcnfkdlblnaa
