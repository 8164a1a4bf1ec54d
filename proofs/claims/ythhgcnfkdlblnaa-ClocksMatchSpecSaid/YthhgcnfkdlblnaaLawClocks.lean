/- CheckClock, Window and Clashes are as the reference gives them: the law ClocksMatchSpec answers true for every input. No condition. -/
import Derived.Test.YthhgcnfkdlblnaaRClashes
import Derived.Test.YthhgcnfkdlblnaaAwake
import Derived.Test.YthhgcnfkdlblnaaCloseM
import Derived.Test.YthhgcnfkdlblnaaClosed
namespace Go.Proofs.Ythhgcnfkdlblnaa
open Go.ChangeShapes Go.WideShapes Go.ChangeAt Go.RowKit

theorem clashesS_len (s f : Int) (l : List Mk) : (clashesS s f l).1.length ≤ l.length := by
  by_cases h : ckB s f l = 0
  · rw [clashesS_ok h]; exact clashTo_len s f l _
  · rw [clashesS_bad h]; exact Nat.zero_le _
set_option maxRecDepth 100000 in
set_option maxHeartbeats 2000000 in
theorem lawClocks_any (s f : Int) (A : Option Addr) (c : Nat) (l : List Mk) (n : Int) (w : World) (hl : l.length ≤ 9223372036854775807) (hA : MR w w.heap.size A l) :
    Calls Try.prog 10 #[cv s f, .slice A l.length c, .int .i64 n] w fun e w' => e = .returned (.bool true) ∧ Below w.heap.size w w' := by
  have b0 := boxed_below s f w
  obtain ⟨fa, fb⟩ := boxed_cells (Below.refl (w.heap.size + 1) (boxed s f w))
  have bsz := boxed_size s f w
  have c1 := fun (w' : World) (hb : Below w.heap.size w w') => window_any s f A c l n w' hl ((hA.below hb).lift hb.size)
  have c2 := fun (w' : World) (hb : Below w.heap.size w w') => rwindow_any s f A c l n w' hl ((hA.below hb).lift hb.size)
  have c3 := fun (w' : World) (hb : Below w.heap.size w w') => clashes_any s f A c l w' hl ((hA.below hb).lift hb.size)
  have c4 := fun (w' : World) (hb : Below w.heap.size w w') => rclashes_any s f A c l w' hl ((hA.below hb).lift hb.size)
  have c5 := fun w' => checkClock_any s f w'
  have c6 := fun w' => rcheckClock_any s f w'
  have hlen := clashesS_len s f l
  generalize windowS s f l n = r at *
  generalize clashesS s f l = r' at *
  generalize ckC s f = K at *
  obtain ⟨x, y, F⟩ := r
  obtain ⟨L, G⟩ := r'
  unfold WinPost at c1 c2
  unfold TurnPost at c3 c4
  simp only at c1 c2 c3 c4 hlen
  unfold cv at *
  generalize hW0 : boxed s f w = W0 at *
  have hW1 : w.alloc (.cells #[.int .i64 s, .int .i64 f] 45) = W0 := hW0
  have HB0 := Lib.hid b0
  have C1 := Lib.hid c1
  have C2 := Lib.hid c2
  have C3 := Lib.hid c3
  have C4 := Lib.hid c4
  have C5 := Lib.hid c5
  have C6 := Lib.hid c6
  clear c1 c2 c3 c4 c5 c6 hA hW0 b0
  go_enter Try.func10, Try.ntmps10
  go_wp2_with fail
  refine (C1.out _ HB0.out).mono ?_
  rintro e w1 ⟨rfl, hb1⟩
  have k1 : Below (w.heap.size + 1) W0 w1 := hb1.mono (by omega)
  have g1 : Below w.heap.size w w1 := HB0.out.trans (k1.mono (by omega))
  have fa1 := (Below.at_ k1 w.heap.size (by omega) 0).trans fa
  have fb1 := (Below.at_ k1 w.heap.size (by omega) 1).trans fb
  have z1 := k1.size
  clear hb1
  go_wp2_with fail
  refine (C2.out _ g1).mono ?_
  rintro e w2 ⟨rfl, hb2⟩
  have k2 : Below (w.heap.size + 1) W0 w2 := k1.trans (hb2.mono (by omega))
  have g2 : Below w.heap.size w w2 := HB0.out.trans (k2.mono (by omega))
  have fa2 := (Below.at_ k2 w.heap.size (by omega) 0).trans fa
  have fb2 := (Below.at_ k2 w.heap.size (by omega) 1).trans fb
  have z2 := k2.size
  clear hb2 fa1 fb1
  go_wp2_with fail
  refine (C3.out _ g2).mono ?_
  rintro e w3 ⟨v3, rfl, ho3, hb3⟩
  have k3 : Below (w.heap.size + 1) W0 w3 := k2.trans (hb3.mono (by omega))
  have g3 : Below w.heap.size w w3 := HB0.out.trans (k3.mono (by omega))
  have fa3 := (Below.at_ k3 w.heap.size (by omega) 0).trans fa
  have fb3 := (Below.at_ k3 w.heap.size (by omega) 1).trans fb
  have z3 := k3.size
  clear hb3 fa2 fb2
  go_wp2_with fail
  refine (C4.out _ g3).mono ?_
  rintro e w4 ⟨v4, rfl, ho4, hb4⟩
  have k4 : Below (w.heap.size + 1) W0 w4 := k3.trans (hb4.mono (by omega))
  have g4 : Below w.heap.size w w4 := HB0.out.trans (k4.mono (by omega))
  have fa4 := (Below.at_ k4 w.heap.size (by omega) 0).trans fa
  have fb4 := (Below.at_ k4 w.heap.size (by omega) 1).trans fb
  have z4 := k4.size
  have ho3 := ho3.after hb4 (Nat.le_refl _)
  clear hb4 fa3 fb3
  go_wp2_with fail
  obtain ⟨A1, k1', rfl, r1⟩ := ho3.form
  obtain ⟨A2, k2', rfl, r2⟩ := ho4.form
  have D5 := Lib.hid (fun (w' : World) (hb : Below w4.heap.size w4 w') (hz : w4.heap.size ≤ w'.heap.size) => carryB (C5.out w') hb hz)
  have D6 := Lib.hid (fun (w' : World) (hb : Below w4.heap.size w4 w') (hz : w4.heap.size ≤ w'.heap.size) => carryB (C6.out w') hb hz)
  have D7 := Lib.hid (fun (w' : World) (hb : Below w4.heap.size w4 w') (hz : w4.heap.size ≤ w'.heap.size) => carryB (equalI_yes A1 A2 k1' k2' L w4.heap.size w' (by omega) (r1.below hb) (r2.below hb)) hb hz)
  have D8 := Lib.hid (fun (w' : World) (hb : Below w4.heap.size w4 w') (hz : w4.heap.size ≤ w'.heap.size) => carryB (awake_any w') hb hz)
  clear C1 C2 C3 C4 C5 C6 ho3 ho4 r1 r2 fa fb k1 k2 k3 g1 g2 g3 z1 z2 z3
  go_region_held3 (fun w' => w'.cell? ⟨w.heap.size, 0, none⟩ = some (.int .i64 s) ∧ w'.cell? ⟨w.heap.size, 1, none⟩ = some (.int .i64 f))
    (first | go_keep | exact ⟨(Below.at_ (a := w4) (by assumption) w.heap.size (by omega) _).trans fa4, (Below.at_ (a := w4) (by assumption) w.heap.size (by omega) _).trans fb4⟩)
    (first
     | (go_at_call 37
        refine (D5.out _ ?_ ?_).mono ?_
        · first | assumption | exact (Below.refl _ _).drew | exact Below.drew (by assumption)
        · first | assumption | (simp; done) | (simp; omega)
        rintro e w5 ⟨rfl, hb5, hs5⟩)
     | (go_at_call 38
        refine (D6.out _ ?_ ?_).mono ?_
        · first | assumption | exact (Below.refl _ _).drew | exact Below.drew (by assumption)
        · first | assumption | (simp; done) | (simp; omega)
        rintro e w5 ⟨rfl, hb5, hs5⟩)
     | (go_at_call 23
        refine (D7.out _ ?_ ?_).mono ?_
        · first | assumption | exact (Below.refl _ _).drew | exact Below.drew (by assumption)
        · first | assumption | (simp; done) | (simp; omega)
        rintro e w5 ⟨rfl, hb5, hs5⟩)
     | (go_at_call 24
        refine (D8.out _ ?_ ?_).mono ?_
        · first | assumption | exact (Below.refl _ _).drew | exact Below.drew (by assumption)
        · first | assumption | (simp; done) | (simp; omega)
        rintro e w5 ⟨rfl, hb5, hs5⟩))
  go_wp2_with fail
  go_ret
  exact ⟨rfl, g4.trans ((by assumption : Below w4.heap.size w4 _).mono g4.size)⟩

set_option maxHeartbeats 1600000 in
set_option maxRecDepth 100000 in
theorem clocks_lifted (os : Os) (started : os.Started) (H : Type) (enc : TypeId × Value → H) :
    ReturnsInHanded {} Try.checked os 10 .any (Rows.clocksMatchSpecSpec.pre6 enc Try.prog Try.f10 Rows.clocksMatchSpecRow.domain false) (Rows.clocksMatchSpecSpec.post enc Try.prog Try.f10 false true false false) := by
  refine returnsInHanded_of_change (C := Try.checked) own started (by kernel_rfl) Try.func10
    (ChangeSpec.witness6 (enc := enc) (C := Try.checked) false ⟨#[], #[.agg #[.int .i64 0, .int .i64 0], .slice none 0 0, .int .i64 0], []⟩ 8 (by kernel_rfl) (by kernel_rfl) (by kernel_rfl) (by kernel_rfl)) ?_
  intro W base args ds gs before hval0 hW _ _
  have hval : ∀ (j : Nat) t v, Try.f10.params[j]? = some t → args[j]? = some v → Value.okWide Try.prog W .any base t v := hval0
  have hW' := hW
  have hlt := fun x hx => hW'.lt x hx
  obtain ⟨p, q, hA0, hV, rfl, _, _⟩ := hW
  have hA : DataW.TrodAll enc Try.prog W 0 (fun _ => true) true Try.f10.params.toList args.toList ds p := hA0
  rw [Try.params10] at hA hval
  obtain ⟨v0, v1, v2, d0, d1, d2, p0, p1, p2, rfl, rfl, rfl, h0, h1, h2⟩ := trodAll_three hA
  obtain ⟨rfl, rfl⟩ := trodVars_none hV
  obtain ⟨cs, cf, rfl, hbc⟩ := open_clock (fun x hx => hlt x (by simp [hx])) (hval 0 45 v0 rfl rfl) h0
  obtain ⟨Am', lenm, capm, rfl⟩ := okWide_slice Try.underlying31 (hval 1 31 v1 rfl rfl)
  obtain ⟨nm, hnm⟩ := h1
  obtain ⟨Am, cm, m, hvm, hlcm, hcm, hBm, hIm⟩ := open_marks (fun x hx => hlt x (by simp [hx])) hnm
  obtain ⟨n, rfl, rfl, rfl, wfn⟩ := open_int Try.underlying3 (hval 2 3 v2 rfl rfl) h2
  have hbn := bounds_i64 wfn
  rw [hvm] at hW' ⊢
  refine (lawClocks_any cs cf Am cm m n W (by unfold maxLen at hcm; omega) hBm).mono fun e W' ⟨he, hb⟩ => ?_
  subst he
  exact ⟨_, rfl, law_post (by decide +kernel) rfl rfl hW' rfl hb⟩

set_option maxRecDepth 100000 in
theorem clocks_closed : joinedFacts Try.prog 10 Try.f10 Rows.clocksMatchSpecSpec Rows.clocksMatchSpecRow = true :=
  closed_all (by as_aux_lemma => kernel_rfl) (by as_aux_lemma => kernel_rfl) (by as_aux_lemma => kernel_rfl) (by as_aux_lemma => kernel_rfl) (by as_aux_lemma => kernel_rfl) (by as_aux_lemma => kernel_rfl) (by as_aux_lemma => kernel_rfl) (by as_aux_lemma => kernel_rfl) (by as_aux_lemma => kernel_rfl) (by as_aux_lemma => kernel_rfl) (by as_aux_lemma => kernel_rfl) (by as_aux_lemma => kernel_rfl) (by as_aux_lemma => kernel_rfl) (by as_aux_lemma => kernel_rfl) (by as_aux_lemma => kernel_rfl) (by as_aux_lemma => kernel_rfl) (by as_aux_lemma => kernel_rfl) (by as_aux_lemma => kernel_rfl) pKeys (by as_aux_lemma => kernel_rfl) pLifts pMake (by as_aux_lemma => kernel_rfl) (by as_aux_lemma => kernel_rfl) (by as_aux_lemma => kernel_rfl) (by as_aux_lemma => kernel_rfl)

theorem clocks_holds : Rows.ClocksMatchSpecSaid :=
  OpenClaim.holds_of_wide 10 Try.f10 rfl rfl rfl rfl rfl rfl rfl ⟨rfl, rfl, rfl, rfl, rfl⟩ rfl rfl rfl rfl rfl (by kernel_rfl) Try.func10 clocks_closed
    (of_decide_eq_true (by kernel_rfl)) (by unfold Func.isWrapper; first | (rw [if_pos (by decide +kernel)]; kernel_rfl) | (rw [if_neg (by decide +kernel)]; exact ⟨rfl, rfl⟩))
    (fun os started H enc _ => clocks_lifted os started H enc)
#print axioms clocks_holds
end Go.Proofs.Ythhgcnfkdlblnaa
