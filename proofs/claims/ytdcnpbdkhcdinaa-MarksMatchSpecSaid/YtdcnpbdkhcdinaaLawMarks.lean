/- CheckMarks, TimeOf, TickOf and Rates are as the reference gives them: the law MarksMatchSpec answers true for every input. No condition. -/
import Derived.Test.YtdcnpbdkhcdinaaRRates
import Derived.Test.YtdcnpbdkhcdinaaRTime
import Derived.Test.YtdcnpbdkhcdinaaAwake
import Derived.Test.YtdcnpbdkhcdinaaCloseM
import Derived.Test.YtdcnpbdkhcdinaaClosed
import Derived.Laws.StructEq
namespace Go.Proofs.Ytdcnpbdkhcdinaa
open Go.ChangeShapes Go.WideShapes Go.ChangeAt Go.RowKit

set_option maxRecDepth 100000 in
set_option maxHeartbeats 4000000 in
theorem lawMarks_any (A : Option Addr) (c : Nat) (l : List Mk) (n z : Int) (w : World) (hl : l.length ≤ 9223372036854775807) (hA : MR w w.heap.size A l) :
    Calls Try.prog 6 #[.slice A l.length c, .int .i64 n, .int .i64 z] w fun e w' => e = .returned (.bool true) ∧ Below w.heap.size w w' := by
  have C1 := Lib.hid (fun (w' : World) (hb : Below w.heap.size w w') => timeOf_any A c l n w' hl ((hA.below hb).lift hb.size))
  have C2 := Lib.hid (fun (w' : World) (hb : Below w.heap.size w w') => rtimeOf_any A c l n w' hl ((hA.below hb).lift hb.size))
  have C3 := Lib.hid (fun (w' : World) (hb : Below w.heap.size w w') => tickOf_any A c l z w' hl ((hA.below hb).lift hb.size))
  have C4 := Lib.hid (fun (w' : World) (hb : Below w.heap.size w w') => rtickOf_any A c l z w' hl ((hA.below hb).lift hb.size))
  have C5 := Lib.hid (fun (w' : World) (hb : Below w.heap.size w w') => checkMarks_any A c l w' hl ((hA.below hb).lift hb.size))
  have C6 := Lib.hid (fun (w' : World) (hb : Below w.heap.size w w') => rcheckMarks_any A c l w' hl ((hA.below hb).lift hb.size))
  have C7 := Lib.hid (fun (w' : World) (hb : Below w.heap.size w w') => rates_any A c l w' hl ((hA.below hb).lift hb.size))
  have C8 := Lib.hid (fun (w' : World) (hb : Below w.heap.size w w') => rrates_any A c l w' hl ((hA.below hb).lift hb.size))
  unfold TimeOfPost at C1 C2
  unfold TickOfPost at C3 C4
  unfold RatesPost sv at C7 C8
  generalize (if ckR l = 0 then lowQ (leastTo l (l.length - 1)) else (0, 0)) = X at *
  generalize (if ckR l = 0 then lowQ (mostTo l (l.length - 1)) else (0, 0)) = Y at *
  generalize ckR l = K at *
  generalize ckM l = K2 at *
  clear hA
  go_enter Try.func6, Try.ntmps6
  go_wp2_with fail
  refine (C1.out w (Below.refl _ _)).mono ?_
  rintro e w1 ⟨⟨a, F, rfl, h1⟩, hb1⟩
  go_wp2_with fail
  refine (C2.out w1 hb1).mono ?_
  rintro e w2 ⟨⟨b, G, rfl, h2⟩, hb2⟩
  have g2 := hb1.trans (hb2.mono hb1.size)
  have hab := TimeR.unique h1 h2
  injection hab with e1 e2
  subst e1 e2
  clear h1 h2 hb1 hb2 C1 C2
  go_wp2_with fail
  refine (C3.out w2 g2).mono ?_
  rintro e w3 ⟨⟨t, H, rfl, h3⟩, hb3⟩
  have g3 := g2.trans (hb3.mono g2.size)
  go_wp2_with fail
  refine (C4.out w3 g3).mono ?_
  rintro e w4 ⟨⟨u, I, rfl, h4⟩, hb4⟩
  have g4 := g3.trans (hb4.mono g3.size)
  have htu := TickR.unique h3 h4
  injection htu with e3 e4
  subst e3 e4
  clear h3 h4 hb3 hb4 C3 C4 g2 g3
  go_wp2_with fail
  refine (C5.out w4 g4).mono ?_
  rintro e w5 ⟨rfl, hb5⟩
  have g5 := g4.trans (hb5.mono g4.size)
  clear hb5 C5 g4
  go_wp2_with fail
  refine (C6.out w5 g5).mono ?_
  rintro e w6 ⟨rfl, hb6⟩
  have g6 := g5.trans (hb6.mono g5.size)
  clear hb6 C6 g5
  go_wp2_with fail
  refine (C7.out w6 g6).mono ?_
  rintro e w7 ⟨rfl, hb7⟩
  have g7 := g6.trans (hb7.mono g6.size)
  have hz7 := g7.size
  clear hb7 C7 g6
  go_wp2_with fail
  refine (C8.out _ ((g7.alloc hz7 _).alloc (by simp; omega) _)).mono ?_
  rintro e w8 ⟨rfl, hb8⟩
  have hX := ((HeldQ.new w7 X).below ((Below.refl _ _).alloc (Nat.le_refl _) (.cells #[.int .i64 Y.1, .int .i64 Y.2] 45)) (by simp)).below hb8 (by simp; omega)
  have hY := (HeldQ.new (w7.alloc (.cells #[.int .i64 X.1, .int .i64 X.2] 45)) Y).below hb8 (by simp)
  have g8 : Below w.heap.size w w8 := ((g7.alloc hz7 _).alloc (by simp; omega) _).trans (hb8.mono (by simp; omega))
  have hz8 := g8.size
  obtain ⟨a1, a2, a3⟩ := hX.cells
  obtain ⟨a4, a5, a6⟩ := hY.cells
  simp only [World.size_alloc] at a4 a5 a6
  have hz9 : w7.heap.size + 2 ≤ w8.heap.size := by omega
  clear hX hY hb8 C8
  go_wp2_with fail
  refine (awake_any _).mono ?_
  rintro e w9 ⟨rfl, hb9⟩
  go_wp2_with fail
  go_ret
  exact ⟨rfl, ((g8.alloc hz8 _).alloc (by simp; omega) _).trans (hb9.mono (by simp; omega))⟩

set_option maxHeartbeats 1600000 in
set_option maxRecDepth 100000 in
theorem marks_lifted (os : Os) (started : os.Started) (H : Type) (enc : TypeId × Value → H) :
    ReturnsInHanded {} Try.checked os 6 .any (Rows.marksMatchSpecSpec.pre6 enc Try.prog Try.f6 Rows.marksMatchSpecRow.domain false) (Rows.marksMatchSpecSpec.post enc Try.prog Try.f6 false true false false) := by
  refine returnsInHanded_of_change (C := Try.checked) own started (by kernel_rfl) Try.func6
    (ChangeSpec.witness6 (enc := enc) (C := Try.checked) false ⟨#[], #[.slice none 0 0, .int .i64 0, .int .i64 0], []⟩ 8 (by kernel_rfl) (by kernel_rfl) (by kernel_rfl) (by kernel_rfl)) ?_
  intro W base args ds gs before hval0 hW _ _
  have hval : ∀ (j : Nat) t v, Try.f6.params[j]? = some t → args[j]? = some v → Value.okWide Try.prog W .any base t v := hval0
  have hW' := hW
  have hlt := fun x hx => hW'.lt x hx
  obtain ⟨p, q, hA0, hV, rfl, _, _⟩ := hW
  have hA : DataW.TrodAll enc Try.prog W 0 (fun _ => true) true Try.f6.params.toList args.toList ds p := hA0
  rw [Try.params6] at hA hval
  obtain ⟨v0, v1, v2, d0, d1, d2, p0, p1, p2, rfl, rfl, rfl, h0, h1, h2⟩ := trodAll_three hA
  obtain ⟨rfl, rfl⟩ := trodVars_none hV
  obtain ⟨Am', lenm, capm, rfl⟩ := okWide_slice Try.underlying40 (hval 0 40 v0 rfl rfl)
  obtain ⟨nm, hnm⟩ := h0
  obtain ⟨Am, cm, m, hvm, hlcm, hcm, hBm, hIm⟩ := open_marks (fun x hx => hlt x (by simp [hx])) hnm
  obtain ⟨n, rfl, rfl, rfl, wfn⟩ := open_int Try.underlying3 (hval 1 3 v1 rfl rfl) h1
  have hbn := bounds_i64 wfn
  obtain ⟨z, rfl, rfl, rfl, wfz⟩ := open_int Try.underlying3 (hval 2 3 v2 rfl rfl) h2
  have hbz := bounds_i64 wfz
  rw [hvm] at hW' ⊢
  refine (lawMarks_any Am cm m n z W (by unfold maxLen at hcm; omega) hBm).mono fun e W' ⟨he, hb⟩ => ?_
  subst he
  exact ⟨_, rfl, law_post (by decide +kernel) rfl rfl hW' rfl hb⟩

set_option maxRecDepth 100000 in
theorem marks_closed : joinedFacts Try.prog 6 Try.f6 Rows.marksMatchSpecSpec Rows.marksMatchSpecRow = true :=
  closed_all (by as_aux_lemma => kernel_rfl) (by as_aux_lemma => kernel_rfl) (by as_aux_lemma => kernel_rfl) (by as_aux_lemma => kernel_rfl) (by as_aux_lemma => kernel_rfl) (by as_aux_lemma => kernel_rfl) (by as_aux_lemma => kernel_rfl) (by as_aux_lemma => kernel_rfl) (by as_aux_lemma => kernel_rfl) (by as_aux_lemma => kernel_rfl) (by as_aux_lemma => kernel_rfl) (by as_aux_lemma => kernel_rfl) (by as_aux_lemma => kernel_rfl) (by as_aux_lemma => kernel_rfl) (by as_aux_lemma => kernel_rfl) (by as_aux_lemma => kernel_rfl) (by as_aux_lemma => kernel_rfl) (by as_aux_lemma => kernel_rfl) pKeys (by as_aux_lemma => kernel_rfl) pLifts pMake (by as_aux_lemma => kernel_rfl) (by as_aux_lemma => kernel_rfl) (by as_aux_lemma => kernel_rfl) (by as_aux_lemma => kernel_rfl)

theorem marks_holds : Rows.MarksMatchSpecSaid :=
  OpenClaim.holds_of_wide 6 Try.f6 rfl rfl rfl rfl rfl rfl rfl ⟨rfl, rfl, rfl, rfl, rfl⟩ rfl rfl rfl rfl rfl (by kernel_rfl) Try.func6 marks_closed
    (of_decide_eq_true (by kernel_rfl)) (by unfold Func.isWrapper; first | (rw [if_pos (by decide +kernel)]; kernel_rfl) | (rw [if_neg (by decide +kernel)]; exact ⟨rfl, rfl⟩))
    (fun os started H enc _ => marks_lifted os started H enc)
#print axioms marks_holds
end Go.Proofs.Ytdcnpbdkhcdinaa
