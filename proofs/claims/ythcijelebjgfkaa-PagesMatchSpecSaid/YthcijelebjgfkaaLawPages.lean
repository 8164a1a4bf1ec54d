/- pages, as specified: the law PagesMatchSpec answers true for every input. No condition. -/
import Derived.Test.YthcijelebjgfkaaRDec2
import Derived.Test.YthcijelebjgfkaaSameP
import Derived.Test.YthcijelebjgfkaaFlAwake
import Derived.Test.YthcijelebjgfkaaPageOpen
import Derived.Test.YthcijelebjgfkaaClosed
namespace Go.Proofs.Ythcijelebjgfkaa
open Go.ChangeShapes Go.WideShapes Go.ChangeAt Go.RowKit

/-- the bytes that an encoding gives -/
def encL (ps : Int) (x : Pg) : List UInt8 := if encF ps x = 0 then pgB ps.toNat x else []
def EncForm (ps : Int) (x : Pg) (w : World) (e : Ending) (w' : World) : Prop :=
  ∃ A c, e = .returned (.tuple #[.slice A (encL ps x).length c, .int .i64 (encF ps x)]) ∧ BR w' w'.heap.size A (encL ps x) ∧ Below w.heap.size w w'
theorem EncPost.form {ps : Int} {x : Pg} {w w' : World} {e : Ending} (h : EncPost ps x w e w') : EncForm ps x w e w' := by
  obtain ⟨v, rfl, hb, hbad, hgood⟩ := h
  unfold EncForm encL
  by_cases h0 : encF ps x = 0
  · obtain ⟨A, c, rfl, hB⟩ := (hgood h0).form
    rw [if_pos h0]
    exact ⟨A, c, rfl, hB, hb⟩
  · rw [hbad h0, if_neg h0]
    exact ⟨none, 0, rfl, .inl rfl, hb⟩
set_option maxRecDepth 100000 in
set_option maxHeartbeats 4000000 in
theorem pages_any (ps : Int) (x : Pg) (A : Option Addr) (c : Nat) (Ab : Option Addr) (cb : Nat) (b : List UInt8) (w : World) (hs : x.name.size ≤ 9223372036854775807) (hx : x.bytes.length ≤ 9223372036854775807) (hbc : b.length ≤ cb) (hcb : cb ≤ 9223372036854775807) (h : BR w w.heap.size A x.bytes) (h' : BR w w.heap.size Ab b) :
    Calls Try.prog 5 #[.int .i64 ps, pgV x A c, .slice Ab b.length cb] w fun e w' => e = .returned (.bool true) ∧ Below w.heap.size w w' := by
  obtain ⟨w0, hw0⟩ : ∃ w0, w.alloc (.cells #[.int .i64 x.gen, .bool x.gone, .string x.name, .int .i64 x.ix, .bool x.last, .slice A x.bytes.length c] 40) = w0 := ⟨_, rfl⟩
  have b0 : Below w.heap.size w w0 := by rw [← hw0]; exact (Below.refl _ _).alloc (Nat.le_refl _) _
  have g0 : BoxP w0 w.heap.size (.int .i64 x.gen) (.bool x.gone) (.string x.name) (.int .i64 x.ix) (.bool x.last) (.slice A x.bytes.length c) := by rw [← hw0]; exact BoxP.new _ _ _ _ _ _ _
  have HW0 := Lib.hid hw0
  have H1 := Lib.hid ((encode_any ps x A c w.heap.size w0 b0.size hs hx (h.below b0)).mono fun e w' hp => hp.form)
  have H2 := Lib.hid (fun w1 (hb : Below w0.heap.size w0 w1) => (rencode_any ps x A c w.heap.size w1 (Nat.le_trans b0.size hb.size) hs hx (h.below (b0.trans (hb.mono b0.size)))).mono fun e w' hp => hp.form)
  have H3 := Lib.hid (fun w1 (hb : Below w.heap.size w w1) => decode_any Ab cb b w1 hbc hcb ((h'.below hb).lift hb.size))
  have H4 := Lib.hid (fun w1 (hb : Below w.heap.size w w1) => rdecode_any Ab cb b w1 hbc hcb ((h'.below hb).lift hb.size))
  have HS := Lib.hid (fun (X : Pg) (A1 A2 : Option Addr) (c1 c2 : Nat) (w1 : World) (i1 : BR w1 w1.heap.size A1 X.bytes) (i2 : BR w1 w1.heap.size A2 X.bytes) => samePage_yes X A1 A2 c1 c2 w1.heap.size w1 (Nat.le_refl _) i1 i2)
  unfold EncForm at H1 H2
  unfold DecPost at H3 H4
  generalize encL ps x = EL at *
  generalize encF ps x = EF at *
  generalize (decD b).1 = S at *
  generalize (decD b).2.2 = F at *
  generalize (decD b).2.1 = X at *
  obtain ⟨gen, gone, nm, ix, last, xb⟩ := x
  obtain ⟨gen2, gone2, nm2, ix2, last2, yb⟩ := X
  have HS2 := Lib.hid (HS.out ⟨gen2, gone2, nm2, ix2, last2, yb⟩)
  unfold pgV at *
  dsimp only at *
  go_enter Try.func5, Try.ntmps5
  go_upto_region 1 with fail
  clear hw0 HS
  obtain ⟨q0, q1, q2, q3, q4, q5⟩ := g0.cells
  go_wp2_with fail
  refine H1.out.mono ?_
  rintro e w1 ⟨A1, c1, rfl, i1, hb1⟩
  clear q0 q1 q2 q3 q4 q5
  obtain ⟨q0, q1, q2, q3, q4, q5⟩ := (g0.below hb1 g0.lt).cells
  go_wp2_with fail
  refine (H2.out _ hb1).mono ?_
  rintro e w2 ⟨A2, c2, rfl, i2, hb2⟩
  have hb02 := b0.trans ((hb1.trans (hb2.mono hb1.size)).mono b0.size)
  clear q0 q1 q2 q3 q4 q5
  go_wp2_with fail
  refine (H3.out _ hb02).mono ?_
  rintro e w3 ⟨A3, c3, rfl, i3, hb3⟩
  obtain ⟨wa, hwa⟩ : ∃ wa, w3.alloc (.cells #[.int .i64 gen2, .bool gone2, .string nm2, .int .i64 ix2, .bool last2, .slice A3 yb.length c3] 40) = wa := ⟨_, rfl⟩
  have ba : Below w3.heap.size w3 wa := by rw [← hwa]; exact (Below.refl _ _).alloc (Nat.le_refl _) _
  have ga : BoxP wa w3.heap.size (.int .i64 gen2) (.bool gone2) (.string nm2) (.int .i64 ix2) (.bool last2) (.slice A3 yb.length c3) := by rw [← hwa]; exact BoxP.new _ _ _ _ _ _ _
  have HWA := Lib.hid hwa
  clear hwa
  have hb03 := hb02.trans (hb3.mono hb02.size)
  have hb0a := hb03.trans (ba.mono hb03.size)
  go_upto_region 4 with fail
  rw [HWA.out]
  go_wp2_with fail
  refine (H4.out _ hb0a).mono ?_
  rintro e w4 ⟨A4, c4, rfl, i4, hb4⟩
  obtain ⟨wb, hwb⟩ : ∃ wb, w4.alloc (.cells #[.int .i64 gen2, .bool gone2, .string nm2, .int .i64 ix2, .bool last2, .slice A4 yb.length c4] 40) = wb := ⟨_, rfl⟩
  have bb : Below w4.heap.size w4 wb := by rw [← hwb]; exact (Below.refl _ _).alloc (Nat.le_refl _) _
  have gb : BoxP wb w4.heap.size (.int .i64 gen2) (.bool gone2) (.string nm2) (.int .i64 ix2) (.bool last2) (.slice A4 yb.length c4) := by rw [← hwb]; exact BoxP.new _ _ _ _ _ _ _
  have HWB := Lib.hid hwb
  clear hwb
  have ga2 : BoxP wb w3.heap.size (.int .i64 gen2) (.bool gone2) (.string nm2) (.int .i64 ix2) (.bool last2) (.slice A3 yb.length c3) := (ga.below hb4 ga.lt).below bb (Nat.lt_of_lt_of_le ga.lt hb4.size)
  have h3b : Below w3.heap.size w3 wb := (ba.trans (hb4.mono ba.size)).trans (bb.mono (Nat.le_trans ba.size hb4.size))
  have h2b : Below w2.heap.size w2 wb := hb3.trans (h3b.mono hb3.size)
  have h1b : Below w1.heap.size w1 wb := hb2.trans (h2b.mono hb2.size)
  have hb04 := hb0a.trans (hb4.mono hb0a.size)
  have hb0b := hb04.trans (bb.mono hb04.size)
  have hQ := bytesEqual_any A1 A2 c1 c2 EL EL wb.heap.size wb ((i1.below h1b).lift h1b.size) ((i2.below h2b).lift h2b.size)
  simp only [decide_true] at hQ
  have HQ := Lib.hid hQ
  have HS3 := Lib.hid (HS2.out A3 A4 c3 c4 wb ((i3.below h3b).lift h3b.size) ((i4.below bb).lift bb.size))
  obtain ⟨q0, q1, q2, q3, q4, q5⟩ := ga2.cells
  obtain ⟨p0, p1, p2, p3, p4, p5⟩ := gb.cells
  clear hQ HS2 H1 H2 H3 H4
  go_upto_region 5 with fail
  rw [HWB.out]
  go_wp2_with fail
  refine HQ.out.mono ?_
  rintro e w5 ⟨rfl, rfl⟩
  go_wp2_with fail
  refine HS3.out.mono ?_
  rintro e w6 ⟨rfl, hb6⟩
  go_wp2_with fail
  refine (flAwake_any _).mono ?_
  rintro e w7 ⟨rfl, hb7⟩
  go_wp2
  go_ret
  have hb06 := hb0b.trans (hb6.mono hb0b.size)
  exact ⟨rfl, hb06.trans (hb7.mono hb06.size)⟩

set_option maxHeartbeats 1600000 in
set_option maxRecDepth 100000 in
theorem pages_lifted (os : Os) (started : os.Started) (H : Type) (enc : TypeId × Value → H) :
    ReturnsInHanded {} Try.checked os 5 .any (Rows.pagesMatchSpecSpec.pre6 enc Try.prog Try.f5 Rows.pagesMatchSpecRow.domain false) (Rows.pagesMatchSpecSpec.post enc Try.prog Try.f5 false true false false) := by
  refine returnsInHanded_of_change (C := Try.checked) own started (by kernel_rfl) Try.func5
    (ChangeSpec.witness6 (enc := enc) (C := Try.checked) false ⟨#[], #[.int .i64 0, pgV ⟨0, false, ⟨#[]⟩, 0, false, []⟩ none 0, .slice none 0 0], []⟩ 8 (by kernel_rfl) (by kernel_rfl) (by kernel_rfl) (by kernel_rfl)) ?_
  intro W base args ds gs before hval0 hW _ _
  have hval : ∀ (j : Nat) t v, Try.f5.params[j]? = some t → args[j]? = some v → Value.okWide Try.prog W .any base t v := hval0
  have hW' := hW
  have hlt := fun x hx => hW'.lt x hx
  obtain ⟨p, q, hA0, hV, rfl, _, _⟩ := hW
  have hA : DataW.TrodAll enc Try.prog W 0 (fun _ => true) true Try.f5.params.toList args.toList ds p := hA0
  rw [Try.params5] at hA hval
  obtain ⟨v0, v1, v2, d0, d1, d2, p0, p1, p2, rfl, rfl, rfl, h0, h1, h2⟩ := trodAll_three hA
  obtain ⟨rfl, rfl⟩ := trodVars_none hV
  obtain ⟨ps, rfl, rfl, rfl, wfps⟩ := open_int Try.underlying3 (hval 0 3 v0 rfl rfl) h0
  have hbps := bounds_i64 wfps
  obtain ⟨x, Ax, cx, rfl, hNx, hLx, hCx, hBx⟩ := open_page (fun x hx => hlt x (by simp [hx])) (hval 1 40 v1 rfl rfl) h1
  obtain ⟨Ab', lenb, capb, rfl⟩ := okWide_slice Try.underlying22 (hval 2 22 v2 rfl rfl)
  obtain ⟨nb, hnb⟩ := h2
  obtain ⟨Ab, cb, b, hvb, hlcb, hcb, hBb⟩ := open_u8s (fun x hx => hlt x (by simp [hx])) hnb
  rw [hvb] at hW' ⊢
  refine (pages_any ps x Ax cx Ab cb b W hNx (by unfold maxLen at hCx; omega) hlcb (by unfold maxLen at hcb; omega) hBx hBb).mono fun e W' ⟨he, hb⟩ => ?_
  subst he
  exact ⟨_, rfl, law_post (by decide +kernel) rfl rfl hW' rfl hb⟩

set_option maxRecDepth 100000 in
theorem pages_closed : joinedFacts Try.prog 5 Try.f5 Rows.pagesMatchSpecSpec Rows.pagesMatchSpecRow = true :=
  closed_all (by as_aux_lemma => kernel_rfl) (by as_aux_lemma => kernel_rfl) (by as_aux_lemma => kernel_rfl) (by as_aux_lemma => kernel_rfl) (by as_aux_lemma => kernel_rfl) (by as_aux_lemma => kernel_rfl) (by as_aux_lemma => kernel_rfl) (by as_aux_lemma => kernel_rfl) (by as_aux_lemma => kernel_rfl) (by as_aux_lemma => kernel_rfl) (by as_aux_lemma => kernel_rfl) (by as_aux_lemma => kernel_rfl) (by as_aux_lemma => kernel_rfl) (by as_aux_lemma => kernel_rfl) (by as_aux_lemma => kernel_rfl) (by as_aux_lemma => kernel_rfl) (by as_aux_lemma => kernel_rfl) (by as_aux_lemma => kernel_rfl) pKeys (by as_aux_lemma => kernel_rfl) pLifts pMake (by as_aux_lemma => kernel_rfl) (by as_aux_lemma => kernel_rfl) (by as_aux_lemma => kernel_rfl) (by as_aux_lemma => kernel_rfl)

theorem pages_holds : Rows.PagesMatchSpecSaid :=
  OpenClaim.holds_of_wide 5 Try.f5 rfl rfl rfl rfl rfl rfl rfl ⟨rfl, rfl, rfl, rfl, rfl⟩ rfl rfl rfl rfl rfl (by kernel_rfl) Try.func5 pages_closed
    (of_decide_eq_true (by kernel_rfl)) (by unfold Func.isWrapper; first | (rw [if_pos (by decide +kernel)]; kernel_rfl) | (rw [if_neg (by decide +kernel)]; exact ⟨rfl, rfl⟩))
    (fun os started H enc _ => pages_lifted os started H enc)
#print axioms pages_holds
end Go.Proofs.Ythcijelebjgfkaa
