/- CheckFlips and Rounds answer as the reference does: the law MemoryRoundsMatchSpec answers true for every input. No condition. -/
import Derived.Test.YtidddoldkedicaaAwake
import Derived.Test.YtidddoldkedicaaRRounds
import Derived.Test.YtidddoldkedicaaEqualS
import Derived.Test.YtidddoldkedicaaSame
import Derived.Test.YtidddoldkedicaaCloseF
import Derived.Test.YtidddoldkedicaaClosed
namespace Go.Proofs.Ytidddoldkedicaa
open Go.ChangeShapes Go.WideShapes Go.ChangeAt Go.RowKit

theorem rounds_lens (l l' : List Int) (e m : Int) (f : List Flp) (u : Int) (hl : l.length ≤ 9223372036854775807) (hl' : l'.length ≤ 9223372036854775807) :
    (roundsS l l' e m f u).1.1.length ≤ 9223372036854775807 ∧ (roundsS l l' e m f u).1.2.length ≤ 9223372036854775807 ∧ (roundsS l l' e m f u).2.1.length ≤ 9223372036854775807 := by
  unfold roundsS
  by_cases h1 : chkR l l' e m f u = 0
  · rw [if_pos h1]
    obtain ⟨E, M, U, rfl, rfl, rfl, hE, hM, hU, hwk, hr, hf2, hok⟩ := chk_nums h1
    have hOK := right_ok hr 0 hr.pos []
    have h3 : (runEnd E M U ⟨nats l, 0, []⟩ f).C.length = l.length := (flipU_ok _ _ _ (run_ok hOK hok _).1 (run_ok hOK hok _).2).1.len
    have h4 : (runEnd E M U ⟨nats l, 0, []⟩ f).done.length ≤ M * (U / E) := by
      have := run_done E M ⟨nats l, 0, []⟩ f (U / E)
      simpa [runEnd] using this
    rw [Nat.mul_comm] at h4
    simp only [Int.toNat_natCast, ints_len]
    omega
  · rw [if_neg h1]
    simp
set_option maxRecDepth 100000 in
set_option maxHeartbeats 2000000 in
theorem lawRounds_any (A A' Af : Option Addr) (c c' cf : Nat) (l l' : List Int) (e m : Int) (f : List Flp) (u : Int) (w : World) (hl : l.length ≤ 9223372036854775807) (hl' : l'.length ≤ 9223372036854775807) (hfl : f.length ≤ cf) (hcf : cf ≤ maxLen) (h : IR w w.heap.size A l) (h' : IR w w.heap.size A' l') (hf : FR w w.heap.size Af f) :
    Calls Try.prog 9 #[bankV A A' l.length l'.length c c', .agg #[.int .i64 e, .int .i64 m], .slice Af f.length cf, .int .i64 u] w fun e w' => e = .returned (.bool true) ∧ Below w.heap.size w w' := by
  have hfl2 : f.length ≤ 9223372036854775807 := by unfold maxLen at hcf; omega
  have C1 := Lib.hid (fun (w1 : World) (hb : Below w.heap.size w w1) => rounds_any A A' Af c c' cf l l' e m f u w.heap.size w1 hb.size hl hl' hfl hcf (h.below hb) (h'.below hb) (hf.below hb))
  have C2 := Lib.hid (fun (w1 : World) (hb : Below w.heap.size w w1) => rrounds_any A A' Af c c' cf l l' e m f u w.heap.size w1 hb.size hl hl' hfl hcf (h.below hb) (h'.below hb) (hf.below hb))
  have C3 := Lib.hid (fun (w1 : World) (hb : Below w.heap.size w w1) => checkFlips_any A A' Af c c' cf l l' f w.heap.size w1 hb.size hl hl' hfl2 (h.below hb) (h'.below hb) (hf.below hb))
  have C4 := Lib.hid (fun (w1 : World) (hb : Below w.heap.size w w1) => rcheckFlips_any A A' Af c c' cf l l' f w.heap.size w1 hb.size hl hl' hfl2 (h.below hb) (h'.below hb) (hf.below hb))
  have hlens := rounds_lens l l' e m f u hl hl'
  generalize chkF l l' f = K at *
  generalize roundsS l l' e m f u = Z at *
  obtain ⟨⟨X, X'⟩, S, F⟩ := Z
  unfold ScrubPost at C1 C2
  unfold bankV at C1 C2 C3 C4 ⊢
  simp only at hlens C1 C2
  obtain ⟨w0, hw0⟩ : ∃ w0, (w.alloc (.cells #[.slice A l.length c, .slice A' l'.length c'] 33)).alloc (.cells #[.int .i64 e, .int .i64 m] 48) = w0 := ⟨_, rfl⟩
  obtain ⟨b0, z0, h0, hx0⟩ := boxes2_held _ _ _ _ w w0 hw0
  clear h h' hf
  obtain ⟨p1, p2⟩ := h0.cells
  obtain ⟨p3, p4⟩ := rcells (w := w0) rfl hx0
  have C1' := Lib.hid (C1.out w0 b0)
  have HW0 := Lib.hid hw0
  clear hw0
  go_enter Try.func9, Try.ntmps9
  go_upto_region 1 with fail
  rw [HW0.out]
  go_wp2_with fail
  refine C1'.out.mono ?_
  rintro e' w1 ⟨D, D', k, k', G, q, rfl, i1, i1', i1'', hb1, -, -, -⟩
  clear HW0 p1 p2 p3 p4 C1 C1'
  have bx1 := b0.trans (hb1.mono (by omega))
  have s1 := hb1.size
  generalize hwa : w1.alloc (.cells #[.slice D X.length k, .slice D' X'.length k'] 33) = wa
  have ba : Below w1.heap.size w1 wa := by rw [← hwa]; exact box_below _ _
  have za : wa.heap.size = w1.heap.size + 1 := by rw [← hwa]; simp
  have ba0 : Below w0.heap.size w0 wa := hb1.trans (ba.mono s1)
  have g0 := h0.below ba0 (by omega)
  have g9 : HeldB wa w1.heap.size (.slice D X.length k) (.slice D' X'.length k') := by rw [← hwa]; exact HeldB.new _ _ _
  have bxa := bx1.trans (ba.mono (by omega))
  have C2' := Lib.hid (C2.out wa bxa)
  obtain ⟨p1, p2⟩ := g0.cells
  obtain ⟨p3, p4⟩ := rcells (ba0.block (w.heap.size + 1) (by omega)) hx0
  go_wp2_with fail
  refine C2'.out.mono ?_
  rintro e' w2 ⟨E, E', r, r', G2, q2, rfl, i2, i2', i2'', hb2, -, -, -⟩
  clear hwa p1 p2 p3 p4 C2 C2'
  have s2 := hb2.size
  generalize hwb : w2.alloc (.cells #[.slice E X.length r, .slice E' X'.length r'] 33) = wb
  have bb : Below w2.heap.size w2 wb := by rw [← hwb]; exact box_below _ _
  have zb : wb.heap.size = w2.heap.size + 1 := by rw [← hwb]; simp
  have j0 := (g0.below hb2 (by omega)).below bb (by omega)
  have j9 := (g9.below hb2 (by omega)).below bb (by omega)
  have j11 : HeldB wb w2.heap.size (.slice E X.length r) (.slice E' X'.length r') := by rw [← hwb]; exact HeldB.new _ _ _
  have bxb := (bxa.trans (hb2.mono (by omega))).trans (bb.mono (by omega))
  have f1 : IR wb wb.heap.size D X := (((i1.below ba).below (hb2.mono (by omega))).below (bb.mono (by omega))).lift (by omega)
  have f1' : IR wb wb.heap.size D' X' := (((i1'.below ba).below (hb2.mono (by omega))).below (bb.mono (by omega))).lift (by omega)
  have f1'' : SR wb wb.heap.size G S := (((i1''.below ba).below (hb2.mono (by omega))).below (bb.mono (by omega))).lift (by omega)
  have f2 : IR wb wb.heap.size E X := (i2.below bb).lift (by omega)
  have f2' : IR wb wb.heap.size E' X' := (i2'.below bb).lift (by omega)
  have f2'' : SR wb wb.heap.size G2 S := (i2''.below bb).lift (by omega)
  have HSM := Lib.hid (fun (w1 : World) (hb : Below wb.heap.size wb w1) => (same_yes D D' E E' k k' r r' X X' wb.heap.size w1 hb.size hlens.1 hlens.2.1 (f1.below hb) (f1'.below hb) (f2.below hb) (f2'.below hb)).mono fun e w' ⟨he, h2⟩ => (⟨he, hb.trans (h2.mono hb.size)⟩ : e = Ending.returned (.bool true) ∧ Below wb.heap.size wb w'))
  have HEQ := Lib.hid (fun (w1 : World) (hb : Below wb.heap.size wb w1) => (equalS_yes G G2 q q2 S wb.heap.size w1 hlens.2.2 (f1''.below hb) (f2''.below hb)).mono fun e w' ⟨he, h2⟩ => (⟨he, hb.trans (h2.mono hb.size)⟩ : e = Ending.returned (.bool true) ∧ Below wb.heap.size wb w'))
  have HCB := Lib.hid (fun (w1 : World) (hb : Below wb.heap.size wb w1) => (C3.out w1 (bxb.trans (hb.mono (by omega)))).mono fun e w' ⟨he, h2⟩ => (⟨he, hb.trans (h2.mono hb.size)⟩ : e = Ending.returned (.int .i64 K) ∧ Below wb.heap.size wb w'))
  have HCR := Lib.hid (fun (w1 : World) (hb : Below wb.heap.size wb w1) => (C4.out w1 (bxb.trans (hb.mono (by omega)))).mono fun e w' ⟨he, h2⟩ => (⟨he, hb.trans (h2.mono hb.size)⟩ : e = Ending.returned (.int .i64 K) ∧ Below wb.heap.size wb w'))
  have HAW := Lib.hid (fun (w1 : World) (hb : Below wb.heap.size wb w1) => (awake_any w1).mono fun e w' ⟨he, h2⟩ => (⟨he, by rw [← h2]; exact hb⟩ : e = Ending.returned (.bool true) ∧ Below wb.heap.size wb w'))
  unfold bankV at HSM
  have hS : ∀ w', Below wb.heap.size wb w' → (w'.cell? ⟨w.heap.size, 0, none⟩ = some (.slice A l.length c) ∧ w'.cell? ⟨w.heap.size, 1, none⟩ = some (.slice A' l'.length c') ∧ w'.cell? ⟨w1.heap.size, 0, none⟩ = some (.slice D X.length k) ∧ w'.cell? ⟨w1.heap.size, 1, none⟩ = some (.slice D' X'.length k') ∧ w'.cell? ⟨w2.heap.size, 0, none⟩ = some (.slice E X.length r) ∧ w'.cell? ⟨w2.heap.size, 1, none⟩ = some (.slice E' X'.length r')) := fun w' hb =>
    have q0 := j0.below hb (by omega)
    have q9 := j9.below hb (by omega)
    have q11 := j11.below hb (by omega)
    ⟨q0.cells.1, q0.cells.2, q9.cells.1, q9.cells.2, q11.cells.1, q11.cells.2⟩
  have HSS := Lib.hid hS
  clear hS C3 C4
  have hbb : Below wb.heap.size wb wb := Below.refl _ _
  have hkk : (K == K) = true := by simp
  have hff : (F == F) = true := by simp
  have HWB := Lib.hid hwb
  clear hwb
  go_upto_region 3 with fail
  rw [HWB.out]
  go_region_held3 (fun w' => w'.cell? ⟨w.heap.size, 0, none⟩ = some (.slice A l.length c) ∧ w'.cell? ⟨w.heap.size, 1, none⟩ = some (.slice A' l'.length c') ∧ w'.cell? ⟨w1.heap.size, 0, none⟩ = some (.slice D X.length k) ∧ w'.cell? ⟨w1.heap.size, 1, none⟩ = some (.slice D' X'.length k') ∧ w'.cell? ⟨w2.heap.size, 0, none⟩ = some (.slice E X.length r) ∧ w'.cell? ⟨w2.heap.size, 1, none⟩ = some (.slice E' X'.length r'))
    (first | with_reducible exact HSS.out _ hbb | with_reducible exact HSS.out _ hbb.drew | with_reducible exact HSS.out _ (by assumption) | with_reducible exact HSS.out _ (Below.drew (by assumption)))
    (first
     | (go_at_call 38
        with_reducible refine (HCB.out _ ?_).mono ?_
        · first | with_reducible exact hbb.drew | with_reducible exact hbb
        rintro e w3 ⟨rfl, hb3⟩)
     | (go_at_call 39
        with_reducible refine (HCR.out _ ?_).mono ?_
        · first | with_reducible exact hb3.drew | with_reducible exact hb3
        rintro e w4 ⟨rfl, hb4⟩)
     | (go_at_call 28
        with_reducible refine (HSM.out _ ?_).mono ?_
        · first | with_reducible exact hb4.drew | with_reducible exact hb4
        rintro e w5 ⟨rfl, hb5⟩)
     | (go_at_call 35
        with_reducible refine (HEQ.out _ ?_).mono ?_
        · first | with_reducible exact hb5.drew | with_reducible exact hb5
        rintro e w6 ⟨rfl, hb6⟩)
     | (go_at_call 22
        with_reducible refine (HAW.out _ ?_).mono ?_
        · first | with_reducible exact hb6.drew | with_reducible exact hb6
        rintro e w7 ⟨rfl, hb7⟩))
  have bx7 := bxb.trans (hb7.mono (by omega))
  go_wp2_with fail
  go_ret
  exact ⟨rfl, bx7⟩

set_option maxHeartbeats 1600000 in
set_option maxRecDepth 100000 in
theorem roundsL_lifted (os : Os) (started : os.Started) (H : Type) (enc : TypeId × Value → H) :
    ReturnsInHanded {} Try.checked os 9 .any (Rows.memoryRoundsMatchSpecSpec.pre6 enc Try.prog Try.f9 Rows.memoryRoundsMatchSpecRow.domain false) (Rows.memoryRoundsMatchSpecSpec.post enc Try.prog Try.f9 false true false false) := by
  refine returnsInHanded_of_change (C := Try.checked) own started (by kernel_rfl) Try.func9
    (ChangeSpec.witness6 (enc := enc) (C := Try.checked) false ⟨#[], #[.agg #[.slice none 0 0, .slice none 0 0], .agg #[.int .i64 0, .int .i64 0], .slice none 0 0, .int .i64 0], []⟩ 8 (by kernel_rfl) (by kernel_rfl) (by kernel_rfl) (by kernel_rfl)) ?_
  intro W base args ds gs before hval0 hW _ _
  have hval : ∀ (j : Nat) t v, Try.f9.params[j]? = some t → args[j]? = some v → Value.okWide Try.prog W .any base t v := hval0
  have hW' := hW
  have hlt := fun x hx => hW'.lt x hx
  obtain ⟨p, q, hA0, hV, rfl, _, _⟩ := hW
  have hA : DataW.TrodAll enc Try.prog W 0 (fun _ => true) true Try.f9.params.toList args.toList ds p := hA0
  rw [Try.params9] at hA hval
  obtain ⟨v0, v1, v2, v3, d0, d1, d2, d3, p0, p1, p2, p3, rfl, rfl, rfl, h0, h1, h2, h3⟩ := trodAll_four hA
  obtain ⟨rfl, rfl⟩ := trodVars_none hV
  obtain ⟨Ab, Ab', cb, cb', b, b', rfl, hlb, hlb', hBb, hBb'⟩ := open_bank (fun x hx => hlt x (by simp [hx])) (hval 0 33 v0 rfl rfl) h0
  obtain ⟨re, rm, rfl, hbre, hbrm⟩ := open_round (hval 1 48 v1 rfl rfl) h1
  obtain ⟨Af', lenf, capf, rfl⟩ := okWide_slice Try.underlying49 (hval 2 49 v2 rfl rfl)
  obtain ⟨nf, hnf⟩ := h2
  obtain ⟨Af, cf, f, hvf, hlcf, hcf, hBf, hIf⟩ := open_flips (fun x hx => hlt x (by simp [hx])) hnf
  obtain ⟨n, rfl, rfl, rfl, wfn⟩ := open_int Try.underlying3 (hval 3 3 v3 rfl rfl) h3
  have hbn := bounds_i64 wfn
  rw [hvf] at hW' ⊢
  refine (lawRounds_any Ab Ab' Af cb cb' cf b b' re rm f n W hlb hlb' hlcf hcf hBb hBb' hBf).mono fun e W' ⟨he, hb⟩ => ?_
  subst he
  exact ⟨_, rfl, law_post (by decide +kernel) rfl rfl hW' rfl hb⟩

set_option maxRecDepth 100000 in
theorem roundsL_closed : joinedFacts Try.prog 9 Try.f9 Rows.memoryRoundsMatchSpecSpec Rows.memoryRoundsMatchSpecRow = true :=
  closed_all (by as_aux_lemma => kernel_rfl) (by as_aux_lemma => kernel_rfl) (by as_aux_lemma => kernel_rfl) (by as_aux_lemma => kernel_rfl) (by as_aux_lemma => kernel_rfl) (by as_aux_lemma => kernel_rfl) (by as_aux_lemma => kernel_rfl) (by as_aux_lemma => kernel_rfl) (by as_aux_lemma => kernel_rfl) (by as_aux_lemma => kernel_rfl) (by as_aux_lemma => kernel_rfl) (by as_aux_lemma => kernel_rfl) (by as_aux_lemma => kernel_rfl) (by as_aux_lemma => kernel_rfl) (by as_aux_lemma => kernel_rfl) (by as_aux_lemma => kernel_rfl) (by as_aux_lemma => kernel_rfl) (by as_aux_lemma => kernel_rfl) pKeys (by as_aux_lemma => kernel_rfl) pLifts pMake (by as_aux_lemma => kernel_rfl) (by as_aux_lemma => kernel_rfl) (by as_aux_lemma => kernel_rfl) (by as_aux_lemma => kernel_rfl)

theorem roundsL_holds : Rows.MemoryRoundsMatchSpecSaid :=
  OpenClaim.holds_of_wide 9 Try.f9 rfl rfl rfl rfl rfl rfl rfl ⟨rfl, rfl, rfl, rfl, rfl⟩ rfl rfl rfl rfl rfl (by kernel_rfl) Try.func9 roundsL_closed
    (of_decide_eq_true (by kernel_rfl)) (by unfold Func.isWrapper; first | (rw [if_pos (by decide +kernel)]; kernel_rfl) | (rw [if_neg (by decide +kernel)]; exact ⟨rfl, rfl⟩))
    (fun os started H enc _ => roundsL_lifted os started H enc)
#print axioms roundsL_holds
end Go.Proofs.Ytidddoldkedicaa
