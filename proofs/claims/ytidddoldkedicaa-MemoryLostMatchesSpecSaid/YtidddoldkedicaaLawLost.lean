/- Lost and Wrong answer as the reference's do: the law MemoryLostMatchesSpec answers true for every input. No condition. -/
import Derived.Test.YtidddoldkedicaaAwake
import Derived.Test.YtidddoldkedicaaRLostW
import Derived.Test.YtidddoldkedicaaEqualI
import Derived.Test.YtidddoldkedicaaCloseF
import Derived.Test.YtidddoldkedicaaClosed
namespace Go.Proofs.Ytidddoldkedicaa
open Go.ChangeShapes Go.WideShapes Go.ChangeAt Go.RowKit

set_option maxRecDepth 100000 in
set_option maxHeartbeats 2000000 in
theorem lawLost_any (A A' Af : Option Addr) (c c' cf : Nat) (l l' : List Int) (e m : Int) (f : List Flp) (u : Int) (w : World) (hl : l.length ≤ 9223372036854775807) (hl' : l'.length ≤ 9223372036854775807) (hfl : f.length ≤ cf) (hcf : cf ≤ maxLen) (h : IR w w.heap.size A l) (h' : IR w w.heap.size A' l') (hf : FR w w.heap.size Af f) :
    Calls Try.prog 10 #[bankV A A' l.length l'.length c c', .agg #[.int .i64 e, .int .i64 m], .slice Af f.length cf, .int .i64 u] w fun e w' => e = .returned (.bool true) ∧ Below w.heap.size w w' := by
  have C1 := Lib.hid (fun (w1 : World) (hb : Below w.heap.size w w1) => lost_any A A' Af c c' cf l l' e m f u w.heap.size w1 hb.size hl hl' hfl hcf (h.below hb) (h'.below hb) (hf.below hb))
  have C2 := Lib.hid (fun (w1 : World) (hb : Below w.heap.size w w1) => rLost_any A A' Af c c' cf l l' e m f u w.heap.size w1 hb.size hl hl' hfl hcf (h.below hb) (h'.below hb) (hf.below hb))
  have C3 := Lib.hid (fun (w1 : World) (hb : Below w.heap.size w w1) => wrong_any A A' Af c c' cf l l' e m f u w.heap.size w1 hb.size hl hl' hfl hcf (h.below hb) (h'.below hb) (hf.below hb))
  have C4 := Lib.hid (fun (w1 : World) (hb : Below w.heap.size w w1) => rWrong_any A A' Af c c' cf l l' e m f u w.heap.size w1 hb.size hl hl' hfl hcf (h.below hb) (h'.below hb) (hf.below hb))
  have hlens := (roundsS_lens l l' e m f u).1
  have hz1 := lostT_len (roundsS l l' e m f u).1.1 (roundsS l l' e m f u).1.1.length
  have hz2 := wrongT_len (roundsS l l' e m f u).1.1 (roundsS l l' e m f u).1.2 (roundsS l l' e m f u).1.1.length
  generalize lostT (roundsS l l' e m f u).1.1 (roundsS l l' e m f u).1.1.length = P1 at *
  generalize wrongT (roundsS l l' e m f u).1.1 (roundsS l l' e m f u).1.2 (roundsS l l' e m f u).1.1.length = P2 at *
  generalize (roundsS l l' e m f u).2.2 = F at *
  have hP1 : P1.length ≤ 9223372036854775807 := by omega
  have hP2 : P2.length ≤ 9223372036854775807 := by omega
  clear hlens hz1 hz2
  unfold PlacesPost bankV at C1 C2 C3 C4
  unfold bankV
  simp only at C1 C2 C3 C4
  obtain ⟨w0, hw0⟩ : ∃ w0, (w.alloc (.cells #[.slice A l.length c, .slice A' l'.length c'] 33)).alloc (.cells #[.int .i64 e, .int .i64 m] 48) = w0 := ⟨_, rfl⟩
  obtain ⟨b0, z0, h0, hx0⟩ := boxes2_held _ _ _ _ w w0 hw0
  clear h h' hf
  have hcells : ∀ w', Below w0.heap.size w0 w' → (w'.cell? ⟨w.heap.size, 0, none⟩ = some (.slice A l.length c) ∧ w'.cell? ⟨w.heap.size, 1, none⟩ = some (.slice A' l'.length c')) ∧ (w'.cell? ⟨w.heap.size + 1, 0, none⟩ = some (.int .i64 e) ∧ w'.cell? ⟨w.heap.size + 1, 1, none⟩ = some (.int .i64 m)) := fun w' hb =>
    ⟨(h0.below hb (by omega)).cells, rcells (w := w') rfl ((hb.block (w.heap.size + 1) (by omega)).trans hx0)⟩
  have HCL := Lib.hid hcells
  clear hcells hx0 h0
  obtain ⟨⟨p1, p2⟩, p3, p4⟩ := HCL.out w0 (Below.refl _ _)
  have C1' := Lib.hid (C1.out w0 b0)
  have HW0 := Lib.hid hw0
  clear hw0 C1
  have hff : (F != F) = false := by simp
  have hfe : (F == F) = true := by simp
  go_enter Try.func10, Try.ntmps10
  go_upto_region 1 with fail
  rw [HW0.out]
  go_wp2_with fail
  refine C1'.out.mono ?_
  rintro e' w1 ⟨D, k, rfl, i1, hb1⟩
  clear HW0 p1 p2 p3 p4 C1'
  have d1 : Below w0.heap.size w0 w1 := hb1
  have bx1 := b0.trans (d1.mono (by omega))
  obtain ⟨⟨p1, p2⟩, p3, p4⟩ := HCL.out w1 d1
  have C2' := Lib.hid (C2.out w1 bx1)
  clear C2
  go_wp2_with fail
  refine C2'.out.mono ?_
  rintro e' w2 ⟨E, r, rfl, i2, hb2⟩
  clear p1 p2 p3 p4 C2'
  have s1 := hb1.size
  have s2 := hb2.size
  have d2 : Below w0.heap.size w0 w2 := d1.trans (hb2.mono s1)
  have HEQ := Lib.hid (fun (w' : World) (hb : Below w2.heap.size w2 w') => (equalI_yes D E k r P1 w2.heap.size w' hP1 (((i1.below hb2).lift s2).below hb) (i2.below hb)).mono fun e w'' ⟨he, h2⟩ => (⟨he, hb.trans (h2.mono hb.size)⟩ : e = Ending.returned (.bool true) ∧ Below w2.heap.size w2 w''))
  have r2 : Below w2.heap.size w2 w2 := Below.refl _ _
  go_wp2_with (first
    | (go_at_call 42
       with_reducible refine (HEQ.out _ ?_).mono ?_
       · first | with_reducible exact r2 | with_reducible exact r2.drew
       rintro e w3 ⟨rfl, hb3⟩
       have d3 : Below w0.heap.size w0 w3 := d2.trans (hb3.mono d2.size)
       obtain ⟨⟨p1, p2⟩, p3, p4⟩ := HCL.out w3 d3)
    | (go_at_call 43
       with_reducible refine (C3.out _ ?_).mono ?_
       · first | exact b0.trans (Below.mono d3 (by omega)) | exact b0.trans (Below.mono d3.drew (by omega))
       rintro e w4 ⟨D2, k2, rfl, i4, hb4⟩
       have d4 : Below w0.heap.size w0 w4 := by first | exact d3.trans (hb4.mono d3.size) | exact d3.drew.trans (hb4.mono d3.drew.size)
       obtain ⟨⟨p1, p2⟩, p3, p4⟩ := HCL.out w4 d4
       have t4 := hb4.size)
    | (go_at_call 44
       with_reducible refine (C4.out _ ?_).mono ?_
       · first | exact b0.trans (Below.mono d4 (by omega)) | exact b0.trans (Below.mono d4.drew (by omega))
       rintro e w5 ⟨E2, r2', rfl, i5, hb5⟩
       have d5 : Below w0.heap.size w0 w5 := by first | exact d4.trans (hb5.mono d4.size) | exact d4.drew.trans (hb5.mono d4.drew.size)
       have t5 := hb5.size)
    | (go_at_call 42
       with_reducible refine (equalI_yes D2 E2 k2 r2' P2 w5.heap.size _ hP2 ?_ ?_).mono ?_
       · first | exact (i4.below hb5).lift t5 | exact ((i4.below hb5).lift t5).below (Below.refl _ _).drew
       · first | exact i5 | exact i5.below (Below.refl _ _).drew
       rintro e w6 ⟨rfl, hb6⟩
       have d6 : Below w0.heap.size w0 w6 := by first | exact d5.trans (hb6.mono d5.size) | exact d5.drew.trans (hb6.mono d5.drew.size))
    | (go_at_call 22
       with_reducible refine (awake_any _).mono ?_
       rintro e w7 ⟨rfl, hq⟩
       have d7 : Below w0.heap.size w0 w7 := by rw [← hq]; first | exact d6 | exact d6.drew)
    | fail)
  go_ret
  exact ⟨rfl, b0.trans (d7.mono (by omega))⟩

set_option maxHeartbeats 1600000 in
set_option maxRecDepth 100000 in
theorem lostL_lifted (os : Os) (started : os.Started) (H : Type) (enc : TypeId × Value → H) :
    ReturnsInHanded {} Try.checked os 10 .any (Rows.memoryLostMatchesSpecSpec.pre6 enc Try.prog Try.f10 Rows.memoryLostMatchesSpecRow.domain false) (Rows.memoryLostMatchesSpecSpec.post enc Try.prog Try.f10 false true false false) := by
  refine returnsInHanded_of_change (C := Try.checked) own started (by kernel_rfl) Try.func10
    (ChangeSpec.witness6 (enc := enc) (C := Try.checked) false ⟨#[], #[.agg #[.slice none 0 0, .slice none 0 0], .agg #[.int .i64 0, .int .i64 0], .slice none 0 0, .int .i64 0], []⟩ 8 (by kernel_rfl) (by kernel_rfl) (by kernel_rfl) (by kernel_rfl)) ?_
  intro W base args ds gs before hval0 hW _ _
  have hval : ∀ (j : Nat) t v, Try.f10.params[j]? = some t → args[j]? = some v → Value.okWide Try.prog W .any base t v := hval0
  have hW' := hW
  have hlt := fun x hx => hW'.lt x hx
  obtain ⟨p, q, hA0, hV, rfl, _, _⟩ := hW
  have hA : DataW.TrodAll enc Try.prog W 0 (fun _ => true) true Try.f10.params.toList args.toList ds p := hA0
  rw [Try.params10] at hA hval
  obtain ⟨v0, v1, v2, v3, d0, d1, d2, d3, p0, p1, p2, p3, rfl, rfl, rfl, h0, h1, h2, h3⟩ := trodAll_four hA
  obtain ⟨rfl, rfl⟩ := trodVars_none hV
  obtain ⟨Ab, Ab', cb, cb', b, b', rfl, hlb, hlb', hBb, hBb'⟩ := open_bank (fun x hx => hlt x (by simp [hx])) (hval 0 33 v0 rfl rfl) h0
  obtain ⟨re, rm, rfl, hbre, hbrm⟩ := open_round (hval 1 48 v1 rfl rfl) h1
  obtain ⟨Af', lenf, capf, rfl⟩ := okWide_slice Try.underlying49 (hval 2 49 v2 rfl rfl)
  obtain ⟨nf, hnf⟩ := h2
  obtain ⟨Af, cf, f, hvf, hlcf, hcf, hBf, hIf⟩ := open_flips (fun x hx => hlt x (by simp [hx])) hnf
  obtain ⟨n, rfl, rfl, rfl, wfn⟩ := open_int Try.underlying3 (hval 3 3 v3 rfl rfl) h3
  have hbn := bounds_i64 wfn
  rw [hvf] at hW' ⊢
  refine (lawLost_any Ab Ab' Af cb cb' cf b b' re rm f n W hlb hlb' hlcf hcf hBb hBb' hBf).mono fun e W' ⟨he, hb⟩ => ?_
  subst he
  exact ⟨_, rfl, law_post (by decide +kernel) rfl rfl hW' rfl hb⟩

set_option maxRecDepth 100000 in
theorem lostL_closed : joinedFacts Try.prog 10 Try.f10 Rows.memoryLostMatchesSpecSpec Rows.memoryLostMatchesSpecRow = true :=
  closed_all (by as_aux_lemma => kernel_rfl) (by as_aux_lemma => kernel_rfl) (by as_aux_lemma => kernel_rfl) (by as_aux_lemma => kernel_rfl) (by as_aux_lemma => kernel_rfl) (by as_aux_lemma => kernel_rfl) (by as_aux_lemma => kernel_rfl) (by as_aux_lemma => kernel_rfl) (by as_aux_lemma => kernel_rfl) (by as_aux_lemma => kernel_rfl) (by as_aux_lemma => kernel_rfl) (by as_aux_lemma => kernel_rfl) (by as_aux_lemma => kernel_rfl) (by as_aux_lemma => kernel_rfl) (by as_aux_lemma => kernel_rfl) (by as_aux_lemma => kernel_rfl) (by as_aux_lemma => kernel_rfl) (by as_aux_lemma => kernel_rfl) pKeys (by as_aux_lemma => kernel_rfl) pLifts pMake (by as_aux_lemma => kernel_rfl) (by as_aux_lemma => kernel_rfl) (by as_aux_lemma => kernel_rfl) (by as_aux_lemma => kernel_rfl)

theorem lostL_holds : Rows.MemoryLostMatchesSpecSaid :=
  OpenClaim.holds_of_wide 10 Try.f10 rfl rfl rfl rfl rfl rfl rfl ⟨rfl, rfl, rfl, rfl, rfl⟩ rfl rfl rfl rfl rfl (by kernel_rfl) Try.func10 lostL_closed
    (of_decide_eq_true (by kernel_rfl)) (by unfold Func.isWrapper; first | (rw [if_pos (by decide +kernel)]; kernel_rfl) | (rw [if_neg (by decide +kernel)]; exact ⟨rfl, rfl⟩))
    (fun os started H enc _ => lostL_lifted os started H enc)
#print axioms lostL_holds
end Go.Proofs.Ytidddoldkedicaa
