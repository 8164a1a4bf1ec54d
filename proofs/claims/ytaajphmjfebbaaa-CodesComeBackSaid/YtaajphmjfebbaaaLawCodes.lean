/- Code, and ReadCode of any bytes, are as the reference gives them: the law CodesMatchSpec answers true for every input. No condition. -/
import Derived.Test.YtaajphmjfebbaaaAwake
import Derived.Test.YtaajphmjfebbaaaCodes
import Derived.Test.YtaajphmjfebbaaaCodeEq
import Derived.Test.YtaajphmjfebbaaaClose
import Derived.Test.YtaajphmjfebbaaaClosed
namespace Go.Proofs.Ytaajphmjfebbaaa
open Go.ChangeShapes Go.WideShapes Go.ChangeAt Go.RowKit

theorem drawn_below {w w' : World} (h : ∃ n, w' = w.drewN n) (B : Nat) (hB : B ≤ w.heap.size) : Below B w w' := by
  obtain ⟨n, rfl⟩ := h
  exact (below_draws (Below.refl _ _) n).mono hB

set_option maxRecDepth 100000 in
set_option maxHeartbeats 1000000 in
theorem lawCodes_of (L : List UInt8) (F : Int) (z : Int) (hcode : ∀ w, Calls Try.prog 20 #[.int .i64 z] w (CodePost L F w)) (hrcode : ∀ w, Calls Try.prog 21 #[.int .i64 z] w (CodePost L F w))
    (A : Option Addr) (c : Nat) (l : List UInt8) (w : World) (h : BR w w.heap.size A l) :
    Calls Try.prog 6 #[.int .i64 z, .slice A l.length c] w fun e w' => e = .returned (.bool true) ∧ Below w.heap.size w w' := by
  have c3 := fun (w' : World) (hb : Below w.heap.size w w') => readCode_any A c l w.heap.size w' (h.below hb)
  have c4 := fun (w' : World) (hb : Below w.heap.size w w') => rreadCode_any A c l w.heap.size w' (h.below hb)
  generalize readC l = r at *
  obtain ⟨n, f⟩ := r
  have C1 := Lib.hid hcode
  have C2 := Lib.hid hrcode
  have C3 := Lib.hid c3
  have C4 := Lib.hid c4
  clear c3 c4 hcode hrcode
  go_enter Try.func6, Try.ntmps6
  go_wp2_with fail
  refine (C1.out _).mono ?_
  rintro e w1 ⟨v1, rfl, ho1, hb1⟩
  go_wp2_with fail
  refine (C2.out w1).mono ?_
  rintro e w2 ⟨v2, rfl, ho2, hb2⟩
  have g1 := hb1.trans (hb2.mono hb1.size)
  go_wp2_with fail
  refine (C3.out w2 g1).mono ?_
  rintro e w3 ⟨rfl, rfl⟩
  go_wp2_with fail
  refine (C4.out w2 g1).mono ?_
  rintro e w4 ⟨rfl, hd⟩
  have hb4 := drawn_below hd w2.heap.size (Nat.le_refl _)
  have g3 := g1.trans (hb4.mono g1.size)
  obtain ⟨A1, k1, rfl, r1⟩ := ((ho1.after hb2 (Nat.le_refl _)).after hb4 (Nat.le_refl _)).form
  obtain ⟨A2, k2, rfl, r2⟩ := (ho2.after hb4 (Nat.le_refl _)).form
  have Q1 := Lib.hid (bytesEqual_yes A1 A2 k1 k2 L w4.heap.size w4 r1 r2)
  clear r1 r2 ho1 ho2 hb1 hb2 hb4 g1 hd
  go_wp2_with fail
  refine Q1.out.mono ?_
  rintro e w5 ⟨rfl, rfl⟩
  go_wp2_with fail
  refine (awake_any _).mono ?_
  rintro e w7 ⟨rfl, hb7⟩
  go_wp2_with fail
  go_ret
  exact ⟨rfl, g3.trans (hb7.mono g3.size)⟩

theorem lawCodes_any (z : Int) (A : Option Addr) (c : Nat) (l : List UInt8) (w : World) (h : BR w w.heap.size A l) :
    Calls Try.prog 6 #[.int .i64 z, .slice A l.length c] w fun e w' => e = .returned (.bool true) ∧ Below w.heap.size w w' := by
  by_cases hz : z < 0 ∨ 1000000000000 < z
  · exact lawCodes_of [] 1 z (code_bad z hz) (rcode_bad z hz) A c l w h
  · obtain ⟨t, rfl⟩ : ∃ t : Nat, z = (t : Int) := ⟨z.toNat, by omega⟩
    exact lawCodes_of (codeB t) 0 t (code_any t (by omega)) (rcode_any t (by omega)) A c l w h

set_option maxHeartbeats 1600000 in
set_option maxRecDepth 100000 in
theorem codes_lifted (os : Os) (started : os.Started) (H : Type) (enc : TypeId × Value → H) :
    ReturnsInHanded {} Try.checked os 6 .any (Rows.codesMatchSpecSpec.pre6 enc Try.prog Try.f6 Rows.codesMatchSpecRow.domain false) (Rows.codesMatchSpecSpec.post enc Try.prog Try.f6 false true false false) := by
  refine returnsInHanded_of_change (C := Try.checked) own started (by kernel_rfl) Try.func6
    (ChangeSpec.witness6 (enc := enc) (C := Try.checked) false ⟨#[], #[.int .i64 0, .slice none 0 0], []⟩ 8 (by kernel_rfl) (by kernel_rfl) (by kernel_rfl) (by kernel_rfl)) ?_
  intro W base args ds gs before hval0 hW _ _
  have hval : ∀ (j : Nat) t v, Try.f6.params[j]? = some t → args[j]? = some v → Value.okWide Try.prog W .any base t v := hval0
  have hW' := hW
  have hlt := fun x hx => hW'.lt x hx
  obtain ⟨p, q, hA0, hV, rfl, _, _⟩ := hW
  have hA : DataW.TrodAll enc Try.prog W 0 (fun _ => true) true Try.f6.params.toList args.toList ds p := hA0
  rw [Try.params6] at hA hval
  obtain ⟨v0, v1, d0, d1, p0, p1, rfl, rfl, rfl, h0, h1⟩ := trodAll_two hA
  obtain ⟨rfl, rfl⟩ := trodVars_none hV
  obtain ⟨z, rfl, rfl, rfl, wfz⟩ := open_int Try.underlying3 (hval 0 3 v0 rfl rfl) h0
  have hbz := bounds_i64 wfz
  obtain ⟨Al', lenl, capl, rfl⟩ := okWide_slice Try.underlying22 (hval 1 22 v1 rfl rfl)
  obtain ⟨nl, hnl⟩ := h1
  obtain ⟨Al, cl, l, hvl, hlcl, hcl, hBl⟩ := open_u8s (fun x hx => hlt x (by simp [hx])) hnl
  rw [hvl] at hW' ⊢
  refine (lawCodes_any z Al cl l W hBl).mono fun e W' ⟨he, hb⟩ => ?_
  subst he
  exact ⟨_, rfl, law_post (by decide +kernel) rfl rfl hW' rfl hb⟩

set_option maxRecDepth 100000 in
theorem codes_closed : joinedFacts Try.prog 6 Try.f6 Rows.codesMatchSpecSpec Rows.codesMatchSpecRow = true :=
  closed_all (by as_aux_lemma => kernel_rfl) (by as_aux_lemma => kernel_rfl) (by as_aux_lemma => kernel_rfl) (by as_aux_lemma => kernel_rfl) (by as_aux_lemma => kernel_rfl) (by as_aux_lemma => kernel_rfl) (by as_aux_lemma => kernel_rfl) (by as_aux_lemma => kernel_rfl) (by as_aux_lemma => kernel_rfl) (by as_aux_lemma => kernel_rfl) (by as_aux_lemma => kernel_rfl) (by as_aux_lemma => kernel_rfl) (by as_aux_lemma => kernel_rfl) (by as_aux_lemma => kernel_rfl) (by as_aux_lemma => kernel_rfl) (by as_aux_lemma => kernel_rfl) (by as_aux_lemma => kernel_rfl) (by as_aux_lemma => kernel_rfl) pKeys (by as_aux_lemma => kernel_rfl) pLifts pMake (by as_aux_lemma => kernel_rfl) (by as_aux_lemma => kernel_rfl) (by as_aux_lemma => kernel_rfl) (by as_aux_lemma => kernel_rfl)

theorem codes_holds : Rows.CodesMatchSpecSaid :=
  OpenClaim.holds_of_wide 6 Try.f6 rfl rfl rfl rfl rfl rfl rfl ⟨rfl, rfl, rfl, rfl, rfl⟩ rfl rfl rfl rfl rfl (by kernel_rfl) Try.func6 codes_closed
    (of_decide_eq_true (by kernel_rfl)) (by unfold Func.isWrapper; first | (rw [if_pos (by decide +kernel)]; kernel_rfl) | (rw [if_neg (by decide +kernel)]; exact ⟨rfl, rfl⟩))
    (fun os started H enc _ => codes_lifted os started H enc)
#print axioms codes_holds
end Go.Proofs.Ytaajphmjfebbaaa
