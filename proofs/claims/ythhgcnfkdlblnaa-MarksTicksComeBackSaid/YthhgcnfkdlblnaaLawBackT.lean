/- The tick of the time of a tick is not greater than this: the law MarksTicksComeBack answers true for every input. No condition. -/
import Derived.Test.YthhgcnfkdlblnaaLawLeast
namespace Go.Proofs.Ythhgcnfkdlblnaa
open Go.ChangeShapes Go.WideShapes Go.ChangeAt Go.RowKit

theorem tick_back {l : List Mk} {n a t F : Int} (h : TimeR l n (a, 0)) (h' : TickR l a (t, F)) : F = 0 ∧ t ≤ n := by
  obtain ⟨c, p, pa⟩ := h.ok
  obtain ⟨-, hn, hg⟩ := ckN_ok c
  have c' := ckN_in c pa
  have hs := hg.2.2.2
  rcases h' with ⟨d, _⟩ | ⟨_, ⟨u, e, h0, h1, h2, h3⟩ | ⟨e, q⟩⟩
  · exact absurd c' d
  · injection e with e1 e2
    subst e1
    refine ⟨e2, ?_⟩
    rcases h3 with h3 | h3
    · omega
    · rcases Int.lt_or_le n t with hlt | hge
      · obtain ⟨x, hx⟩ := time_exists hg (t - 1)
        have := TimeP.mono hs p hx (by omega)
        have := h3 x hx
        omega
      · exact hge
  · exfalso
    obtain ⟨x, hx⟩ := time_exists hg 1000000000000
    have := TimeP.mono hs p hx hn.2
    have := q x hx
    omega
set_option maxRecDepth 100000 in
set_option maxHeartbeats 2000000 in
theorem lawBackT_any (A : Option Addr) (c : Nat) (l : List Mk) (n : Int) (w : World) (hl : l.length ≤ 9223372036854775807) (hA : MR w w.heap.size A l) :
    Calls Try.prog 9 #[.slice A l.length c, .int .i64 n] w fun e w' => e = .returned (.bool true) ∧ Below w.heap.size w w' := by
  have HT := Lib.hid (timeOf_any A c l n w hl hA)
  have HK := Lib.hid (fun (w' : World) (hb : Below w.heap.size w w') (z : Int) => tickOf_any A c l z w' hl ((hA.below hb).lift hb.size))
  clear hA
  unfold TimeOfPost at HT
  unfold TickOfPost at HK
  go_enter Try.func9, Try.ntmps9
  go_wp2_with fail
  refine HT.out.mono ?_
  rintro e w1 ⟨⟨a, F, rfl, ha⟩, hb1⟩
  by_cases hF : F = 0
  · subst hF
    have HAT := Lib.hid ha
    clear ha
    go_wp2_with fail
    refine (HK.out w1 hb1 a).mono ?_
    rintro e w2 ⟨⟨t, G, rfl, ht⟩, hb2⟩
    have g2 := hb1.trans (hb2.mono hb1.size)
    obtain ⟨rfl, hle⟩ := tick_back HAT.out ht
    have t1 : decide (t ≤ n) = true := by simpa using hle
    clear ht hb2
    go_wp2_with fail
    refine (awake_any _).mono ?_
    rintro e w4 ⟨rfl, hb4⟩
    go_wp2_with fail
    go_ret
    exact ⟨rfl, g2.trans (hb4.mono g2.size)⟩
  · have h0 := ha.zero hF
    subst h0
    have hF1 : ((F : Int) != 0) = true := by simpa using hF
    clear ha hF
    go_wp2_with fail
    refine (awake_any _).mono ?_
    rintro e w2 ⟨rfl, hb2⟩
    go_wp2_with fail
    go_ret
    exact ⟨rfl, hb1.trans (hb2.mono hb1.size)⟩

set_option maxHeartbeats 1600000 in
set_option maxRecDepth 100000 in
theorem backT_lifted (os : Os) (started : os.Started) (H : Type) (enc : TypeId × Value → H) :
    ReturnsInHanded {} Try.checked os 9 .any (Rows.marksTicksComeBackSpec.pre6 enc Try.prog Try.f9 Rows.marksTicksComeBackRow.domain false) (Rows.marksTicksComeBackSpec.post enc Try.prog Try.f9 false true false false) := by
  refine returnsInHanded_of_change (C := Try.checked) own started (by kernel_rfl) Try.func9
    (ChangeSpec.witness6 (enc := enc) (C := Try.checked) false ⟨#[], #[.slice none 0 0, .int .i64 0], []⟩ 8 (by kernel_rfl) (by kernel_rfl) (by kernel_rfl) (by kernel_rfl)) ?_
  intro W base args ds gs before hval0 hW _ _
  have hval : ∀ (j : Nat) t v, Try.f9.params[j]? = some t → args[j]? = some v → Value.okWide Try.prog W .any base t v := hval0
  have hW' := hW
  have hlt := fun x hx => hW'.lt x hx
  obtain ⟨p, q, hA0, hV, rfl, _, _⟩ := hW
  have hA : DataW.TrodAll enc Try.prog W 0 (fun _ => true) true Try.f9.params.toList args.toList ds p := hA0
  rw [Try.params9] at hA hval
  obtain ⟨v0, v1, d0, d1, p0, p1, rfl, rfl, rfl, h0, h1⟩ := trodAll_two hA
  obtain ⟨rfl, rfl⟩ := trodVars_none hV
  obtain ⟨Am', lenm, capm, rfl⟩ := okWide_slice Try.underlying31 (hval 0 31 v0 rfl rfl)
  obtain ⟨nm, hnm⟩ := h0
  obtain ⟨Am, cm, m, hvm, hlcm, hcm, hBm, hIm⟩ := open_marks (fun x hx => hlt x (by simp [hx])) hnm
  obtain ⟨n, rfl, rfl, rfl, wfn⟩ := open_int Try.underlying3 (hval 1 3 v1 rfl rfl) h1
  have hbn := bounds_i64 wfn
  rw [hvm] at hW' ⊢
  refine (lawBackT_any Am cm m n W (by unfold maxLen at hcm; omega) hBm).mono fun e W' ⟨he, hb⟩ => ?_
  subst he
  exact ⟨_, rfl, law_post (by decide +kernel) rfl rfl hW' rfl hb⟩

set_option maxRecDepth 100000 in
theorem backT_closed : joinedFacts Try.prog 9 Try.f9 Rows.marksTicksComeBackSpec Rows.marksTicksComeBackRow = true :=
  closed_all (by as_aux_lemma => kernel_rfl) (by as_aux_lemma => kernel_rfl) (by as_aux_lemma => kernel_rfl) (by as_aux_lemma => kernel_rfl) (by as_aux_lemma => kernel_rfl) (by as_aux_lemma => kernel_rfl) (by as_aux_lemma => kernel_rfl) (by as_aux_lemma => kernel_rfl) (by as_aux_lemma => kernel_rfl) (by as_aux_lemma => kernel_rfl) (by as_aux_lemma => kernel_rfl) (by as_aux_lemma => kernel_rfl) (by as_aux_lemma => kernel_rfl) (by as_aux_lemma => kernel_rfl) (by as_aux_lemma => kernel_rfl) (by as_aux_lemma => kernel_rfl) (by as_aux_lemma => kernel_rfl) (by as_aux_lemma => kernel_rfl) pKeys (by as_aux_lemma => kernel_rfl) pLifts pMake (by as_aux_lemma => kernel_rfl) (by as_aux_lemma => kernel_rfl) (by as_aux_lemma => kernel_rfl) (by as_aux_lemma => kernel_rfl)

theorem backT_holds : Rows.MarksTicksComeBackSaid :=
  OpenClaim.holds_of_wide 9 Try.f9 rfl rfl rfl rfl rfl rfl rfl ⟨rfl, rfl, rfl, rfl, rfl⟩ rfl rfl rfl rfl rfl (by kernel_rfl) Try.func9 backT_closed
    (of_decide_eq_true (by kernel_rfl)) (by unfold Func.isWrapper; first | (rw [if_pos (by decide +kernel)]; kernel_rfl) | (rw [if_neg (by decide +kernel)]; exact ⟨rfl, rfl⟩))
    (fun os started H enc _ => backT_lifted os started H enc)
#print axioms backT_holds
end Go.Proofs.Ythhgcnfkdlblnaa
