/- With one flipped bit the word comes back, with two it is told: the law MemoryOneFlipIsPutRight answers true for every input. No condition. -/
import Derived.Test.YtidddoldkedicaaAwake
import Derived.Test.YtidddoldkedicaaBelowN
import Derived.Test.YtidddoldkedicaaClose
import Derived.Test.YtidddoldkedicaaClosed
namespace Go.Proofs.Ytidddoldkedicaa
open Go.ChangeShapes Go.WideShapes Go.ChangeAt Go.RowKit

theorem dec_one (n a : Nat) (hn : n < 65536) (ha : a < 22) : decS ((codeN n ^^^ 2 ^ a : Nat) : Int) = ((n : Int), 1, 0) := by
  have hl := flip_lt (codeN n) a ha (code_lt n)
  unfold decS
  rw [if_pos ⟨by omega, by omega⟩, Int.toNat_natCast]
  unfold decN
  rw [kind_flip n a ha]
  simp [flip_flip, code_gather n hn]
theorem kind_one (n a : Nat) (ha : a < 22) : kindS ((codeN n ^^^ 2 ^ a : Nat) : Int) = (2, (a : Int) + 1, 0) := by
  have hl := flip_lt (codeN n) a ha (code_lt n)
  unfold kindS
  rw [if_pos ⟨by omega, by omega⟩, Int.toNat_natCast, kind_flip n a ha]
  simp
theorem kind_both (n a b : Nat) (ha : a < 22) (hb : b < 22) (hab : a ≠ b) : kindS ((codeN n ^^^ 2 ^ a ^^^ 2 ^ b : Nat) : Int) = (3, 0, 0) := by
  have hl := flip_lt _ b hb (flip_lt (codeN n) a ha (code_lt n))
  unfold kindS
  rw [if_pos ⟨by omega, by omega⟩, Int.toNat_natCast, kind_two n a b ha hb hab]
  simp
theorem xor_up (c a : Nat) (hc : c < 4194304) (ha : a < 22) : bits .xor .i64 (c : Int) ((2 : Int) ^ a) = ((c ^^^ 2 ^ a : Nat) : Int) := by
  have hp : 2 ^ a < 4194304 := Nat.pow_lt_pow_right (show 1 < 2 by omega) ha
  rw [show (2 : Int) ^ a = ((2 ^ a : Nat) : Int) by simp]
  generalize 2 ^ a = p at *
  exact xor64 c p (by omega) (by omega)

set_option maxRecDepth 100000 in
set_option maxHeartbeats 1000000 in
theorem lawFlip_any (n a b : Int) (ha : -9223372036854775808 ≤ a ∧ a ≤ 9223372036854775807) (hb : -9223372036854775808 ≤ b ∧ b ≤ 9223372036854775807) (w : World) :
    Calls Try.prog 4 #[.int .i64 n, .int .i64 a, .int .i64 b] w fun e w' => e = .returned (.bool true) ∧ Below w.heap.size w w' := by
  by_cases h : 0 ≤ n ∧ n ≤ 65535
  · obtain ⟨N, rfl⟩ : ∃ N : Nat, n = (N : Int) := ⟨n.toNat, by omega⟩
    have hN : N < 65536 := by omega
    have c1 := Lib.hid (fun w => by have := Coded_any (N : Int) w; rw [show codS (N : Int) = (((codeN N : Nat) : Int), 0) by unfold codS; rw [if_pos h]; rfl] at this; exact this)
    have b1 := Lib.hid (fun w => belowN_any a 22 w (by omega) (by omega) ha)
    have b2 := Lib.hid (fun w => belowN_any b 22 w (by omega) (by omega) hb)
    have hp1 : 0 ≤ a % 22 ∧ a % 22 < 22 := by omega
    have hp2 : 0 ≤ b % 22 ∧ b % 22 < 22 := by omega
    rw [Int.cast_ofNat_Int] at b1 b2
    generalize a % 22 = a' at *
    generalize b % 22 = b' at *
    clear ha hb
    obtain ⟨A, rfl⟩ : ∃ A : Nat, a' = (A : Int) := ⟨a'.toNat, by omega⟩
    obtain ⟨B, rfl⟩ : ∃ B : Nat, b' = (B : Int) := ⟨b'.toNat, by omega⟩
    have hA : A < 22 := by omega
    have hB : B < 22 := by omega
    have d1 := Lib.hid (fun w => by have := Decoded_any ((codeN N ^^^ 2 ^ A : Nat) : Int) w; rw [dec_one N A hN hA] at this; exact this)
    have k1 := Lib.hid (fun w => by have := Kind_any ((codeN N ^^^ 2 ^ A : Nat) : Int) w; rw [kind_one N A hA] at this; exact this)
    have hc := code_lt N
    have x1 := xor_up (codeN N) A hc hA
    have w1 := wpow A (by omega)
    have w2 := wpow B (by omega)
    have hf := flip_lt (codeN N) A hA hc
    have x2 := xor_up (codeN N ^^^ 2 ^ A) B hf hB
    rw [show ((2 ^ A : Nat) : Int) = (2 : Int) ^ A by simp] at w1
    rw [show ((2 ^ B : Nat) : Int) = (2 : Int) ^ B by simp] at w2
    by_cases hab : A = B
    · subst hab
      clear x2 w2
      generalize codeN N ^^^ 2 ^ A = X at *
      generalize codeN N = c at *
      simp only [two, three'] at *
      have x1' := Lib.hid x1
      clear x1
      go_enter Try.func4, Try.ntmps4
      go_wp2_with (first | (go_at_call 16; refine (c1.out _).mono ?_; rintro e w' ⟨rfl, rfl⟩) | (go_at_call 23; with_reducible refine (b1.out _).mono ?_; rintro e w' ⟨rfl, rfl⟩) | (go_at_call 23; with_reducible refine (b2.out _).mono ?_; rintro e w' ⟨rfl, rfl⟩) | (go_at_call 18; (try simp only [x1'.out]); with_reducible refine (d1.out _).mono ?_; rintro e w' ⟨rfl, rfl⟩) | (go_at_call 20; (try simp only [x1'.out]); with_reducible refine (k1.out _).mono ?_; rintro e w' ⟨rfl, rfl⟩) | (go_at_call 22; refine (awake_any _).mono ?_; rintro e w' ⟨rfl, rfl⟩) | fail)
      go_ret
      exact ⟨rfl, Below.refl _ _⟩
    · have k2 := Lib.hid (fun w => by have := Kind_any ((codeN N ^^^ 2 ^ A ^^^ 2 ^ B : Nat) : Int) w; rw [kind_both N A B hA hB hab] at this; exact this)
      generalize codeN N ^^^ 2 ^ A ^^^ 2 ^ B = Y at *
      generalize codeN N ^^^ 2 ^ A = X at *
      generalize codeN N = c at *
      simp only [two, three'] at *
      have x1' := Lib.hid x1
      have x2' := Lib.hid x2
      clear x1 x2
      go_enter Try.func4, Try.ntmps4
      go_wp2_with (first | (go_at_call 16; refine (c1.out _).mono ?_; rintro e w' ⟨rfl, rfl⟩) | (go_at_call 23; with_reducible refine (b1.out _).mono ?_; rintro e w' ⟨rfl, rfl⟩) | (go_at_call 23; with_reducible refine (b2.out _).mono ?_; rintro e w' ⟨rfl, rfl⟩) | (go_at_call 18; (try simp only [x1'.out]); with_reducible refine (d1.out _).mono ?_; rintro e w' ⟨rfl, rfl⟩) | (go_at_call 20; (try simp only [x1'.out, x2'.out]); first | (with_reducible refine (k1.out _).mono ?_; rintro e w' ⟨rfl, rfl⟩) | (with_reducible refine (k2.out _).mono ?_; rintro e w' ⟨rfl, rfl⟩)) | (go_at_call 22; refine (awake_any _).mono ?_; rintro e w' ⟨rfl, rfl⟩) | fail)
      go_ret
      exact ⟨rfl, Below.refl _ _⟩
  · have c1 := Lib.hid (fun w => by have := Coded_any n w; rw [show codS n = (0, 1) by unfold codS; rw [if_neg h]] at this; exact this)
    simp only [two] at *
    go_enter Try.func4, Try.ntmps4
    go_wp2_with (first | (go_at_call 16; refine (c1.out _).mono ?_; rintro e w' ⟨rfl, rfl⟩) | (go_at_call 22; refine (awake_any _).mono ?_; rintro e w' ⟨rfl, rfl⟩) | fail)
    go_ret
    exact ⟨rfl, Below.refl _ _⟩

set_option maxHeartbeats 1600000 in
set_option maxRecDepth 100000 in
theorem flip_lifted (os : Os) (started : os.Started) (H : Type) (enc : TypeId × Value → H) :
    ReturnsInHanded {} Try.checked os 4 .any (Rows.memoryOneFlipIsPutRightSpec.pre6 enc Try.prog Try.f4 Rows.memoryOneFlipIsPutRightRow.domain false) (Rows.memoryOneFlipIsPutRightSpec.post enc Try.prog Try.f4 false true false false) := by
  refine returnsInHanded_of_change (C := Try.checked) own started (by kernel_rfl) Try.func4
    (ChangeSpec.witness6 (enc := enc) (C := Try.checked) false ⟨#[], #[.int .i64 0, .int .i64 0, .int .i64 0], []⟩ 8 (by kernel_rfl) (by kernel_rfl) (by kernel_rfl) (by kernel_rfl)) ?_
  intro W base args ds gs before hval0 hW _ _
  have hval : ∀ (j : Nat) t v, Try.f4.params[j]? = some t → args[j]? = some v → Value.okWide Try.prog W .any base t v := hval0
  have hW' := hW
  have hlt := fun x hx => hW'.lt x hx
  obtain ⟨p, q, hA0, hV, rfl, _, _⟩ := hW
  have hA : DataW.TrodAll enc Try.prog W 0 (fun _ => true) true Try.f4.params.toList args.toList ds p := hA0
  rw [Try.params4] at hA hval
  obtain ⟨v0, v1, v2, d0, d1, d2, p0, p1, p2, rfl, rfl, rfl, h0, h1, h2⟩ := trodAll_three hA
  obtain ⟨rfl, rfl⟩ := trodVars_none hV
  obtain ⟨n, rfl, rfl, rfl, wfn⟩ := open_int Try.underlying3 (hval 0 3 v0 rfl rfl) h0
  have hbn := bounds_i64 wfn
  obtain ⟨a, rfl, rfl, rfl, wfa⟩ := open_int Try.underlying3 (hval 1 3 v1 rfl rfl) h1
  have hba := bounds_i64 wfa
  obtain ⟨b, rfl, rfl, rfl, wfb⟩ := open_int Try.underlying3 (hval 2 3 v2 rfl rfl) h2
  have hbb := bounds_i64 wfb
  refine (lawFlip_any n a b hba hbb W).mono fun e W' ⟨he, hb⟩ => ?_
  subst he
  exact ⟨_, rfl, law_post (by decide +kernel) rfl rfl hW' rfl hb⟩

set_option maxRecDepth 100000 in
theorem flip_closed : joinedFacts Try.prog 4 Try.f4 Rows.memoryOneFlipIsPutRightSpec Rows.memoryOneFlipIsPutRightRow = true :=
  closed_all (by as_aux_lemma => kernel_rfl) (by as_aux_lemma => kernel_rfl) (by as_aux_lemma => kernel_rfl) (by as_aux_lemma => kernel_rfl) (by as_aux_lemma => kernel_rfl) (by as_aux_lemma => kernel_rfl) (by as_aux_lemma => kernel_rfl) (by as_aux_lemma => kernel_rfl) (by as_aux_lemma => kernel_rfl) (by as_aux_lemma => kernel_rfl) (by as_aux_lemma => kernel_rfl) (by as_aux_lemma => kernel_rfl) (by as_aux_lemma => kernel_rfl) (by as_aux_lemma => kernel_rfl) (by as_aux_lemma => kernel_rfl) (by as_aux_lemma => kernel_rfl) (by as_aux_lemma => kernel_rfl) (by as_aux_lemma => kernel_rfl) pKeys (by as_aux_lemma => kernel_rfl) pLifts pMake (by as_aux_lemma => kernel_rfl) (by as_aux_lemma => kernel_rfl) (by as_aux_lemma => kernel_rfl) (by as_aux_lemma => kernel_rfl)

theorem flip_holds : Rows.MemoryOneFlipIsPutRightSaid :=
  OpenClaim.holds_of_wide 4 Try.f4 rfl rfl rfl rfl rfl rfl rfl ⟨rfl, rfl, rfl, rfl, rfl⟩ rfl rfl rfl rfl rfl (by kernel_rfl) Try.func4 flip_closed
    (of_decide_eq_true (by kernel_rfl)) (by unfold Func.isWrapper; first | (rw [if_pos (by decide +kernel)]; kernel_rfl) | (rw [if_neg (by decide +kernel)]; exact ⟨rfl, rfl⟩))
    (fun os started H enc _ => flip_lifted os started H enc)
#print axioms flip_holds
end Go.Proofs.Ytidddoldkedicaa
