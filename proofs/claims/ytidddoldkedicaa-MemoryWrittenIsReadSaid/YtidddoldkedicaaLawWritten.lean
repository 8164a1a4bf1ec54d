/- A word that was written is read, and all others as before: the law MemoryWrittenIsRead answers true for every input. No condition. -/
import Derived.Test.YtidddoldkedicaaAwake
import Derived.Test.YtidddoldkedicaaWritten
import Derived.Test.YtidddoldkedicaaBelowN
import Derived.Test.YtidddoldkedicaaCloseB
import Derived.Test.YtidddoldkedicaaClosed
namespace Go.Proofs.Ytidddoldkedicaa
open Go.ChangeShapes Go.WideShapes Go.ChangeAt Go.RowKit

theorem right_set {l l' : List Int} (h : Right l l') (k : Nat) (c z : Int) (hc : 0 ≤ c ∧ c ≤ 4194303) (hz : 0 ≤ z ∧ z ≤ 65535) : Right (l.set k c) (l'.set k z) := by
  refine ⟨by simpa using h.pos, by simpa using h.few, by simpa using h.same, fun j hj => ?_, fun j hj => ?_⟩
  · rw [List.getElem_set]
    split
    · exact hc
    · exact h.codes j (by simpa using hj)
  · rw [List.getElem_set]
    split
    · exact hz
    · exact h.words j (by simpa using hj)
theorem place_in {l l' : List Int} (h : Right l l') (k : Nat) (hk : k < l.length) : placeS l l' (k : Int) = 0 := by
  unfold placeS
  rw [if_pos (right_chk h), if_pos ⟨by omega, by omega⟩]
theorem dec_code (n : Nat) (hn : n < 65536) : decS ((codeN n : Nat) : Int) = ((n : Int), 0, 0) := by
  have hl := code_lt n
  unfold decS
  rw [if_pos ⟨by omega, by omega⟩, Int.toNat_natCast]
  unfold decN
  rw [kind_code]
  simp [code_gather n hn]
theorem read_set {l l' : List Int} (h : Right l l') (k : Nat) (hk : k < l.length) (n : Nat) (hn : n < 65536) :
    readS (l.set k ((codeN n : Nat) : Int)) (l'.set k (n : Int)) (k : Int) = ((n : Int), 0, 0) := by
  have hl := code_lt n
  have hr := right_set h k ((codeN n : Nat) : Int) (n : Int) ⟨by omega, by omega⟩ ⟨by omega, by omega⟩
  unfold readS
  rw [if_pos (place_in hr k (by simpa using hk)), Int.toNat_natCast]
  have e : (l.set k ((codeN n : Nat) : Int)).getD k 0 = ((codeN n : Nat) : Int) := by simp [List.getD, hk]
  rw [e, dec_code n hn]
theorem read_other {l l' : List Int} (h : Right l l') (k j : Nat) (hk : k < l.length) (hj : j < l.length) (hne : j ≠ k) (n : Nat) (hn : n < 65536) :
    readS (l.set k ((codeN n : Nat) : Int)) (l'.set k (n : Int)) (j : Int) = readS l l' (j : Int) := by
  have hl := code_lt n
  have hr := right_set h k ((codeN n : Nat) : Int) (n : Int) ⟨by omega, by omega⟩ ⟨by omega, by omega⟩
  unfold readS
  rw [if_pos (place_in hr j (by simpa using hj)), if_pos (place_in h j hj), Int.toNat_natCast]
  have e : (l.set k ((codeN n : Nat) : Int)).getD j 0 = l.getD j 0 := by
    simp only [List.getD]
    rw [List.getElem?_set_ne (by omega)]
  rw [e]
/-- what Written answers: the fault and nothing, or the bank -/
theorem written_cases (l l' : List Int) (a z : Int) : (∃ F, writtenS l l' a z = (([], []), F) ∧ F ≠ 0) ∨
    ∃ k n : Nat, Right l l' ∧ a = (k : Int) ∧ k < l.length ∧ z = (n : Int) ∧ n < 65536 ∧ writtenS l l' a z = ((l.set k ((codeN n : Nat) : Int), l'.set k (n : Int)), 0) := by
  unfold writtenS
  by_cases h1 : placeS l l' a = 0
  · rw [if_pos h1]
    obtain ⟨hr, k, rfl, hk⟩ := place_right h1
    by_cases h2 : 0 ≤ z ∧ z ≤ 65535
    · rw [if_pos h2]
      obtain ⟨n, rfl⟩ : ∃ n : Nat, z = (n : Int) := ⟨z.toNat, by omega⟩
      exact .inr ⟨k, n, hr, rfl, hk, rfl, by omega, by simp⟩
    · rw [if_neg h2]
      exact .inl ⟨1, rfl, by omega⟩
  · rw [if_neg h1]
    exact .inl ⟨_, rfl, h1⟩

set_option maxRecDepth 100000 in
set_option maxHeartbeats 2000000 in
theorem lawWritten_any (A A' : Option Addr) (c c' : Nat) (l l' : List Int) (a z b : Int) (w : World) (hbb : -9223372036854775808 ≤ b ∧ b ≤ 9223372036854775807) (hl : l.length ≤ 9223372036854775807) (hl' : l'.length ≤ 9223372036854775807) (h : IR w w.heap.size A l) (h' : IR w w.heap.size A' l') :
    Calls Try.prog 6 #[bankV A A' l.length l'.length c c', .int .i64 a, .int .i64 z, .int .i64 b] w fun e w' => e = .returned (.bool true) ∧ Below w.heap.size w w' := by
  have C1 := Lib.hid (fun (w1 : World) (hb : Below w.heap.size w w1) => written_any A A' c c' l l' a z w.heap.size w1 hb.size hl hl' (h.below hb) (h'.below hb))
  generalize hw0 : w.alloc (.cells #[.slice A l.length c, .slice A' l'.length c'] 33) = w0
  have b0 : Below w.heap.size w w0 := by rw [← hw0]; exact box_below _ _
  have z0 : w0.heap.size = w.heap.size + 1 := by rw [← hw0]; simp
  have h0 : HeldB w0 w.heap.size (.slice A l.length c) (.slice A' l'.length c') := by rw [← hw0]; exact HeldB.new _ _ _
  obtain ⟨p1, p2⟩ := h0.cells
  have C1' := Lib.hid (C1.out w0 b0)
  unfold BankPost at C1'
  unfold bankV at C1' ⊢
  rcases written_cases l l' a z with ⟨F, hF, hne⟩ | ⟨k, n, hr, rfl, hk, rfl, hn, hF⟩
  · rw [hF] at C1'
    have hF1 : (F != 0) = true := by simpa using hne
    clear C1 hF hne
    go_enter Try.func6, Try.ntmps6
    go_wp2_with fail
    refine C1'.out.mono ?_
    rintro e w1 ⟨D, D', k, k', rfl, i1, i1', hb1, -, -⟩
    have bx1 := b0.trans (hb1.mono (by omega))
    go_wp2_with (first | (go_at_call 22; refine (awake_any _).mono ?_; rintro e w' ⟨rfl, rfl⟩) | fail)
    go_ret
    exact ⟨rfl, bx1.trans ((box_below _ _).mono bx1.size)⟩
  · rw [hF] at C1'
    have hpos := hr.pos
    have hfew := hr.few
    have hbl := Lib.hid (fun w => belowN_any b l.length w (by omega) (by omega) hbb)
    have hJ0 : 0 ≤ b % (l.length : Int) := Int.emod_nonneg _ (by omega)
    have hJ1 : b % (l.length : Int) < (l.length : Int) := Int.emod_lt_of_pos _ (by omega)
    obtain ⟨j, hj⟩ : ∃ j : Nat, b % (l.length : Int) = (j : Int) := ⟨(b % (l.length : Int)).toNat, by omega⟩
    rw [hj] at hbl hJ1
    have hjl : j < l.length := by omega
    have hset : (l.set k ((codeN n : Nat) : Int)).length ≤ 9223372036854775807 := by simpa using hl
    have hset' : (l'.set k (n : Int)).length ≤ 9223372036854775807 := by simpa using hl'
    have R1 := read_set hr k hk n hn
    have HR2 := Lib.hid (fun hne => read_other hr k j hk hjl hne n hn)
    have C3 := Lib.hid (fun (w1 : World) (hb : Below w.heap.size w w1) => readAt_any A A' c c' l l' (j : Int) w.heap.size w1 hb.size hl hl' (h.below hb) (h'.below hb))
    clear C1 hF hbb hr hJ0 hj
    generalize hX : l.set k ((codeN n : Nat) : Int) = X at *
    generalize hX' : l'.set k (n : Int) = X' at *
    clear hX hX'
    unfold bankV at C3
    go_enter Try.func6, Try.ntmps6
    go_wp2_with fail
    refine C1'.out.mono ?_
    rintro e w1 ⟨D, D', q, q', rfl, i1, i1', hb1, -, -⟩
    have bx1 := b0.trans (hb1.mono (by omega))
    have s1 := hb1.size
    clear hw0 C1'
    generalize hwa : w1.alloc (.cells #[.slice D X.length q, .slice D' X'.length q'] 33) = wa
    have ba : Below w1.heap.size w1 wa := by rw [← hwa]; exact box_below _ _
    have za : wa.heap.size = w1.heap.size + 1 := by rw [← hwa]; simp
    have g0 := (h0.below hb1 (by omega)).below ba (by omega)
    have g9 : HeldB wa w1.heap.size (.slice D X.length q) (.slice D' X'.length q') := by rw [← hwa]; exact HeldB.new _ _ _
    have bxa := bx1.trans (ba.mono (by omega))
    have f1 : IR wa wa.heap.size D X := (i1.below ba).lift (by omega)
    have f1' : IR wa wa.heap.size D' X' := (i1'.below ba).lift (by omega)
    have C2 := Lib.hid (fun (a : Int) (w1 : World) (hb : Below wa.heap.size wa w1) => readAt_any D D' q q' X X' a wa.heap.size w1 hb.size hset hset' (f1.below hb) (f1'.below hb))
    have C2' := Lib.hid (C2.out (k : Int) wa (Below.refl _ _))
    rw [R1] at C2'
    unfold bankV at C2 C2'
    simp only [three'] at C2'
    clear p1 p2 f1 f1' i1 i1' R1
    obtain ⟨p1, p2⟩ := g9.cells
    go_wp2_with fail
    refine C2'.out.mono ?_
    rintro e w2 ⟨rfl, hb2⟩
    clear C2' p1 p2 hwa
    have j0 := g0.below hb2 (by omega)
    have j9 := g9.below hb2 (by omega)
    have bx2 := bxa.trans (hb2.mono (by omega))
    have s2 := hb2.size
    obtain ⟨p1, p2⟩ := j0.cells
    by_cases hjk : j = k
    · subst hjk
      go_wp2_with (first | (go_at_call 23; refine (hbl.out _).mono ?_; rintro e w' ⟨rfl, rfl⟩) | (go_at_call 22; refine (awake_any _).mono ?_; rintro e w' ⟨rfl, rfl⟩) | fail)
      go_ret
      exact ⟨rfl, bx2⟩
    · have R2 := HR2.out hjk
      have hjk' : ((j : Int) == (k : Int)) = false := by simp; omega
      have C3' := Lib.hid (C3.out w2 bx2)
      have C4 := Lib.hid (C2.out (j : Int))
      rw [R2] at C4
      clear R2 HR2 C2 C3
      generalize readS l l' (j : Int) = Q at *
      obtain ⟨Q1, Q2, Q3⟩ := Q
      simp only [three'] at C3' C4
      go_wp2_with (first | (go_at_call 23; refine (hbl.out _).mono ?_; rintro e w' ⟨rfl, rfl⟩) | fail)
      refine C3'.out.mono ?_
      rintro e w3 ⟨rfl, hb3⟩
      obtain ⟨p3, p4⟩ := (j9.below hb3 (by omega)).cells
      have bx3 := bx2.trans (hb3.mono (by omega))
      have C4' := Lib.hid (C4.out w3 (hb2.trans (hb3.mono (by omega))))
      clear p1 p2
      go_wp2_with fail
      refine C4'.out.mono ?_
      rintro e w4 ⟨rfl, hb4⟩
      have bx4 := bx3.trans (hb4.mono bx3.size)
      go_wp2_with (first | (go_at_call 22; refine (awake_any _).mono ?_; rintro e w' ⟨rfl, rfl⟩) | fail)
      go_ret
      exact ⟨rfl, bx4⟩

set_option maxHeartbeats 1600000 in
set_option maxRecDepth 100000 in
theorem wread_lifted (os : Os) (started : os.Started) (H : Type) (enc : TypeId × Value → H) :
    ReturnsInHanded {} Try.checked os 6 .any (Rows.memoryWrittenIsReadSpec.pre6 enc Try.prog Try.f6 Rows.memoryWrittenIsReadRow.domain false) (Rows.memoryWrittenIsReadSpec.post enc Try.prog Try.f6 false true false false) := by
  refine returnsInHanded_of_change (C := Try.checked) own started (by kernel_rfl) Try.func6
    (ChangeSpec.witness6 (enc := enc) (C := Try.checked) false ⟨#[], #[.agg #[.slice none 0 0, .slice none 0 0], .int .i64 0, .int .i64 0, .int .i64 0], []⟩ 8 (by kernel_rfl) (by kernel_rfl) (by kernel_rfl) (by kernel_rfl)) ?_
  intro W base args ds gs before hval0 hW _ _
  have hval : ∀ (j : Nat) t v, Try.f6.params[j]? = some t → args[j]? = some v → Value.okWide Try.prog W .any base t v := hval0
  have hW' := hW
  have hlt := fun x hx => hW'.lt x hx
  obtain ⟨p, q, hA0, hV, rfl, _, _⟩ := hW
  have hA : DataW.TrodAll enc Try.prog W 0 (fun _ => true) true Try.f6.params.toList args.toList ds p := hA0
  rw [Try.params6] at hA hval
  obtain ⟨v0, v1, v2, v3, d0, d1, d2, d3, p0, p1, p2, p3, rfl, rfl, rfl, h0, h1, h2, h3⟩ := trodAll_four hA
  obtain ⟨rfl, rfl⟩ := trodVars_none hV
  obtain ⟨Ab, Ab', cb, cb', b, b', rfl, hlb, hlb', hBb, hBb'⟩ := open_bank (fun x hx => hlt x (by simp [hx])) (hval 0 33 v0 rfl rfl) h0
  obtain ⟨n, rfl, rfl, rfl, wfn⟩ := open_int Try.underlying3 (hval 1 3 v1 rfl rfl) h1
  have hbn := bounds_i64 wfn
  obtain ⟨m, rfl, rfl, rfl, wfm⟩ := open_int Try.underlying3 (hval 2 3 v2 rfl rfl) h2
  have hbm := bounds_i64 wfm
  obtain ⟨k, rfl, rfl, rfl, wfk⟩ := open_int Try.underlying3 (hval 3 3 v3 rfl rfl) h3
  have hbk := bounds_i64 wfk
  refine (lawWritten_any Ab Ab' cb cb' b b' n m k W hbk hlb hlb' hBb hBb').mono fun e W' ⟨he, hb⟩ => ?_
  subst he
  exact ⟨_, rfl, law_post (by decide +kernel) rfl rfl hW' rfl hb⟩

set_option maxRecDepth 100000 in
theorem wread_closed : joinedFacts Try.prog 6 Try.f6 Rows.memoryWrittenIsReadSpec Rows.memoryWrittenIsReadRow = true :=
  closed_all (by as_aux_lemma => kernel_rfl) (by as_aux_lemma => kernel_rfl) (by as_aux_lemma => kernel_rfl) (by as_aux_lemma => kernel_rfl) (by as_aux_lemma => kernel_rfl) (by as_aux_lemma => kernel_rfl) (by as_aux_lemma => kernel_rfl) (by as_aux_lemma => kernel_rfl) (by as_aux_lemma => kernel_rfl) (by as_aux_lemma => kernel_rfl) (by as_aux_lemma => kernel_rfl) (by as_aux_lemma => kernel_rfl) (by as_aux_lemma => kernel_rfl) (by as_aux_lemma => kernel_rfl) (by as_aux_lemma => kernel_rfl) (by as_aux_lemma => kernel_rfl) (by as_aux_lemma => kernel_rfl) (by as_aux_lemma => kernel_rfl) pKeys (by as_aux_lemma => kernel_rfl) pLifts pMake (by as_aux_lemma => kernel_rfl) (by as_aux_lemma => kernel_rfl) (by as_aux_lemma => kernel_rfl) (by as_aux_lemma => kernel_rfl)

theorem wread_holds : Rows.MemoryWrittenIsReadSaid :=
  OpenClaim.holds_of_wide 6 Try.f6 rfl rfl rfl rfl rfl rfl rfl ⟨rfl, rfl, rfl, rfl, rfl⟩ rfl rfl rfl rfl rfl (by kernel_rfl) Try.func6 wread_closed
    (of_decide_eq_true (by kernel_rfl)) (by unfold Func.isWrapper; first | (rw [if_pos (by decide +kernel)]; kernel_rfl) | (rw [if_neg (by decide +kernel)]; exact ⟨rfl, rfl⟩))
    (fun os started H enc _ => wread_lifted os started H enc)
#print axioms wread_holds
end Go.Proofs.Ytidddoldkedicaa
