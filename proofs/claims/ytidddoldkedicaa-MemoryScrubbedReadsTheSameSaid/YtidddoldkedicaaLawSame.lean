/- What was scrubbed is read as before: the law MemoryScrubbedReadsTheSame answers true for every input. No condition. -/
import Derived.Test.YtidddoldkedicaaAwake
import Derived.Test.YtidddoldkedicaaScrubbed
import Derived.Test.YtidddoldkedicaaMendMath
import Derived.Test.YtidddoldkedicaaRReadAt
import Derived.Test.YtidddoldkedicaaCloseB
import Derived.Test.YtidddoldkedicaaClosed
namespace Go.Proofs.Ytidddoldkedicaa
open Go.ChangeShapes Go.WideShapes Go.ChangeAt Go.RowKit

theorem scrubbed_cases (l l' : List Int) (a z : Int) : (∃ F, scrubbedS l l' a z = (([], []), [], F) ∧ F ≠ 0) ∨
    ∃ k m : Nat, Right l l' ∧ a = (k : Int) ∧ k < l.length ∧ z = (m : Int) ∧ m ≤ 5000 ∧ scrubbedS l l' a z = ((ints (scrubT 0 m ⟨nats l, k, []⟩).C, l'), (scrubT 0 m ⟨nats l, k, []⟩).done, 0) := by
  unfold scrubbedS
  by_cases h1 : placeS l l' a = 0
  · rw [if_pos h1]
    obtain ⟨hr, k, rfl, hk⟩ := place_right h1
    by_cases h2 : 0 ≤ z ∧ z ≤ 5000
    · rw [if_pos h2]
      obtain ⟨n, rfl⟩ : ∃ n : Nat, z = (n : Int) := ⟨z.toNat, by omega⟩
      exact .inr ⟨k, n, hr, rfl, hk, rfl, by omega, by simp⟩
    · rw [if_neg h2]
      exact .inl ⟨1, rfl, by omega⟩
  · rw [if_neg h1]
    exact .inl ⟨_, rfl, h1⟩
theorem place_in' {l l' : List Int} (h : Right l l') (k : Nat) (hk : k < l.length) : placeS l l' (k : Int) = 0 := by
  unfold placeS
  rw [if_pos (right_chk h), if_pos ⟨by omega, by omega⟩]
theorem right_of_ok {l l' : List Int} (h : Right l l') {s : St} (hs : s.ok l.length) : Right (ints s.C) l' := by
  refine ⟨by rw [ints_len, hs.len]; exact h.pos, by rw [ints_len, hs.len]; exact h.few, by rw [ints_len, hs.len]; exact h.same, fun j hj => ?_, h.words⟩
  have hj' : j < s.C.length := by rw [ints_len] at hj; exact hj
  have := hs.codes j hj'
  rw [ints_get s.C j hj']
  omega
theorem read_at {l l' : List Int} (h : Right l l') (j : Nat) (hj : j < l.length) : readS l l' (j : Int) = decS l[j] := by
  unfold readS
  rw [if_pos (place_in' h j hj), Int.toNat_natCast]
  simp [List.getD, hj]
/-- both reads of a place -/
theorem both_reads {l l' : List Int} (h : Right l l') (k m j : Nat) (hk : k < l.length) (hj : j < l.length) :
    ∃ q1 q2 q3 : Int, readS l l' (j : Int) = (q1, q2, q3) ∧ readS (ints (scrubT 0 m ⟨nats l, k, []⟩).C) l' (j : Int) = (q1, if (j + l.length - k) % l.length < m then 0 else q2, q3) := by
  have hok := right_ok h k hk []
  have hs := scrub_ok hok (t := 0) m
  have hr := right_of_ok h hs
  have hj2 : j < (ints (scrubT 0 m ⟨nats l, k, []⟩).C).length := by rw [ints_len, hs.len]; exact hj
  have hj3 : j < (scrubT 0 m ⟨nats l, k, []⟩).C.length := by rw [hs.len]; exact hj
  have hc := h.codes j hj
  have hat := scrub_at (nats_len l) hk hok m j hj
  rw [nats_get l j hj] at hat
  rw [read_at h j hj, read_at hr j hj2, ints_get _ j hj3, hat]
  obtain ⟨n, hn⟩ : ∃ n : Nat, l[j] = (n : Int) := ⟨(l[j]).toNat, by omega⟩
  rw [hn, Int.toNat_natCast]
  have hn2 : n < 4194304 := by omega
  obtain ⟨d1, d2, d3⟩ := dec_mend n
  refine ⟨_, _, _, decS_nat n hn2, ?_⟩
  split
  · rw [decS_nat _ (mend_lt n hn2), d1, d2, d3]
    rfl
  · rw [decS_nat n hn2]

set_option maxRecDepth 100000 in
set_option maxHeartbeats 2000000 in
theorem lawSame_any (A A' : Option Addr) (c c' : Nat) (l l' : List Int) (a z : Int) (w : World) (hl : l.length ≤ 9223372036854775807) (hl' : l'.length ≤ 9223372036854775807) (h : IR w w.heap.size A l) (h' : IR w w.heap.size A' l') :
    Calls Try.prog 8 #[bankV A A' l.length l'.length c c', .int .i64 a, .int .i64 z] w fun e w' => e = .returned (.bool true) ∧ Below w.heap.size w w' := by
  have C1 := Lib.hid (fun (w1 : World) (hb : Below w.heap.size w w1) => scrubbed_any A A' c c' l l' a z w.heap.size w1 hb.size hl hl' (h.below hb) (h'.below hb))
  generalize hw0 : w.alloc (.cells #[.slice A l.length c, .slice A' l'.length c'] 33) = w0
  have b0 : Below w.heap.size w w0 := by rw [← hw0]; exact box_below _ _
  have z0 : w0.heap.size = w.heap.size + 1 := by rw [← hw0]; simp
  have h0 : HeldB w0 w.heap.size (.slice A l.length c) (.slice A' l'.length c') := by rw [← hw0]; exact HeldB.new _ _ _
  obtain ⟨p1, p2⟩ := h0.cells
  have C1' := Lib.hid (C1.out w0 b0)
  unfold ScrubPost at C1'
  unfold bankV at C1' ⊢
  rcases scrubbed_cases l l' a z with ⟨F, hF, hne⟩ | ⟨k, m, hr, rfl, hk, rfl, hm, hF⟩
  · rw [hF] at C1'
    have hF1 : (F != 0) = true := by simpa using hne
    clear C1 hF hne
    go_enter Try.func8, Try.ntmps8
    go_wp2_with fail
    refine C1'.out.mono ?_
    rintro e w1 ⟨D, D', q, q', G, gq, rfl, i1, i1', i1'', hb1, -, -, -⟩
    have bx1 := b0.trans (hb1.mono (by omega))
    go_wp2_with (first | (go_at_call 22; refine (awake_any _).mono ?_; rintro e w' ⟨rfl, rfl⟩) | fail)
    go_ret
    exact ⟨rfl, bx1.trans ((box_below _ _).mono bx1.size)⟩
  · rw [hF] at C1'
    have hfew := hr.few
    have HBR := Lib.hid (fun j hj => both_reads hr k m j hk hj)
    have hok := scrub_ok (right_ok hr k hk []) (t := 0) m
    have hlen : (ints (scrubT 0 m ⟨nats l, k, []⟩).C).length = l.length := by rw [ints_len, hok.len]
    have C3 := Lib.hid (fun (j : Int) (w1 : World) (hb : Below w.heap.size w w1) => readAt_any A A' c c' l l' j w.heap.size w1 hb.size hl hl' (h.below hb) (h'.below hb))
    clear C1 hF hr hok
    generalize ints (scrubT 0 m ⟨nats l, k, []⟩).C = X at *
    generalize (scrubT 0 m ⟨nats l, k, []⟩).done = S at *
    simp only at C1'
    have hX : X.length ≤ 9223372036854775807 := by omega
    have hne : ((l.length : Int) != (l.length : Int)) = false := by simp
    rw [hlen] at C1'
    have HLN := Lib.hid hlen
    clear hlen
    unfold bankV at C3
    go_enter Try.func8, Try.ntmps8
    go_wp2_with fail
    refine C1'.out.mono ?_
    rintro e w1 ⟨D, D', q, q', G, gq, rfl, i1, i1', -, hb1, -, -, -⟩
    have bx1 := b0.trans (hb1.mono (by omega))
    have s1 := hb1.size
    clear hw0 C1' p1 p2
    generalize hwa : w1.alloc (.cells #[.slice D l.length q, .slice D' l'.length q'] 33) = wa
    have ba : Below w1.heap.size w1 wa := by rw [← hwa]; exact box_below _ _
    have za : wa.heap.size = w1.heap.size + 1 := by rw [← hwa]; simp
    have g0 := (h0.below hb1 (by omega)).below ba (by omega)
    have g9 : HeldB wa w1.heap.size (.slice D l.length q) (.slice D' l'.length q') := by rw [← hwa]; exact HeldB.new _ _ _
    have bxa := bx1.trans (ba.mono (by omega))
    have f1 : IR wa wa.heap.size D X := (i1.below ba).lift (by omega)
    have f1' : IR wa wa.heap.size D' l' := (i1'.below ba).lift (by omega)
    have C2 := Lib.hid (fun (j : Int) (w1 : World) (hb : Below wa.heap.size wa w1) => readAt_any D D' q q' X l' j wa.heap.size w1 hb.size hX hl' (f1.below hb) (f1'.below hb))
    unfold bankV at C2
    rw [HLN.out] at C2
    clear f1 f1' i1 i1' hX
    obtain ⟨p1, p2⟩ := g0.cells
    obtain ⟨p3, p4⟩ := g9.cells
    go_wp2_with fail
    clear hwa p1 p2 p3 p4
    go_loopw [10, 11, 12, 13, 14, 15, 16, 44] (fun _ _ _ _ _ _ _ i wr => ∃ j : Nat, j ≤ l.length ∧ i = .int .i64 (j : Int) ∧ Below wa.heap.size wa wr) (fun _ _ _ _ _ _ _ i _ => l.length - (intOf i).toNat)
    case atStart => exact ⟨0, Nat.zero_le _, rfl, Below.refl _ _⟩
    case round =>
      obtain ⟨j, hj, rfl, hb⟩ := hrel
      by_cases hlt : j < l.length
      · obtain ⟨q1, q2, q3, hq, hq'⟩ := HBR.out j hlt
        have C3' := Lib.hid (C3.out (j : Int))
        have C2' := Lib.hid (C2.out (j : Int))
        rw [hq] at C3'
        rw [hq'] at C2'
        simp only [three'] at C3' C2'
        have hv : ((j : Int) - (k : Int) + (l.length : Int)) % (l.length : Int) = (((j + l.length - k) % l.length : Nat) : Int) := by
          rw [Int.natCast_emod, show ((j + l.length - k : Nat) : Int) = (j : Int) - (k : Int) + (l.length : Int) by omega]
        have hvl : (j + l.length - k) % l.length < l.length := Nat.mod_lt _ (by omega)
        have hln0 : ((l.length : Int) == 0) = false := beq_eq_false_iff_ne.2 (by omega)
        clear hq hq' C3 C2
        generalize (j + l.length - k) % l.length = v at *
        obtain ⟨p1, p2⟩ := (g0.below hb (by omega)).cells
        have bxr := bxa.trans (hb.mono (by omega))
        have sr := hb.size
        by_cases hvm : v < m
        · rw [if_pos hvm] at C2'
          go_wp2_with fail
          refine (C3'.out wr bxr).mono ?_
          rintro e w3 ⟨rfl, hb3⟩
          obtain ⟨p3, p4⟩ := (g9.below (hb.trans (hb3.mono (by omega))) (by omega)).cells
          clear p1 p2
          go_wp2_with fail
          refine (C2'.out w3 (hb.trans (hb3.mono (by omega)))).mono ?_
          rintro e w4 ⟨rfl, hb4⟩
          have hb5 := (hb.trans (hb3.mono (by omega))).trans (hb4.mono (by have := hb3.size; omega))
          obtain ⟨p1, p2⟩ := (g0.below hb5 (by omega)).cells
          clear p3 p4
          go_wp2_with fail
          refine ⟨⟨j + 1, by omega, by go_num, hb5⟩, by simp [intOf]; omega⟩
        · rw [if_neg hvm] at C2'
          go_wp2_with fail
          refine (C3'.out wr bxr).mono ?_
          rintro e w3 ⟨rfl, hb3⟩
          obtain ⟨p3, p4⟩ := (g9.below (hb.trans (hb3.mono (by omega))) (by omega)).cells
          clear p1 p2
          go_wp2_with fail
          refine (C2'.out w3 (hb.trans (hb3.mono (by omega)))).mono ?_
          rintro e w4 ⟨rfl, hb4⟩
          have hb5 := (hb.trans (hb3.mono (by omega))).trans (hb4.mono (by have := hb3.size; omega))
          obtain ⟨p1, p2⟩ := (g0.below hb5 (by omega)).cells
          clear p3 p4
          go_wp2_with fail
          refine ⟨⟨j + 1, by omega, by go_num, hb5⟩, by simp [intOf]; omega⟩
      · have bxr := bxa.trans (hb.mono (by omega))
        go_wp2_with (first | (go_at_call 22; refine (awake_any _).mono ?_; rintro e w' ⟨rfl, rfl⟩) | fail)
        go_ret
        exact ⟨rfl, bxr⟩

set_option maxHeartbeats 1600000 in
set_option maxRecDepth 100000 in
theorem sameL_lifted (os : Os) (started : os.Started) (H : Type) (enc : TypeId × Value → H) :
    ReturnsInHanded {} Try.checked os 8 .any (Rows.memoryScrubbedReadsTheSameSpec.pre6 enc Try.prog Try.f8 Rows.memoryScrubbedReadsTheSameRow.domain false) (Rows.memoryScrubbedReadsTheSameSpec.post enc Try.prog Try.f8 false true false false) := by
  refine returnsInHanded_of_change (C := Try.checked) own started (by kernel_rfl) Try.func8
    (ChangeSpec.witness6 (enc := enc) (C := Try.checked) false ⟨#[], #[.agg #[.slice none 0 0, .slice none 0 0], .int .i64 0, .int .i64 0], []⟩ 8 (by kernel_rfl) (by kernel_rfl) (by kernel_rfl) (by kernel_rfl)) ?_
  intro W base args ds gs before hval0 hW _ _
  have hval : ∀ (j : Nat) t v, Try.f8.params[j]? = some t → args[j]? = some v → Value.okWide Try.prog W .any base t v := hval0
  have hW' := hW
  have hlt := fun x hx => hW'.lt x hx
  obtain ⟨p, q, hA0, hV, rfl, _, _⟩ := hW
  have hA : DataW.TrodAll enc Try.prog W 0 (fun _ => true) true Try.f8.params.toList args.toList ds p := hA0
  rw [Try.params8] at hA hval
  obtain ⟨v0, v1, v2, d0, d1, d2, p0, p1, p2, rfl, rfl, rfl, h0, h1, h2⟩ := trodAll_three hA
  obtain ⟨rfl, rfl⟩ := trodVars_none hV
  obtain ⟨Ab, Ab', cb, cb', b, b', rfl, hlb, hlb', hBb, hBb'⟩ := open_bank (fun x hx => hlt x (by simp [hx])) (hval 0 33 v0 rfl rfl) h0
  obtain ⟨n, rfl, rfl, rfl, wfn⟩ := open_int Try.underlying3 (hval 1 3 v1 rfl rfl) h1
  have hbn := bounds_i64 wfn
  obtain ⟨m, rfl, rfl, rfl, wfm⟩ := open_int Try.underlying3 (hval 2 3 v2 rfl rfl) h2
  have hbm := bounds_i64 wfm
  refine (lawSame_any Ab Ab' cb cb' b b' n m W hlb hlb' hBb hBb').mono fun e W' ⟨he, hb⟩ => ?_
  subst he
  exact ⟨_, rfl, law_post (by decide +kernel) rfl rfl hW' rfl hb⟩

set_option maxRecDepth 100000 in
theorem sameL_closed : joinedFacts Try.prog 8 Try.f8 Rows.memoryScrubbedReadsTheSameSpec Rows.memoryScrubbedReadsTheSameRow = true :=
  closed_all (by as_aux_lemma => kernel_rfl) (by as_aux_lemma => kernel_rfl) (by as_aux_lemma => kernel_rfl) (by as_aux_lemma => kernel_rfl) (by as_aux_lemma => kernel_rfl) (by as_aux_lemma => kernel_rfl) (by as_aux_lemma => kernel_rfl) (by as_aux_lemma => kernel_rfl) (by as_aux_lemma => kernel_rfl) (by as_aux_lemma => kernel_rfl) (by as_aux_lemma => kernel_rfl) (by as_aux_lemma => kernel_rfl) (by as_aux_lemma => kernel_rfl) (by as_aux_lemma => kernel_rfl) (by as_aux_lemma => kernel_rfl) (by as_aux_lemma => kernel_rfl) (by as_aux_lemma => kernel_rfl) (by as_aux_lemma => kernel_rfl) pKeys (by as_aux_lemma => kernel_rfl) pLifts pMake (by as_aux_lemma => kernel_rfl) (by as_aux_lemma => kernel_rfl) (by as_aux_lemma => kernel_rfl) (by as_aux_lemma => kernel_rfl)

theorem sameL_holds : Rows.MemoryScrubbedReadsTheSameSaid :=
  OpenClaim.holds_of_wide 8 Try.f8 rfl rfl rfl rfl rfl rfl rfl ⟨rfl, rfl, rfl, rfl, rfl⟩ rfl rfl rfl rfl rfl (by kernel_rfl) Try.func8 sameL_closed
    (of_decide_eq_true (by kernel_rfl)) (by unfold Func.isWrapper; first | (rw [if_pos (by decide +kernel)]; kernel_rfl) | (rw [if_neg (by decide +kernel)]; exact ⟨rfl, rfl⟩))
    (fun os started H enc _ => sameL_lifted os started H enc)
#print axioms sameL_holds
end Go.Proofs.Ytidddoldkedicaa
