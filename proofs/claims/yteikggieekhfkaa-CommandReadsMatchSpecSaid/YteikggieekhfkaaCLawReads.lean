/- ReadOrder and ReadAck answer as the reference does: the law CommandReadsMatchSpec answers true for every input. No condition. -/
import Derived.Test.YteikggieekhfkaaSameOrd
import Derived.Test.YteikggieekhfkaaCloseC
import Derived.Test.YteikggieekhfkaaClosed
import Derived.Laws.StructEq
namespace Go.Proofs.Yteikggieekhfkaa
open Go.ChangeShapes Go.WideShapes Go.ChangeAt Go.RowKit

theorem rdO_len (l : List UInt8) : (rdO l).2.2.1.length ≤ l.length := by
  match l with
  | [] => exact Nat.le_refl _
  | [_] => exact Nat.zero_le _
  | x :: y :: r =>
    show (if ordS (x.toNat : Int) (y.toNat : Int) r.length = 0 then ((x.toNat : Int), (y.toNat : Int), r, (0 : Int)) else (0, 0, [], ordS (x.toNat : Int) (y.toNat : Int) r.length)).2.2.1.length ≤ _
    split
    · simp; omega
    · simp
set_option maxRecDepth 100000 in
set_option maxHeartbeats 2000000 in
theorem lawReads_any (A : Option Addr) (l : List UInt8) (k : Nat) (w : World) (hk : l.length ≤ k) (hs : l.length ≤ 140737488355328) (h : BR w w.heap.size A l) :
    Calls Try.prog 14 #[.slice A l.length k] w fun e w' => e = .returned (.bool true) ∧ Below w.heap.size w w' := by
  have C1 := Lib.hid (p_readOrder_any A l k w.heap.size w (Nat.le_refl _) hk hs h)
  have C2 := Lib.hid (fun (w1 : World) (hb : Below w.heap.size w w1) => r_readOrder_any A l k w.heap.size w1 hb.size hk hs (h.below hb))
  have C3 := Lib.hid (fun (w1 : World) (hb : Below w.heap.size w w1) => p_readAck_any A l k w.heap.size w1 hb.size (by omega) (h.below hb))
  have C4 := Lib.hid (fun (w1 : World) (hb : Below w.heap.size w w1) => r_readAck_any A l k w.heap.size w1 hb.size (by omega) (h.below hb))
  have hrl := rdO_len l
  generalize rdO l = X at *
  obtain ⟨c, m, r, F⟩ := X
  generalize rdA l = Y at *
  obtain ⟨n, L, R, T, G⟩ := Y
  unfold OrdPost at C1 C2
  unfold AckPost at C3 C4
  unfold ordV at C1 C2
  unfold ackV at C3 C4
  simp only at C1 C2 C3 C4 hrl
  have HRL := Lib.hid hrl
  clear hrl h
  go_enter Try.func14, Try.ntmps14
  go_wp2_with fail
  refine C1.out.mono ?_
  rintro e w1 ⟨A1, k1, rfl, hr1, hb1⟩
  clear C1
  generalize hwa : w1.alloc (.cells (ordC c m A1 r.length k1) 26) = wa
  have g1 : Blk wa w1.heap.size (ordC c m A1 r.length k1) 26 := by rw [← hwa]; exact Blk.new w1 _ _
  have ba : Below w1.heap.size w1 wa := by rw [← hwa]; exact (Below.refl _ _).alloc (Nat.le_refl _) _
  have sa : w1.heap.size + 1 = wa.heap.size := by rw [← hwa]; simp
  have Ba := hb1.trans (ba.mono hb1.size)
  have hr1 := (hr1.below ba).lift (show w1.heap.size ≤ wa.heap.size by omega)
  unfold ordC at hwa
  have s1 := hb1.size
  clear hb1 ba
  go_wp2_with fail
  refine (C2.out _ Ba).mono ?_
  rintro e w2 ⟨A2, k2, rfl, hr2, hb2⟩
  clear C2 hwa
  have s2 := hb2.size
  have g1 := g1.below hb2 (by omega)
  have hr1 := (hr1.below hb2).lift s2
  have B2 := Ba.trans (hb2.mono (by omega))
  clear hb2 Ba
  generalize hwb : w2.alloc (.cells (ordC c m A2 r.length k2) 26) = wb
  have g1 : Blk wb w1.heap.size (ordC c m A1 r.length k1) 26 := by rw [← hwb]; exact g1.alloc _
  have g2 : Blk wb w2.heap.size (ordC c m A2 r.length k2) 26 := by rw [← hwb]; exact Blk.new w2 _ _
  have bb : Below w2.heap.size w2 wb := by rw [← hwb]; exact (Below.refl _ _).alloc (Nat.le_refl _) _
  have sb : w2.heap.size + 1 = wb.heap.size := by rw [← hwb]; simp
  have Bb := B2.trans (bb.mono B2.size)
  have hr1 := (hr1.below bb).lift (show w2.heap.size ≤ wb.heap.size by omega)
  have hr2 := (hr2.below bb).lift (show w2.heap.size ≤ wb.heap.size by omega)
  unfold ordC at hwb
  have HS := Lib.hid (fun (c m : Int) => sameOrder_yes c m A1 A2 r k1 k2 _ wb (Nat.le_refl _) (by have := HRL.out; omega) hr1 hr2)
  unfold ordV at HS
  obtain ⟨p0, p1, p2⟩ := blk_o g1
  obtain ⟨q0, q1, q2⟩ := blk_o g2
  have hff : (F != F) = false := by simp
  clear bb B2 hr1 hr2 g1 g2
  go_wp2_with fail
  refine (HS.out _ _).mono ?_
  rintro e w3 ⟨rfl, hb3⟩
  clear HS hwb p0 p1 p2 q0 q1 q2 hff
  have s3 := hb3.size
  have B3 := Bb.trans (hb3.mono Bb.size)
  clear Bb hb3
  go_wp2_with fail
  refine (C3.out _ B3).mono ?_
  rintro e w4 ⟨rfl, hb4⟩
  clear C3
  have s4 := hb4.size
  have B4 := B3.trans (hb4.mono B3.size)
  clear hb4 B3
  generalize hwc : w4.alloc (.cells (ackC n L R T) 32) = wc
  have g1 : Blk wc w4.heap.size (ackC n L R T) 32 := by rw [← hwc]; exact Blk.new w4 _ _
  have Bc : Below w.heap.size w wc := by rw [← hwc]; exact B4.alloc B4.size _
  unfold ackC at hwc
  go_wp2_with fail
  refine (C4.out _ Bc).mono ?_
  rintro e w5 ⟨rfl, hb5⟩
  clear C4 hwc B4
  have g1 := g1.below hb5 g1.lt
  have B5 := Bc.trans (hb5.mono Bc.size)
  have hlt := g1.lt
  obtain ⟨p0, p1, p2, p3⟩ := blk_a g1
  clear hb5 Bc
  go_wp2_with (first | (go_at_call 21; refine (awake_any _).mono ?_; rintro e w7 ⟨rfl, hb7⟩) | fail)
  go_ret
  exact ⟨rfl, (B5.alloc B5.size _).trans (hb7.mono (by simp; have := B5.size; omega))⟩

set_option maxHeartbeats 1600000 in
set_option maxRecDepth 100000 in
theorem reads_lifted (os : Os) (started : os.Started) (H : Type) (enc : TypeId × Value → H) :
    ReturnsInHanded {} Try.checked os 14 .any (Rows.commandReadsMatchSpecSpec.pre6 enc Try.prog Try.f14 Rows.commandReadsMatchSpecRow.domain false) (Rows.commandReadsMatchSpecSpec.post enc Try.prog Try.f14 false true false false) := by
  refine returnsInHanded_of_change_sized (C := Try.checked) own started (by kernel_rfl) Try.func14
    (ChangeSpec.witness6 (enc := enc) (C := Try.checked) false ⟨#[], #[.slice none 0 0], []⟩ 8 (by kernel_rfl) (by kernel_rfl) (by kernel_rfl) (by kernel_rfl)) ?_
  intro W base args ds gs before hval0 hW _ hsz0 _
  have hval : ∀ (j : Nat) t v, Try.f14.params[j]? = some t → args[j]? = some v → Value.okWide Try.prog W .any base t v := hval0
  have hW' := hW
  have hlt := fun x hx => hW'.lt x hx
  obtain ⟨p, q, hA0, hV, rfl, _, _⟩ := hW
  have hA : DataW.TrodAll enc Try.prog W 0 (fun _ => true) true Try.f14.params.toList args.toList ds p := hA0
  have hsz : (DataW.weightsEach Try.prog (Try.f14.params.toList ++ Rows.commandReadsMatchSpecSpec.plain.varTypes Try.prog) (ds ++ gs)).all (· ≤ reachBytes) = true := hsz0
  rw [Try.params14] at hA hval hsz
  obtain ⟨v0, d0, rfl, rfl, h0⟩ := trodAll_one hA
  obtain ⟨rfl, rfl⟩ := trodVars_none hV
  obtain ⟨Ab', lenb, capb, rfl⟩ := okWide_slice Try.underlying24 (hval 0 24 v0 rfl rfl)
  obtain ⟨nb, hnb⟩ := h0
  obtain ⟨Ab, cb, b, hvb, hlcb, hcb, hBb, hdb⟩ := open_u8d (fun x hx => hlt x (by simpa using hx)) hnb
  have hmb : b.length ≤ 140737488351232 := by
    rcases hdb with rfl | ⟨el, sp, e, hle⟩
    · simp
    · obtain rfl : d0 = .slice el sp := e
      have := sized_slice hsz (j := 0) (t := 24) (e := 5) (elems := el) (spare := sp) rfl rfl Try.underlying24
      rw [show Try.prog.bytesOf 5 = 1 by kernel_rfl] at this
      unfold reachBytes at this
      omega
  rw [hvb] at hW' ⊢
  refine (lawReads_any Ab b cb W hlcb (by omega) hBb).mono fun e W' ⟨he, hb⟩ => ?_
  subst he
  exact ⟨_, rfl, law_post (by decide +kernel) rfl rfl hW' rfl hb⟩

set_option maxRecDepth 100000 in
theorem reads_closed : joinedFacts Try.prog 14 Try.f14 Rows.commandReadsMatchSpecSpec Rows.commandReadsMatchSpecRow = true :=
  closed_all (by as_aux_lemma => kernel_rfl) (by as_aux_lemma => kernel_rfl) (by as_aux_lemma => kernel_rfl) (by as_aux_lemma => kernel_rfl) (by as_aux_lemma => kernel_rfl) (by as_aux_lemma => kernel_rfl) (by as_aux_lemma => kernel_rfl) (by as_aux_lemma => kernel_rfl) (by as_aux_lemma => kernel_rfl) (by as_aux_lemma => kernel_rfl) (by as_aux_lemma => kernel_rfl) (by as_aux_lemma => kernel_rfl) (by as_aux_lemma => kernel_rfl) (by as_aux_lemma => kernel_rfl) (by as_aux_lemma => kernel_rfl) (by as_aux_lemma => kernel_rfl) (by as_aux_lemma => kernel_rfl) (by as_aux_lemma => kernel_rfl) pKeys (by as_aux_lemma => kernel_rfl) pLifts pMake (by as_aux_lemma => kernel_rfl) (by as_aux_lemma => kernel_rfl) (by as_aux_lemma => kernel_rfl) (by as_aux_lemma => kernel_rfl)

theorem reads_holds : Rows.CommandReadsMatchSpecSaid :=
  OpenClaim.holds_of_wide 14 Try.f14 rfl rfl rfl rfl rfl rfl rfl ⟨rfl, rfl, rfl, rfl, rfl⟩ rfl rfl rfl rfl rfl (by kernel_rfl) Try.func14 reads_closed
    (of_decide_eq_true (by kernel_rfl)) (by unfold Func.isWrapper; first | (rw [if_pos (by decide +kernel)]; kernel_rfl) | (rw [if_neg (by decide +kernel)]; exact ⟨rfl, rfl⟩))
    (fun os started H enc _ => reads_lifted os started H enc)
#print axioms reads_holds
end Go.Proofs.Yteikggieekhfkaa
