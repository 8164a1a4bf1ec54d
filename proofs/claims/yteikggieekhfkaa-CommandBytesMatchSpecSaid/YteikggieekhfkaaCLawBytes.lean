/- OrderBytes and AckBytes answer as the reference does, and are read as what they were made of: the law CommandBytesMatchSpec answers true for every input. No condition. -/
import Derived.Test.YteikggieekhfkaaSameOrd
import Derived.Test.YteikggieekhfkaaCloseC
import Derived.Test.YteikggieekhfkaaClosed
import Derived.Laws.StructEq
namespace Go.Proofs.Yteikggieekhfkaa
open Go.ChangeShapes Go.WideShapes Go.ChangeAt Go.RowKit

theorem rd_out {c m : Int} {l : List UInt8} (h : ordS c m l.length = 0) : rdO (outO c m l) = (c, m, l, 0) := by
  obtain ⟨c0, c1, m0, m1⟩ := ord_ok h
  unfold outO
  rw [if_pos h]
  show (if ordS _ _ l.length = 0 then _ else _) = _
  rw [← byte_of c (by omega) (by omega), ← byte_of m (by omega) (by omega), if_pos h]
theorem out_len {c m : Int} {l : List UInt8} (h : ordS c m l.length = 0) : (outO c m l).length = l.length + 2 := by
  unfold outO
  rw [if_pos h]
  simp
theorem flags_bits (L R T : Bool) : ((flags L R T : Nat) ≤ 7) ∧ bitOf (flags L R T : Int) 1 = L ∧ bitOf (flags L R T : Int) 2 = R ∧ bitOf (flags L R T : Int) 4 = T := by
  cases L <;> cases R <;> cases T <;> decide +kernel
theorem rd_ack {n : Int} {L R T : Bool} (h : ackS n = 0) : rdA (outA n L R T) = (n, L, R, T, 0) := by
  have hn : 0 ≤ n ∧ n ≤ 255 := by unfold ackS at h; split at h; assumption; simp at h
  obtain ⟨h7, h1, h2, h4⟩ := flags_bits L R T
  unfold outA
  rw [if_pos h]
  have e : ((UInt8.ofNat (flags L R T)).toNat : Int) = (flags L R T : Int) := by rw [UInt8.toNat_ofNat']; omega
  show (if 7 < ((UInt8.ofNat (flags L R T)).toNat : Int) then _ else _) = _
  rw [e, if_neg (by omega), h1, h2, h4, ← byte_of n hn.1 hn.2]
theorem ack_len {n : Int} {L R T : Bool} : (outA n L R T).length ≤ 2 := by
  unfold outA
  split <;> simp [ackB]
theorem lt_of_box (w : World) (C C' : Array Value) (t t' : TypeId) : Blk ((w.alloc (.cells C t)).alloc (.cells C' t')) w.heap.size C t ∧ Blk ((w.alloc (.cells C t)).alloc (.cells C' t')) (w.heap.size + 1) C' t' := ⟨(Blk.new w _ _).alloc _, Blk.snd w _ _ _⟩
set_option maxRecDepth 100000 in
set_option maxHeartbeats 2000000 in
theorem lawBytes_any (c m : Int) (A : Option Addr) (l : List UInt8) (k : Nat) (n : Int) (L R T : Bool) (w : World) (h : BR w w.heap.size A l) :
    Calls Try.prog 13 #[ordV c m A l.length k, ackV n L R T] w fun e w' => e = .returned (.bool true) ∧ Below w.heap.size w w' := by
  have C1 := Lib.hid (fun (w1 : World) (hb : Below w.heap.size w w1) => p_orderBytes_any c m A l k w.heap.size w1 hb.size (h.below hb))
  have C2 := Lib.hid (fun (w1 : World) (hb : Below w.heap.size w w1) => r_orderBytes_any c m A l k w.heap.size w1 hb.size (h.below hb))
  have C3 := Lib.hid (p_ackBytes_any n L R T)
  have C4 := Lib.hid (r_ackBytes_any n L R T)
  have hro := @rd_out c m l
  have hol := @out_len c m l
  have hbl := @bod_len c m l.length
  have hra := @rd_ack n L R T
  have hal := @ack_len n L R T
  have hob : ordS c m l.length ≠ 0 → outO c m l = [] := fun q => by unfold outO; rw [if_neg q]
  generalize outO c m l = X at *
  generalize outA n L R T = Y at *
  unfold BytesPost at C1 C2 C3 C4
  have HB2 := Lib.hid (two_new w)
  obtain ⟨w0, hw0⟩ : ∃ w0, (w.alloc (.cells (ordC c m A l.length k) 26)).alloc (.cells (ackC n L R T) 32) = w0 := ⟨_, rfl⟩
  have B0 : Below w.heap.size w w0 := by rw [← hw0]; exact two_new w _ _
  have g0 : Blk w0 w.heap.size (ordC c m A l.length k) 26 := by rw [← hw0]; exact (Blk.new w _ _).alloc _
  have g1 : Blk w0 (w.heap.size + 1) (ackC n L R T) 32 := by rw [← hw0]; exact Blk.snd w _ _ _
  have hr0 := (h.below B0).lift B0.size
  unfold ordC ackC at hw0
  generalize ordS c m l.length = F at *
  generalize hG : ackS n = G at *
  unfold ordV ackV at *
  clear h HB2
  have HW0 := Lib.hid hw0
  clear hw0
  by_cases hF : F = 0
  · have hxl : X.length ≤ 9223372036854775807 := by have := hol hF; have := hbl hF; omega
    have HXL := Lib.hid (show X.length ≤ 140737488355328 by have := hol hF; have := hbl hF; omega)
    have HLL := Lib.hid (hbl hF)
    have HRO := Lib.hid (hro hF)
    have hf0 : (F == 0) = true := by simpa using hF
    have HRA := Lib.hid hra
    clear hF hro hol hbl hob hra
    go_enter Try.func13, Try.ntmps13
    have hw0 := HW0.out
    obtain ⟨p0, p1, p2⟩ := blk_o g0
    go_wp2_with fail
    refine (C1.out _ B0).mono ?_
    rintro e w1 ⟨A1, k1, rfl, hr1, hb1, hk1⟩
    clear p0 p1 p2 hw0 C1
    have g0 := g0.below hb1 g0.lt
    have g1 := g1.below hb1 g1.lt
    have hr0 := (hr0.below hb1).lift hb1.size
    have B1 := B0.trans (hb1.mono B0.size)
    clear hb1 B0
    obtain ⟨p0, p1, p2⟩ := blk_o g0
    go_wp2_with fail
    refine (C2.out _ B1).mono ?_
    rintro e w2 ⟨A2, k2, rfl, hr2, hb2, -⟩
    clear p0 p1 p2 C2
    have g0 := g0.below hb2 g0.lt
    have g1 := g1.below hb2 g1.lt
    have hr0 := (hr0.below hb2).lift hb2.size
    have hr1 := (hr1.below hb2).lift hb2.size
    have B2 := B1.trans (hb2.mono B1.size)
    clear hb2 B1
    have HEQ := Lib.hid (equal_yes A1 A2 k1 k2 X _ w2 hxl hr1 hr2)
    have hff : (F != F) = false := by simp
    clear hr2
    go_wp2_with fail
    refine HEQ.out.mono ?_
    rintro e w3 ⟨rfl, hb3⟩
    clear HEQ hff
    have g0 := g0.below hb3 g0.lt
    have g1 := g1.below hb3 g1.lt
    have hr0 := (hr0.below hb3).lift hb3.size
    have hr1 := (hr1.below hb3).lift hb3.size
    have B3 := B2.trans (hb3.mono B2.size)
    clear hb3 B2
    go_wp2_with fail
    refine (awake_any _).mono ?_
    rintro e w4 ⟨rfl, hb4⟩
    have g0 := g0.below hb4 g0.lt
    have g1 := g1.below hb4 g1.lt
    have hr0 := (hr0.below hb4).lift hb4.size
    have hr1 := (hr1.below hb4).lift hb4.size
    have B4 := B3.trans (hb4.mono B3.size)
    clear hb4 B3
    have HRD := Lib.hid (p_readOrder_any A1 X k1 _ w4 (Nat.le_refl _) hk1 HXL.out hr1)
    unfold OrdPost at HRD
    rw [HRO.out] at HRD
    unfold ordV at HRD
    simp only at HRD
    have hl2 := HLL.out
    go_wp2_with fail
    refine HRD.out.mono ?_
    rintro e w5 ⟨A5, k5, rfl, hr5, hb5⟩
    clear HRD hr1 hf0
    have g0 := g0.below hb5 g0.lt
    have g1 := g1.below hb5 g1.lt
    have hr0 := (hr0.below hb5).lift hb5.size
    have B5 := B4.trans (hb5.mono B4.size)
    clear hb5 B4
    generalize hwx : w5.alloc (.cells (ordC c m A5 l.length k5) 26) = wx
    have bx : Below w5.heap.size w5 wx := by rw [← hwx]; exact (Below.refl _ _).alloc (Nat.le_refl _) _
    have sx : w5.heap.size + 1 = wx.heap.size := by rw [← hwx]; simp
    have g5 : Blk wx w5.heap.size (ordC c m A5 l.length k5) 26 := by rw [← hwx]; exact Blk.new w5 _ _
    have g0 := g0.below bx g0.lt
    have g1 := g1.below bx g1.lt
    have hr0 := (hr0.below bx).lift bx.size
    have hr5 := (hr5.below bx).lift bx.size
    have Bx := B5.trans (bx.mono B5.size)
    unfold ordC at hwx
    have HS := Lib.hid (sameOrder_yes c m A A5 l k k5 _ wx (Nat.le_refl _) (by omega) hr0 hr5)
    unfold ordV at HS
    obtain ⟨p0, p1, p2⟩ := blk_o g0
    obtain ⟨q0, q1, q2⟩ := blk_o g5
    clear hr0 hr5 B5 bx
    go_wp2_with fail
    refine HS.out.mono ?_
    rintro e wz ⟨rfl, hbz⟩
    clear hwx p0 p1 p2 q0 q1 q2 HS
    have gA := g1.below hbz g1.lt
    have BZ := Bx.trans (hbz.mono Bx.size)
    clear hbz Bx g0 g1 g5
    obtain ⟨p0, p1, p2, p3⟩ := blk_a gA
    go_wp2_with fail
    refine (C3.out _).mono ?_
    rintro e w6 ⟨A6, k6, rfl, hr6, hb6, -⟩
    clear p0 p1 p2 p3 C3
    have gA := gA.below hb6 gA.lt
    have B6 := BZ.trans (hb6.mono BZ.size)
    clear hb6 BZ
    obtain ⟨p0, p1, p2, p3⟩ := blk_a gA
    go_wp2_with fail
    refine (C4.out _).mono ?_
    rintro e w7 ⟨A7, k7, rfl, hr7, hb7, -⟩
    clear p0 p1 p2 p3 C4
    have gA := gA.below hb7 gA.lt
    have B7 := B6.trans (hb7.mono B6.size)
    have hr6 := (hr6.below hb7).lift hb7.size
    clear hb7 B6
    have HEQ := Lib.hid (equal_yes A6 A7 k6 k7 Y _ w7 (by omega) hr6 hr7)
    have hgg : (G != G) = false := by simp
    clear hr7
    go_wp2_with fail
    refine HEQ.out.mono ?_
    rintro e w8 ⟨rfl, hb8⟩
    clear HEQ hgg
    have gA := gA.below hb8 gA.lt
    have B8 := B7.trans (hb8.mono B7.size)
    have hr6 := (hr6.below hb8).lift hb8.size
    clear hb8 B7
    by_cases hG0 : G = 0
    · have hg0 : (G != 0) = false := by simpa using hG0
      have HG0 := Lib.hid (p_readAck_any A6 Y k6 _ w8 (Nat.le_refl _) (by omega) hr6)
      unfold AckPost at HG0
      rw [HRA.out hG0] at HG0
      unfold ackV at HG0
      simp only at HG0
      clear hG0 hal
      go_wp2_with fail
      refine HG0.out.mono ?_
      rintro e w9 ⟨rfl, hb9⟩
      have gA := gA.below hb9 gA.lt
      have B9 := B8.trans (hb9.mono B8.size)
      have hlt := gA.lt
      obtain ⟨p0, p1, p2, p3⟩ := blk_a gA
      clear HG0 hb9 B8
      go_wp2_with fail
      go_ret
      exact ⟨rfl, B9.alloc B9.size _⟩
    · have hg0 : (G != 0) = true := by simpa using hG0
      clear hG0 hal
      go_wp2_with fail
      go_ret
      exact ⟨rfl, B8⟩
  · have hxl : X.length ≤ 9223372036854775807 := by rw [hob hF]; simp
    have hf0 : (F == 0) = false := by simpa using hF
    have HRA := Lib.hid hra
    clear hF hro hol hbl hob hra
    go_enter Try.func13, Try.ntmps13
    have hw0 := HW0.out
    obtain ⟨p0, p1, p2⟩ := blk_o g0
    go_wp2_with fail
    refine (C1.out _ B0).mono ?_
    rintro e w1 ⟨A1, k1, rfl, hr1, hb1, hk1⟩
    clear p0 p1 p2 hw0 C1
    have g0 := g0.below hb1 g0.lt
    have g1 := g1.below hb1 g1.lt
    have hr0 := (hr0.below hb1).lift hb1.size
    have B1 := B0.trans (hb1.mono B0.size)
    clear hb1 B0
    obtain ⟨p0, p1, p2⟩ := blk_o g0
    go_wp2_with fail
    refine (C2.out _ B1).mono ?_
    rintro e w2 ⟨A2, k2, rfl, hr2, hb2, -⟩
    clear p0 p1 p2 C2
    have g0 := g0.below hb2 g0.lt
    have g1 := g1.below hb2 g1.lt
    have hr0 := (hr0.below hb2).lift hb2.size
    have hr1 := (hr1.below hb2).lift hb2.size
    have B2 := B1.trans (hb2.mono B1.size)
    clear hb2 B1
    have HEQ := Lib.hid (equal_yes A1 A2 k1 k2 X _ w2 hxl hr1 hr2)
    have hff : (F != F) = false := by simp
    clear hr2
    go_wp2_with fail
    refine HEQ.out.mono ?_
    rintro e w3 ⟨rfl, hb3⟩
    clear HEQ hff
    have g0 := g0.below hb3 g0.lt
    have g1 := g1.below hb3 g1.lt
    have hr0 := (hr0.below hb3).lift hb3.size
    have hr1 := (hr1.below hb3).lift hb3.size
    have B3 := B2.trans (hb3.mono B2.size)
    clear hb3 B2
    go_wp2_with fail
    refine (awake_any _).mono ?_
    rintro e w4 ⟨rfl, hb4⟩
    have g0 := g0.below hb4 g0.lt
    have g1 := g1.below hb4 g1.lt
    have hr0 := (hr0.below hb4).lift hb4.size
    have hr1 := (hr1.below hb4).lift hb4.size
    have B4 := B3.trans (hb4.mono B3.size)
    clear hb4 B3
    have gA := g1
    have BZ := B4
    clear g0 g1 hr0 hr1 B4
    obtain ⟨p0, p1, p2, p3⟩ := blk_a gA
    go_wp2_with fail
    refine (C3.out _).mono ?_
    rintro e w6 ⟨A6, k6, rfl, hr6, hb6, -⟩
    clear p0 p1 p2 p3 C3
    have gA := gA.below hb6 gA.lt
    have B6 := BZ.trans (hb6.mono BZ.size)
    clear hb6 BZ
    obtain ⟨p0, p1, p2, p3⟩ := blk_a gA
    go_wp2_with fail
    refine (C4.out _).mono ?_
    rintro e w7 ⟨A7, k7, rfl, hr7, hb7, -⟩
    clear p0 p1 p2 p3 C4
    have gA := gA.below hb7 gA.lt
    have B7 := B6.trans (hb7.mono B6.size)
    have hr6 := (hr6.below hb7).lift hb7.size
    clear hb7 B6
    have HEQ := Lib.hid (equal_yes A6 A7 k6 k7 Y _ w7 (by omega) hr6 hr7)
    have hgg : (G != G) = false := by simp
    clear hr7
    go_wp2_with fail
    refine HEQ.out.mono ?_
    rintro e w8 ⟨rfl, hb8⟩
    clear HEQ hgg
    have gA := gA.below hb8 gA.lt
    have B8 := B7.trans (hb8.mono B7.size)
    have hr6 := (hr6.below hb8).lift hb8.size
    clear hb8 B7
    by_cases hG0 : G = 0
    · have hg0 : (G != 0) = false := by simpa using hG0
      have HG0 := Lib.hid (p_readAck_any A6 Y k6 _ w8 (Nat.le_refl _) (by omega) hr6)
      unfold AckPost at HG0
      rw [HRA.out hG0] at HG0
      unfold ackV at HG0
      simp only at HG0
      clear hG0 hal
      go_wp2_with fail
      refine HG0.out.mono ?_
      rintro e w9 ⟨rfl, hb9⟩
      have gA := gA.below hb9 gA.lt
      have B9 := B8.trans (hb9.mono B8.size)
      have hlt := gA.lt
      obtain ⟨p0, p1, p2, p3⟩ := blk_a gA
      clear HG0 hb9 B8
      go_wp2_with fail
      go_ret
      exact ⟨rfl, B9.alloc B9.size _⟩
    · have hg0 : (G != 0) = true := by simpa using hG0
      clear hG0 hal
      go_wp2_with fail
      go_ret
      exact ⟨rfl, B8⟩

set_option maxHeartbeats 1600000 in
set_option maxRecDepth 100000 in
theorem codes_lifted (os : Os) (started : os.Started) (H : Type) (enc : TypeId × Value → H) :
    ReturnsInHanded {} Try.checked os 13 .any (Rows.commandBytesMatchSpecSpec.pre6 enc Try.prog Try.f13 Rows.commandBytesMatchSpecRow.domain false) (Rows.commandBytesMatchSpecSpec.post enc Try.prog Try.f13 false true false false) := by
  refine returnsInHanded_of_change (C := Try.checked) own started (by kernel_rfl) Try.func13
    (ChangeSpec.witness6 (enc := enc) (C := Try.checked) false ⟨#[], #[.agg #[.int .i64 0, .int .i64 0, .slice none 0 0], .agg #[.int .i64 0, .bool false, .bool false, .bool false]], []⟩ 8 (by kernel_rfl) (by kernel_rfl) (by kernel_rfl) (by kernel_rfl)) ?_
  intro W base args ds gs before hval0 hW _ _
  have hval : ∀ (j : Nat) t v, Try.f13.params[j]? = some t → args[j]? = some v → Value.okWide Try.prog W .any base t v := hval0
  have hW' := hW
  have hlt := fun x hx => hW'.lt x hx
  obtain ⟨p, q, hA0, hV, rfl, _, _⟩ := hW
  have hA : DataW.TrodAll enc Try.prog W 0 (fun _ => true) true Try.f13.params.toList args.toList ds p := hA0
  rw [Try.params13] at hA hval
  obtain ⟨v0, v1, d0, d1, p0, p1, rfl, rfl, rfl, h0, h1⟩ := trodAll_two hA
  obtain ⟨rfl, rfl⟩ := trodVars_none hV
  obtain ⟨cc, mc, Ac, lc, zc, rfl, hcc, hmc, hlc, hzc, hBc⟩ := open_ord (fun x hx => hlt x (by simp [hx])) (hval 0 26 v0 rfl rfl) h0
  obtain ⟨na, La, Ra, Ta, rfl, hna⟩ := open_ack (hval 1 32 v1 rfl rfl) h1
  refine (lawBytes_any cc mc Ac lc zc na La Ra Ta W hBc).mono fun e W' ⟨he, hb⟩ => ?_
  subst he
  exact ⟨_, rfl, law_post (by decide +kernel) rfl rfl hW' rfl hb⟩

set_option maxRecDepth 100000 in
theorem codes_closed : joinedFacts Try.prog 13 Try.f13 Rows.commandBytesMatchSpecSpec Rows.commandBytesMatchSpecRow = true :=
  closed_all (by as_aux_lemma => kernel_rfl) (by as_aux_lemma => kernel_rfl) (by as_aux_lemma => kernel_rfl) (by as_aux_lemma => kernel_rfl) (by as_aux_lemma => kernel_rfl) (by as_aux_lemma => kernel_rfl) (by as_aux_lemma => kernel_rfl) (by as_aux_lemma => kernel_rfl) (by as_aux_lemma => kernel_rfl) (by as_aux_lemma => kernel_rfl) (by as_aux_lemma => kernel_rfl) (by as_aux_lemma => kernel_rfl) (by as_aux_lemma => kernel_rfl) (by as_aux_lemma => kernel_rfl) (by as_aux_lemma => kernel_rfl) (by as_aux_lemma => kernel_rfl) (by as_aux_lemma => kernel_rfl) (by as_aux_lemma => kernel_rfl) pKeys (by as_aux_lemma => kernel_rfl) pLifts pMake (by as_aux_lemma => kernel_rfl) (by as_aux_lemma => kernel_rfl) (by as_aux_lemma => kernel_rfl) (by as_aux_lemma => kernel_rfl)

theorem codes_holds : Rows.CommandBytesMatchSpecSaid :=
  OpenClaim.holds_of_wide 13 Try.f13 rfl rfl rfl rfl rfl rfl rfl ⟨rfl, rfl, rfl, rfl, rfl⟩ rfl rfl rfl rfl rfl (by kernel_rfl) Try.func13 codes_closed
    (of_decide_eq_true (by kernel_rfl)) (by unfold Func.isWrapper; first | (rw [if_pos (by decide +kernel)]; kernel_rfl) | (rw [if_neg (by decide +kernel)]; exact ⟨rfl, rfl⟩))
    (fun os started H enc _ => codes_lifted os started H enc)
#print axioms codes_holds
end Go.Proofs.Yteikggieekhfkaa
