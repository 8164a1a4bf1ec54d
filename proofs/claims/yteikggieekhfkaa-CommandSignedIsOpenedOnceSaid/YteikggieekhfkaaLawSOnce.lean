/- A signed command is opened once, with its body and its counter, if this may come: the law CommandSignedIsOpenedOnce answers true for every input. No condition. -/
import Derived.Test.YteikggieekhfkaaKeyOpen
import Derived.Test.YteikggieekhfkaaAwk
import Derived.Test.YteikggieekhfkaaClosed
namespace Go.Proofs.Yteikggieekhfkaa
open Go.ChangeShapes Go.WideShapes Go.ChangeAt Go.RowKit

/-- what opening a signed command says -/
theorem opd_signed {key least n : Int} {l : List Int} {body : List UInt8} (h : signC key n body.length = 0) (hk : keysS key least l = 0) : opdF key least l (signR key n body) = if n < least ∨ n ∈ l then 7 else if least + 64 < n then 11 else 0 := by
  unfold opdF signR
  rw [if_pos hk, if_pos h, open_signed h]
theorem sign_bounds {key n : Int} {m : Nat} (h : signC key n m = 0) : (0 ≤ n ∧ n ≤ 1000000000) ∧ m ≤ 200 := by
  unfold signC at h
  split at h
  · rename_i hh
    have := hh.2
    unfold ctrB at this
    simp only [decide_eq_true_eq] at this
    exact ⟨this, bodS_le h⟩
  · simp at h
theorem open_parts {key least n : Int} {l : List Int} {body : List UInt8} (h : signC key n body.length = 0) (h0 : openC key least l (signL key n body) = 0) : openB key least l (signL key n body) = body ∧ openN key least l (signL key n body) = n := by
  obtain ⟨hc, hb⟩ := sign_bounds h
  obtain ⟨m, hm⟩ : ∃ m : Nat, n = (m : Int) := ⟨n.toNat, by omega⟩
  unfold openB openN
  rw [if_pos h0, if_pos h0]
  subst hm
  unfold signL
  rw [u64_nat m (by omega)]
  have he8 : (bigE m 8).length = 8 := bigE_len m 8
  generalize hP : bigE m 8 ++ body = P
  have hl : (P ++ bigE (sgN key P) 8).length = P.length + 8 := by simp [bigE_len]
  have ht8 : (P ++ bigE (sgN key P) 8).take 8 = bigE m 8 := by
    rw [← hP, List.append_assoc]
    conv => lhs; rw [← he8]
    exact List.take_left
  rw [ht8, bigN_bigE 8 m (by omega), hl, show P.length + 8 - 8 = P.length by omega, List.take_left, ← hP]
  refine ⟨?_, rfl⟩
  conv => lhs; rw [← he8]
  exact List.drop_left
/-- all that the law asks of what opens -/
theorem once_good {key least n : Int} {l : List Int} {body : List UInt8} (h : signC key n body.length = 0) (hk : keysS key least l = 0) (h1 : least ≤ n) (h2 : n ≤ least + 64) (h3 : n ∉ l) :
    opdF key least l (signR key n body) = 0 ∧ opdN key least l (signR key n body) = n ∧ opdB key least l (signR key n body) = body ∧ ∃ a r, opdK key least l (signR key n body) = (key, a, r) ∧ keysS key a r = 0 ∧ opdF key a r (signR key n body) = 7 := by
  have hF := opd_signed h hk
  rw [if_neg (by simp only [not_or]; exact ⟨by omega, h3⟩), if_neg (by omega)] at hF
  obtain ⟨g1, g2, g3⟩ := opd_good hF
  have hR : signR key n body = signL key n body := by unfold signR; rw [if_pos h]
  have hC : openC key least l (signL key n body) = 0 := by
    unfold opdF at hF
    rw [if_pos hk, hR] at hF
    exact hF
  obtain ⟨o1, o2⟩ := open_parts h hC
  rw [hR] at hF g1 g2 g3 ⊢
  obtain ⟨hkb, hr⟩ := (keys_zero key least l).1 hk
  obtain ⟨hc, -⟩ := sign_bounds h
  refine ⟨hF, by rw [g3, o2], by rw [g2, o1], (seenS least l n).1, (seenS least l n).2, by rw [g1, o2], ?_, ?_⟩
  · exact (keys_zero _ _ _).2 ⟨hkb, seen_right hr h1 h2 hc.2 h3⟩
  · have hk2 := (keys_zero key (seenS least l n).1 (seenS least l n).2).2 ⟨hkb, seen_right hr h1 h2 hc.2 h3⟩
    have := opd_signed (l := (seenS least l n).2) h hk2
    rw [hR] at this
    rw [this, if_pos (seen_mem least n l)]
theorem signR_len {key n : Int} {body : List UInt8} (h : signC key n body.length = 0) : (signR key n body).length ≤ 216 := by
  obtain ⟨-, hb⟩ := sign_bounds h
  unfold signR
  rw [if_pos h]
  unfold signL
  simp [bigE_len]
  omega
theorem signR_none {key n : Int} {body : List UInt8} (h : signC key n body.length ≠ 0) : signR key n body = [] := by
  unfold signR
  rw [if_neg h]
set_option maxRecDepth 100000 in
set_option maxHeartbeats 4000000 in
theorem lawSOnce_any (key least : Int) (SA : Option Addr) (l : List Int) (sc : Nat) (n : Int) (A : Option Addr) (body : List UInt8) (c : Nat) (w : World) (hl : l.length ≤ 9223372036854775807) (hSn : SA = none → sc = 0) (hS : IR w w.heap.size SA l) (hb : BR w w.heap.size A body) :
    Calls Try.prog 10 #[kyV key least (.slice SA l.length sc), .int .i64 n, .slice A body.length c] w fun e w' => e = .returned (.bool true) ∧ Below w.heap.size w w' := by
  obtain ⟨w0, hw0⟩ : ∃ w0, w.alloc (.cells (kyC key least (.slice SA l.length sc)) 58) = w0 := ⟨_, rfl⟩
  have b0 : Below w.heap.size w w0 := by rw [← hw0]; exact (Below.refl _ _).alloc (Nat.le_refl _) _
  have z0 : w0.heap.size = w.heap.size + 1 := by rw [← hw0]; simp
  have g0 : Blk w0 w.heap.size (kyC key least (.slice SA l.length sc)) 58 := by rw [← hw0]; exact Blk.new w _ _
  have hS0 := hS.below b0
  have hb0 := hb.below b0
  have HCK := Lib.hid (p_checkKeys_any key least SA l sc w.heap.size w0 b0.size hl hS0)
  have HSG := Lib.hid (fun w1 (h1 : Below w0.heap.size w0 w1) => p_Signed_any key n A body c w.heap.size w1 (Nat.le_trans b0.size h1.size) (hb0.below (h1.mono b0.size)))
  have HKZ := Lib.hid (keys_zero key least l)
  have HG := Lib.hid (@once_good key least n l body)
  have HB := Lib.hid (@opd_signed key least n l body)
  have HL := Lib.hid (@signR_len key n body)
  have HN := Lib.hid (@signR_none key n body)
  have HSB := Lib.hid (@sign_bounds key n body.length)
  have HAW := Lib.hid awake_any
  unfold SignPost at HSG
  unfold kyV at HCK ⊢
  generalize keysS key least l = Q at *
  generalize signC key n body.length = C at *
  obtain ⟨bs, hbs⟩ : ∃ bs, signR key n body = bs := ⟨_, rfl⟩
  rw [hbs] at HSG HG HB HL HN
  unfold kyC at hw0
  have HW0 := Lib.hid hw0
  obtain ⟨p0, p1, p2⟩ := blk_k g0
  have HS0 := Lib.hid hS0
  have HB0 := Lib.hid hb0
  clear hw0 hS hb hS0 hb0 hbs
  go_enter Try.func10, Try.ntmps10
  go_upto_region 1 with fail
  rw [HW0.out]
  go_wp2_with fail
  refine HCK.out.mono ?_
  rintro e w1 ⟨rfl, hb1⟩
  have g1 := g0.below hb1 g0.lt
  have B1 := b0.trans (hb1.mono b0.size)
  clear p0 p1 p2 HCK
  obtain ⟨p0, p1, p2⟩ := blk_k g1
  by_cases hq : Q = 0
  · subst hq
    have HRI := Lib.hid (HKZ.out.1 rfl).2
    have HB1 := Lib.hid (fun h => HB.out h rfl)
    have HG1 := Lib.hid (fun h => HG.out h rfl)
    clear HKZ HB HG
    go_wp2_with fail
    refine (HSG.out w1 hb1).mono ?_
    rintro e w2 ⟨v2, rfl, ho2, hb2⟩
    have g2 := g1.below hb2 g1.lt
    have b2 := hb1.trans (hb2.mono hb1.size)
    have B2 := B1.trans (hb2.mono B1.size)
    obtain ⟨A2, c2, rfl, hr2, hlc2⟩ := ho2.form3
    clear p0 p1 p2 HSG
    obtain ⟨p0, p1, p2⟩ := blk_k g2
    by_cases hC : C = 0
    · subst hC
      obtain ⟨r0, r1, r2, r3, -⟩ := HRI.out
      have hlen := HL.out rfl
      have hnb := (HSB.out rfl).1
      have hbl := (HSB.out rfl).2
      obtain ⟨hn0, hn1⟩ := hnb
      have HO := Lib.hid (p_Opened_any key least SA l sc A2 bs c2 w2.heap.size w2 (Nat.le_refl _) hl hSn hlc2 (by omega) ((HS0.out.below (b2.mono b0.size)).lift B2.size) hr2)
      have HF := Lib.hid (HB1.out rfl)
      have HGD := Lib.hid (HG1.out rfl)
      have HR3 := Lib.hid r3
      unfold OpdPost kyV at HO
      generalize opdF key least l bs = F at *
      generalize opdB key least l bs = L at *
      generalize opdN key least l bs = N at *
      generalize opdK key least l bs = K at *
      obtain ⟨k1, a, r⟩ := K
      simp only at HO
      have HR2 := Lib.hid hr2
      have hSz := hb2.size
      clear HL HSB HG1 HB1 r3 hr2 ho2
      go_wp2_with fail
      refine HO.out.mono ?_
      rintro e w3 ⟨A3, c3, v3, rfl, hr3, hlc3, hn3, ho3, hb3⟩
      have g3 := g2.below hb3 g2.lt
      have b3 := b2.trans (hb3.mono b2.size)
      have B3 := B2.trans (hb3.mono B2.size)
      have hz3 := hb3.size
      have hP3 : w.heap.size < w3.heap.size := g3.lt
      obtain ⟨A4, c4, rfl, hr4⟩ := ho3.form
      have HCO := Lib.hid (fun w5 (h5 : Below w3.heap.size w3 w5) => contains_any SA sc l n w.heap.size w5 hl ((HS0.out.below (b3.mono b0.size)).below (h5.mono B3.size)))
      clear p0 p1 p2 HO
      obtain ⟨p0, p1, p2⟩ := blk_k g3
      have hb3' := Lib.hid hb3
      have HR33 := Lib.hid hr3
      have HO3 := Lib.hid ho3
      have HR4 := Lib.hid hr4
      clear hb3 hr3 ho3 hr4
      have hw : IntKind.i64.wrap (least + 64) = least + 64 := IntWalk.i64_in _ (by omega)
      by_cases h1 : n < least
      · have hF7 : F = 7 := by rw [HF.out, if_pos (.inl h1)]
        have d1 : decide (least ≤ n) = false := decide_eq_false (by omega)
        subst hF7
        go_wp2_with fail
        refine (HAW.out _).mono ?_
        rintro e w7 ⟨rfl, hb7⟩
        go_wp2_with fail
        go_ret
        exact ⟨rfl, (B3.alloc (Nat.le_of_lt hP3) _).trans (hb7.mono (by simp; omega))⟩
      · by_cases h2 : least + 64 < n
        · have hF7 : F = 11 := by rw [HF.out, if_neg (by simp only [not_or]; exact ⟨h1, fun h => by have := HR3.out n h; omega⟩), if_pos h2]
          have d1 : decide (least ≤ n) = true := decide_eq_true (by omega)
          have d2 : decide (n ≤ least + 64) = false := decide_eq_false (by omega)
          subst hF7
          go_wp2_with fail
          refine (HAW.out _).mono ?_
          rintro e w7 ⟨rfl, hb7⟩
          go_wp2_with fail
          go_ret
          exact ⟨rfl, (B3.alloc (Nat.le_of_lt hP3) _).trans (hb7.mono (by simp; omega))⟩
        · have d1 : decide (least ≤ n) = true := decide_eq_true (by omega)
          have d2 : decide (n ≤ least + 64) = true := decide_eq_true (by omega)
          by_cases h3 : n ∈ l
          · have hF7 : F = 7 := by rw [HF.out, if_pos (.inr h3)]
            have d3 : decide (n ∈ l) = true := decide_eq_true h3
            subst hF7
            clear h1 h2 h3
            go_wp2_with fail
            refine (HCO.out _ ((Below.refl _ _).alloc (Nat.le_refl _) _)).mono ?_
            rintro e w5 ⟨rfl, rfl⟩
            rw [d3]
            clear d3
            go_wp2_with fail
            refine (HAW.out _).mono ?_
            rintro e w7 ⟨rfl, hb7⟩
            go_wp2_with fail
            go_ret
            exact ⟨rfl, (B3.alloc (Nat.le_of_lt hP3) _).trans (hb7.mono (by simp; omega))⟩
          · obtain ⟨f1, f2, f3, a', r', f4, f5, f6⟩ := HGD.out (by omega) (by omega) h3
            have d3 : decide (n ∈ l) = false := decide_eq_false h3
            injection f4 with e1 e2
            injection e2 with e2 e3
            subst f1 f2 f3 e1 e2 e3
            clear HF HGD h1 h2 h3
            obtain ⟨w4, hw4⟩ : ∃ w4, w3.alloc (.cells (kyC k1 a (.slice A3 r.length c3)) 58) = w4 := ⟨_, rfl⟩
            have b4 : Below w3.heap.size w3 w4 := by rw [← hw4]; exact (Below.refl _ _).alloc (Nat.le_refl _) _
            have g4 : Blk w4 w3.heap.size (kyC k1 a (.slice A3 r.length c3)) 58 := by rw [← hw4]; exact Blk.new w3 _ _
            have hR4 := HR4.out.below b4
            have hR3 := HR33.out.below b4
            have hR2 := (HR2.out.below hb3'.out).below (b4.mono hz3)
            have hBd := (HB0.out.below (b3.mono b0.size)).below (b4.mono B3.size)
            have B4 := B3.trans (b4.mono B3.size)
            unfold kyC at hw4
            have HW4 := Lib.hid hw4
            have hrl : r.length ≤ 64 := ((keys_zero _ _ _).1 f5).2.2.2.1
            have HCO4 := HCO.out w4 b4
            rw [d3] at HCO4
            have HCO4 := Lib.hid HCO4
            have hz4 := b4.size
            have HEQ := Lib.hid (equal_yes A4 A c4 c L w4.heap.size w4 (by omega) (hR4.lift hz4) (hBd.lift B4.size))
            have HCK2 := Lib.hid (fun (w5 : World) (h5 : Below w4.heap.size w4 w5) => p_checkKeys_any k1 a A3 r c3 w4.heap.size w5 h5.size (by omega) ((hR3.lift hz4).below h5))
            have HOP2 := Lib.hid (fun (w5 : World) (h5 : Below w4.heap.size w4 w5) => p_Opened_any k1 a A3 r c3 A2 bs c2 w4.heap.size w5 h5.size (by omega) hn3 hlc2 (by omega) ((hR3.lift hz4).below h5) ((hR2.lift (Nat.le_trans hz3 hz4)).below h5))
            rw [f5] at HCK2
            rw [f6] at HOP2
            unfold OpdPost at HOP2
            unfold kyV at HCK2 HOP2
            clear hw4 f5 f6 d3 HCO hR4 hR3 hR2 hBd HR4 HR33 HR2 HO3 HB0 HS0 HR3
            go_wp2_with fail
            rw [HW4.out]
            refine HCO4.out.mono ?_
            rintro e w4' ⟨rfl, rfl⟩
            go_wp2_with fail
            refine HEQ.out.mono ?_
            rintro e w5 ⟨rfl, hb5⟩
            have g5 := g4.below hb5 g4.lt
            obtain ⟨p0, p1, p2⟩ := blk_k g5
            go_wp2_with fail
            refine (HCK2.out w5 hb5).mono ?_
            rintro e w6 ⟨rfl, hb6⟩
            have hb46 := hb5.trans (hb6.mono hb5.size)
            have g6 := g4.below hb46 g4.lt
            clear p0 p1 p2
            obtain ⟨p0, p1, p2⟩ := blk_k g6
            go_wp2_with fail
            refine (HOP2.out w6 hb46).mono ?_
            rintro e w7 ⟨A7, c7, v7, rfl, -, -, -, -, hb7⟩
            have hb47 := hb46.trans (hb7.mono hb46.size)
            go_wp2_with fail
            refine (HAW.out _).mono ?_
            rintro e w8 ⟨rfl, hb8⟩
            go_wp2_with fail
            go_ret
            exact ⟨rfl, B4.trans ((hb47.trans (hb8.mono hb47.size)).mono B4.size)⟩
    · have hbn := HN.out hC
      subst hbn
      have dq : (C != 0) = true := by simpa using hC
      clear hC
      go_wp2_with fail
      refine (HAW.out _).mono ?_
      rintro e w7 ⟨rfl, hb7⟩
      go_wp2_with fail
      go_ret
      exact ⟨rfl, B2.trans (hb7.mono B2.size)⟩
  · have dq : (Q != 0) = true := by simpa using hq
    clear hq
    go_wp2_with fail
    refine (HAW.out _).mono ?_
    rintro e w7 ⟨rfl, hb7⟩
    go_wp2_with fail
    go_ret
    exact ⟨rfl, B1.trans (hb7.mono B1.size)⟩

set_option maxHeartbeats 1600000 in
set_option maxRecDepth 100000 in
theorem sonce_lifted (os : Os) (started : os.Started) (H : Type) (enc : TypeId × Value → H) :
    ReturnsInHanded {} Try.checked os 10 .any (Rows.commandSignedIsOpenedOnceSpec.pre6 enc Try.prog Try.f10 Rows.commandSignedIsOpenedOnceRow.domain false) (Rows.commandSignedIsOpenedOnceSpec.post enc Try.prog Try.f10 false true false false) := by
  refine returnsInHanded_of_change (C := Try.checked) own started (by kernel_rfl) Try.func10
    (ChangeSpec.witness6 (enc := enc) (C := Try.checked) false ⟨#[], #[.agg #[.int .i64 0, .int .i64 0, .slice none 0 0], .int .i64 0, .slice none 0 0], []⟩ 8 (by kernel_rfl) (by kernel_rfl) (by kernel_rfl) (by kernel_rfl)) ?_
  intro W base args ds gs before hval0 hW _ _
  have hval : ∀ (j : Nat) t v, Try.f10.params[j]? = some t → args[j]? = some v → Value.okWide Try.prog W .any base t v := hval0
  have hW' := hW
  have hlt := fun x hx => hW'.lt x hx
  obtain ⟨p, q, hA0, hV, rfl, _, _⟩ := hW
  have hA : DataW.TrodAll enc Try.prog W 0 (fun _ => true) true Try.f10.params.toList args.toList ds p := hA0
  rw [Try.params10] at hA hval
  obtain ⟨v0, v1, v2, d0, d1, d2, p0, p1, p2, rfl, rfl, rfl, h0, h1, h2⟩ := trodAll_three hA
  obtain ⟨rfl, rfl⟩ := trodVars_none hV
  obtain ⟨kyk, lsk, Ak, lk, ck, rfl, hkyk, hlsk, hlck, hck, hnk, hBk⟩ := open_keys (fun x hx => hlt x (by simp [hx])) (hval 0 58 v0 rfl rfl) h0
  obtain ⟨n, rfl, rfl, rfl, wfn⟩ := open_int Try.underlying3 (hval 1 3 v1 rfl rfl) h1
  have hbn := bounds_i64 wfn
  obtain ⟨Ab', lenb, capb, rfl⟩ := okWide_slice Try.underlying24 (hval 2 24 v2 rfl rfl)
  obtain ⟨nb, hnb⟩ := h2
  obtain ⟨Ab, cb, b, hvb, hlcb, hcb, hBb⟩ := open_u8s (fun x hx => hlt x (by simp [hx])) hnb
  rw [hvb] at hW' ⊢
  refine (lawSOnce_any kyk lsk Ak lk ck n Ab b cb W (by have := hlck; have := hck; unfold maxLen at *; omega) hnk hBk hBb).mono fun e W' ⟨he, hb⟩ => ?_
  subst he
  exact ⟨_, rfl, law_post (by decide +kernel) rfl rfl hW' rfl hb⟩

set_option maxRecDepth 100000 in
theorem sonce_closed : joinedFacts Try.prog 10 Try.f10 Rows.commandSignedIsOpenedOnceSpec Rows.commandSignedIsOpenedOnceRow = true :=
  closed_all (by as_aux_lemma => kernel_rfl) (by as_aux_lemma => kernel_rfl) (by as_aux_lemma => kernel_rfl) (by as_aux_lemma => kernel_rfl) (by as_aux_lemma => kernel_rfl) (by as_aux_lemma => kernel_rfl) (by as_aux_lemma => kernel_rfl) (by as_aux_lemma => kernel_rfl) (by as_aux_lemma => kernel_rfl) (by as_aux_lemma => kernel_rfl) (by as_aux_lemma => kernel_rfl) (by as_aux_lemma => kernel_rfl) (by as_aux_lemma => kernel_rfl) (by as_aux_lemma => kernel_rfl) (by as_aux_lemma => kernel_rfl) (by as_aux_lemma => kernel_rfl) (by as_aux_lemma => kernel_rfl) (by as_aux_lemma => kernel_rfl) pKeys (by as_aux_lemma => kernel_rfl) pLifts pMake (by as_aux_lemma => kernel_rfl) (by as_aux_lemma => kernel_rfl) (by as_aux_lemma => kernel_rfl) (by as_aux_lemma => kernel_rfl)

theorem sonce_holds : Rows.CommandSignedIsOpenedOnceSaid :=
  OpenClaim.holds_of_wide 10 Try.f10 rfl rfl rfl rfl rfl rfl rfl ⟨rfl, rfl, rfl, rfl, rfl⟩ rfl rfl rfl rfl rfl (by kernel_rfl) Try.func10 sonce_closed
    (of_decide_eq_true (by kernel_rfl)) (by unfold Func.isWrapper; first | (rw [if_pos (by decide +kernel)]; kernel_rfl) | (rw [if_neg (by decide +kernel)]; exact ⟨rfl, rfl⟩))
    (fun os started H enc _ => sonce_lifted os started H enc)
#print axioms sonce_holds
end Go.Proofs.Yteikggieekhfkaa
