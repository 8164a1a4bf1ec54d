/- Signed, CheckKeys and Opened answer as the reference does: the law CommandSignsMatchSpec answers true for every input. No condition. -/
import Derived.Test.YteikggieekhfkaaKeyOpen
import Derived.Test.YteikggieekhfkaaOpenRow2
import Derived.Test.YteikggieekhfkaaROpd
import Derived.Test.YteikggieekhfkaaSameK
import Derived.Test.YteikggieekhfkaaAwk
import Derived.Test.YteikggieekhfkaaClosed
namespace Go.Proofs.Yteikggieekhfkaa
open Go.ChangeShapes Go.WideShapes Go.ChangeAt Go.RowKit

theorem signR_le (key n : Int) (body : List UInt8) : (signR key n body).length ≤ 216 := by
  unfold signR
  by_cases h : signC key n body.length = 0
  · rw [if_pos h]
    unfold signC at h
    split at h
    · have := bodS_le h
      unfold signL
      simp [bigE_len]
      omega
    · simp at h
  · rw [if_neg h]
    simp
theorem opdB_le (key least : Int) (l : List Int) (b : List UInt8) : (opdB key least l b).length ≤ b.length := by
  unfold opdB openB
  split
  · split
    · simp; omega
    · simp
  · simp
theorem strip_len : ∀ (L : List Int) (least : Int), (strip least L).2.length ≤ L.length
  | [], _ => by simp [strip]
  | n :: L, least => by
    unfold strip
    by_cases e : n = least
    · rw [if_pos e]; have := strip_len L (least + 1); simp; omega
    · rw [if_neg e]; exact Nat.le_refl _
theorem opdK_le (key least : Int) (l : List Int) (b : List UInt8) : (opdK key least l b).2.2.length ≤ 65 := by
  unfold opdK
  by_cases h : opdF key least l b = 0
  · rw [if_pos h]
    unfold opdF at h
    by_cases hk : keysS key least l = 0
    · have h64 := ((keys_zero key least l).1 hk).2.2.2.1
      show (seenS least l _).2.length ≤ 65
      unfold seenS
      refine Nat.le_trans (strip_len _ _) ?_
      rw [insL_len _ _ _ (place_le _ _)]
      omega
    · rw [if_neg hk] at h
      exact absurd h hk
  · rw [if_neg h]
    simp
set_option maxRecDepth 100000 in
set_option maxHeartbeats 4000000 in
theorem lawSigns_any (key0 n : Int) (A : Option Addr) (body : List UInt8) (c : Nat) (key least : Int) (SA : Option Addr) (l : List Int) (sc : Nat) (A' : Option Addr) (b : List UInt8) (c' : Nat) (w : World) (hl : l.length ≤ 9223372036854775807) (hSn : SA = none → sc = 0) (hbc : b.length ≤ c') (hbl : b.length ≤ 9223372036854775807) (hA : BR w w.heap.size A body) (hS : IR w w.heap.size SA l) (hB : BR w w.heap.size A' b) :
    Calls Try.prog 9 #[.int .i64 key0, .int .i64 n, .slice A body.length c, kyV key least (.slice SA l.length sc), .slice A' b.length c'] w fun e w' => e = .returned (.bool true) ∧ Below w.heap.size w w' := by
  obtain ⟨w0, hw0⟩ : ∃ w0, w.alloc (.cells (kyC key least (.slice SA l.length sc)) 58) = w0 := ⟨_, rfl⟩
  have b0 : Below w.heap.size w w0 := by rw [← hw0]; exact (Below.refl _ _).alloc (Nat.le_refl _) _
  have z0 : w0.heap.size = w.heap.size + 1 := by rw [← hw0]; simp
  have g0 : Blk w0 w.heap.size (kyC key least (.slice SA l.length sc)) 58 := by rw [← hw0]; exact Blk.new w _ _
  have HSP := Lib.hid (p_Signed_any key0 n A body c w.heap.size w0 b0.size (hA.below b0))
  have HSR := Lib.hid (fun w1 (h1 : Below w0.heap.size w0 w1) => r_Signed_any key0 n A body c w.heap.size w1 (Nat.le_trans b0.size h1.size) ((hA.below b0).below (h1.mono b0.size)))
  have HCP := Lib.hid (fun w1 (h1 : Below w0.heap.size w0 w1) => p_checkKeys_any key least SA l sc w.heap.size w1 (Nat.le_trans b0.size h1.size) hl ((hS.below b0).below (h1.mono b0.size)))
  have HCR := Lib.hid (fun w1 (h1 : Below w0.heap.size w0 w1) => r_checkKeys_any key least SA l sc w.heap.size w1 (Nat.le_trans b0.size h1.size) hl ((hS.below b0).below (h1.mono b0.size)))
  have HOP := Lib.hid (fun w1 (h1 : Below w0.heap.size w0 w1) => p_Opened_any key least SA l sc A' b c' w.heap.size w1 (Nat.le_trans b0.size h1.size) hl hSn hbc hbl ((hS.below b0).below (h1.mono b0.size)) ((hB.below b0).below (h1.mono b0.size)))
  have HOR := Lib.hid (fun w1 (h1 : Below w0.heap.size w0 w1) => r_Opened_any key least SA l sc A' b c' w.heap.size w1 (Nat.le_trans b0.size h1.size) hl hSn hbc hbl ((hS.below b0).below (h1.mono b0.size)) ((hB.below b0).below (h1.mono b0.size)))
  have hLl := Nat.le_trans (opdB_le key least l b) hbl
  have hKl := opdK_le key least l b
  have hSl := signR_le key0 n body
  have HAW := Lib.hid awake_any
  unfold SignPost at HSP HSR
  unfold OpdPost at HOP HOR
  unfold kyV at HCP HCR HOP HOR ⊢
  generalize opdF key least l b = F at *
  generalize opdB key least l b = L at *
  generalize opdN key least l b = N at *
  generalize opdK key least l b = K at *
  obtain ⟨k1, a, r⟩ := K
  simp only at HOP HOR hKl
  generalize keysS key least l = Q at *
  generalize signC key0 n body.length = C at *
  generalize signR key0 n body = S at *
  have dQ : (Q != Q) = false := by simp
  have dC : (C != C) = false := by simp
  have dF : (F == F) = true := by simp
  have dN : (N == N) = true := by simp
  unfold kyC at hw0
  have HW0 := Lib.hid hw0
  obtain ⟨p0, p1, p2⟩ := blk_k g0
  clear hw0 hA hS hB
  go_enter Try.func9, Try.ntmps9
  go_upto_region 1 with fail
  rw [HW0.out]
  go_wp2_with fail
  refine HSP.out.mono ?_
  rintro e w1 ⟨v1, rfl, ho1, hb1⟩
  go_wp2_with fail
  refine (HSR.out w1 hb1).mono ?_
  rintro e w2 ⟨v2, rfl, ho2, hb2⟩
  have b2 := hb1.trans (hb2.mono hb1.size)
  have ho1' := ho1.after hb2 (Nat.le_refl _)
  obtain ⟨A1, c1, rfl, r1⟩ := ho1'.form
  obtain ⟨A2, c2, rfl, r2⟩ := ho2.form
  have g2 := g0.below b2 g0.lt
  clear p0 p1 p2 ho1 ho2 ho1'
  obtain ⟨p0, p1, p2⟩ := blk_k g2
  have HEQ := Lib.hid (fun w3 (h3 : Below w2.heap.size w2 w3) => equal_yes A1 A2 c1 c2 S w3.heap.size w3 (by omega) ((r1.below h3).lift h3.size) ((r2.below h3).lift h3.size))
  have hbb : Below w2.heap.size w2 w2 := Below.refl _ _
  have HSS := Lib.hid (fun (w3 : World) (hb : Below w2.heap.size w2 w3) => (⟨(hb.cell g2.lt).trans p0, (hb.cell g2.lt).trans p1, (hb.cell g2.lt).trans p2⟩ : w3.cell? ⟨w.heap.size, 0, none⟩ = some (.int .i64 key) ∧ w3.cell? ⟨w.heap.size, 1, none⟩ = some (.int .i64 least) ∧ w3.cell? ⟨w.heap.size, 2, none⟩ = some (.slice SA l.length sc)))
  have HCP2 := Lib.hid (fun w3 (h3 : Below w2.heap.size w2 w3) => (HCP.out w3 (b2.trans (h3.mono b2.size))).mono (fun e w' ⟨he, h8⟩ => (⟨he, h3.trans (h8.mono h3.size)⟩ : e = Ending.returned (.int .i64 Q) ∧ Below w2.heap.size w2 w')))
  have HCR2 := Lib.hid (fun w3 (h3 : Below w2.heap.size w2 w3) => (HCR.out w3 (b2.trans (h3.mono b2.size))).mono (fun e w' ⟨he, h8⟩ => (⟨he, h3.trans (h8.mono h3.size)⟩ : e = Ending.returned (.int .i64 Q) ∧ Below w2.heap.size w2 w')))
  have HEQ2 := Lib.hid (fun w3 (h3 : Below w2.heap.size w2 w3) => (HEQ.out w3 h3).mono (fun e w' ⟨he, h8⟩ => (⟨he, h3.trans (h8.mono h3.size)⟩ : e = Ending.returned (.bool true) ∧ Below w2.heap.size w2 w')))
  clear HCP HCR HEQ HSP HSR r1 r2
  go_upto_region 3 with fail
  go_cut [50] (fun s50 wx => s50 = .bool false ∧ Below w2.heap.size w2 wx)
  case first =>
    go_region_held3 (fun wx => wx.cell? ⟨w.heap.size, 0, none⟩ = some (.int .i64 key) ∧ wx.cell? ⟨w.heap.size, 1, none⟩ = some (.int .i64 least) ∧ wx.cell? ⟨w.heap.size, 2, none⟩ = some (.slice SA l.length sc))
      (first | exact HSS.out _ hbb | exact HSS.out _ hbb.drew | exact HSS.out _ hb5 | exact HSS.out _ hb4 | exact HSS.out _ hb3 | go_keep)
      (first
       | (go_at_call 31
          with_reducible refine (HCP2.out _ ?_).mono ?_
          · first | with_reducible exact hb5 | with_reducible exact hb4 | with_reducible exact hbb.drew | with_reducible exact hbb
          rintro e w3 ⟨rfl, hb3⟩)
       | (go_at_call 32
          with_reducible refine (HCR2.out _ ?_).mono ?_
          · first | with_reducible exact hb5 | with_reducible exact hb3 | with_reducible exact hbb.drew | with_reducible exact hbb
          rintro e w4 ⟨rfl, hb4⟩)
       | (go_at_call 33
          with_reducible refine (HEQ2.out _ ?_).mono ?_
          · first | with_reducible exact hb4 | with_reducible exact hb3 | with_reducible exact hbb.drew | with_reducible exact hbb
          rintro e w5 ⟨rfl, hb5⟩))
    all_goals
      go_wp2_with fail
      go_meet
      first | exact ⟨rfl, hb5⟩ | exact ⟨rfl, hb4⟩ | exact ⟨rfl, hb3⟩
  case rest =>
    obtain ⟨rfl, hbc2⟩ := hcut
    have B3 := b2.trans (hbc2.mono b2.size)
    have g3 := g2.below hbc2 g2.lt
    clear p0 p1 p2 HSS HCP2 HCR2 HEQ2 hbb
    obtain ⟨p0, p1, p2⟩ := blk_k g3
    have HO1 := Lib.hid (HOP.out wc B3)
    go_wp2_with fail
    refine HO1.out.mono ?_
    rintro e w4 ⟨A4, c4, v4, rfl, hr4, hlc4, hn4, ho4, hb4, -⟩
    have g4 := g3.below hb4 g3.lt
    have B4 := B3.trans (hb4.mono B3.size)
    obtain ⟨A5, c5, rfl, hr5⟩ := ho4.form
    obtain ⟨w5, hw5⟩ : ∃ w5, w4.alloc (.cells (kyC k1 a (.slice A4 r.length c4)) 58) = w5 := ⟨_, rfl⟩
    have b5 : Below w4.heap.size w4 w5 := by rw [← hw5]; exact (Below.refl _ _).alloc (Nat.le_refl _) _
    have gx : Blk w5 w4.heap.size (kyC k1 a (.slice A4 r.length c4)) 58 := by rw [← hw5]; exact Blk.new w4 _ _
    have g5 := g4.below b5 g4.lt
    have B5 := B4.trans (b5.mono B4.size)
    have hr45 := (hr4.below b5).lift b5.size
    have hr55 := (hr5.below b5).lift b5.size
    have HO2 := Lib.hid (HOR.out w5 B5)
    unfold kyC at hw5
    have HW5 := Lib.hid hw5
    have HR45 := Lib.hid hr45
    have HR55 := Lib.hid hr55
    clear p0 p1 p2 hw5 hr4 hr5 ho4 hr45 hr55 HO1 HOP HOR
    obtain ⟨p0, p1, p2⟩ := blk_k g4
    have hP4 : w.heap.size < w4.heap.size := g4.lt
    go_wp2_with fail
    rw [HW5.out]
    refine HO2.out.mono ?_
    rintro e w6 ⟨A6, c6, v6, rfl, hr6, hlc6, hn6, ho6, hb6, -⟩
    obtain ⟨A7, c7, rfl, hr7⟩ := ho6.form
    obtain ⟨w7, hw7⟩ : ∃ w7, w6.alloc (.cells (kyC k1 a (.slice A6 r.length c6)) 58) = w7 := ⟨_, rfl⟩
    have b7 : Below w6.heap.size w6 w7 := by rw [← hw7]; exact (Below.refl _ _).alloc (Nat.le_refl _) _
    have gy : Blk w7 w6.heap.size (kyC k1 a (.slice A6 r.length c6)) 58 := by rw [← hw7]; exact Blk.new w6 _ _
    have hb67 := hb6.trans (b7.mono hb6.size)
    have gx7 := gx.below hb67 gx.lt
    have B7 := B5.trans (hb67.mono B5.size)
    have hz := hb67.size
    have HEQ := Lib.hid (equal_yes A5 A7 c5 c7 L w7.heap.size w7 (by omega) ((HR55.out.below hb67).lift hz) ((hr7.below b7).lift b7.size))
    have HSK := Lib.hid (fun w8 (h8 : Below w7.heap.size w7 w8) => sameKeys_yes k1 a A4 A6 c4 c6 r w7.heap.size w8 h8.size (by omega) (((HR45.out.below hb67).lift hz).below h8) (((hr6.below b7).lift b7.size).below h8))
    unfold kyV at HSK
    unfold kyC at hw7
    have HW7 := Lib.hid hw7
    clear hw7 hr6 hr7 ho6 HO2 p0 p1 p2
    go_wp2_with fail
    rw [HW7.out]
    refine HEQ.out.mono ?_
    rintro e w8 ⟨rfl, hb8⟩
    have gx8 := gx7.below hb8 gx7.lt
    have gy8 := gy.below hb8 gy.lt
    obtain ⟨p0, p1, p2⟩ := blk_k gx8
    obtain ⟨q0, q1, q2⟩ := blk_k gy8
    go_wp2_with fail
    refine (HSK.out w8 hb8).mono ?_
    rintro e w9 ⟨rfl, hb9⟩
    have hb79 := hb8.trans (hb9.mono hb8.size)
    go_wp2_with fail
    refine (HAW.out _).mono ?_
    rintro e w10 ⟨rfl, hb10⟩
    go_wp2_with fail
    go_ret
    exact ⟨rfl, b0.trans ((B7.trans ((hb79.trans (hb10.mono hb79.size)).mono B7.size)).mono b0.size)⟩

set_option maxHeartbeats 1600000 in
set_option maxRecDepth 100000 in
theorem signs_lifted (os : Os) (started : os.Started) (H : Type) (enc : TypeId × Value → H) :
    ReturnsInHanded {} Try.checked os 9 .any (Rows.commandSignsMatchSpecSpec.pre6 enc Try.prog Try.f9 Rows.commandSignsMatchSpecRow.domain false) (Rows.commandSignsMatchSpecSpec.post enc Try.prog Try.f9 false true false false) := by
  refine returnsInHanded_of_change (C := Try.checked) own started (by kernel_rfl) Try.func9
    (ChangeSpec.witness6 (enc := enc) (C := Try.checked) false ⟨#[], #[.int .i64 0, .int .i64 0, .slice none 0 0, .agg #[.int .i64 0, .int .i64 0, .slice none 0 0], .slice none 0 0], []⟩ 8 (by kernel_rfl) (by kernel_rfl) (by kernel_rfl) (by kernel_rfl)) ?_
  intro W base args ds gs before hval0 hW _ _
  have hval : ∀ (j : Nat) t v, Try.f9.params[j]? = some t → args[j]? = some v → Value.okWide Try.prog W .any base t v := hval0
  have hW' := hW
  have hlt := fun x hx => hW'.lt x hx
  obtain ⟨p, q, hA0, hV, rfl, _, _⟩ := hW
  have hA : DataW.TrodAll enc Try.prog W 0 (fun _ => true) true Try.f9.params.toList args.toList ds p := hA0
  rw [Try.params9] at hA hval
  obtain ⟨v0, v1, v2, v3, v4, d0, d1, d2, d3, d4, p0, p1, p2, p3, p4, rfl, rfl, rfl, h0, h1, h2, h3, h4⟩ := trodAll_many5 hA
  obtain ⟨rfl, rfl⟩ := trodVars_none hV
  obtain ⟨k0, rfl, rfl, rfl, wfk0⟩ := open_int Try.underlying3 (hval 0 3 v0 rfl rfl) h0
  have hbk0 := bounds_i64 wfk0
  obtain ⟨n, rfl, rfl, rfl, wfn⟩ := open_int Try.underlying3 (hval 1 3 v1 rfl rfl) h1
  have hbn := bounds_i64 wfn
  obtain ⟨Ay', leny, capy, rfl⟩ := okWide_slice Try.underlying24 (hval 2 24 v2 rfl rfl)
  obtain ⟨ny, hny⟩ := h2
  obtain ⟨Ay, cy, y, hvy, hlcy, hcy, hBy⟩ := open_u8s (fun x hx => hlt x (by simp [hx])) hny
  obtain ⟨kyk, lsk, Ak, lk, ck, rfl, hkyk, hlsk, hlck, hck, hnk, hBk⟩ := open_keys (fun x hx => hlt x (by simp [hx])) (hval 3 58 v3 rfl rfl) h3
  obtain ⟨Ab', lenb, capb, rfl⟩ := okWide_slice Try.underlying24 (hval 4 24 v4 rfl rfl)
  obtain ⟨nb, hnb⟩ := h4
  obtain ⟨Ab, cb, b, hvb, hlcb, hcb, hBb⟩ := open_u8s (fun x hx => hlt x (by simp [hx])) hnb
  rw [hvy] at hW' ⊢
  rw [hvb] at hW' ⊢
  refine (lawSigns_any k0 n Ay y cy kyk lsk Ak lk ck Ab b cb W (by have := hlck; have := hck; unfold maxLen at *; omega) hnk hlcb (by have := hlcb; have := hcb; unfold maxLen at *; omega) hBy hBk hBb).mono fun e W' ⟨he, hb⟩ => ?_
  subst he
  exact ⟨_, rfl, law_post (by decide +kernel) rfl rfl hW' rfl hb⟩

set_option maxRecDepth 100000 in
theorem signs_closed : joinedFacts Try.prog 9 Try.f9 Rows.commandSignsMatchSpecSpec Rows.commandSignsMatchSpecRow = true :=
  closed_all (by as_aux_lemma => kernel_rfl) (by as_aux_lemma => kernel_rfl) (by as_aux_lemma => kernel_rfl) (by as_aux_lemma => kernel_rfl) (by as_aux_lemma => kernel_rfl) (by as_aux_lemma => kernel_rfl) (by as_aux_lemma => kernel_rfl) (by as_aux_lemma => kernel_rfl) (by as_aux_lemma => kernel_rfl) (by as_aux_lemma => kernel_rfl) (by as_aux_lemma => kernel_rfl) (by as_aux_lemma => kernel_rfl) (by as_aux_lemma => kernel_rfl) (by as_aux_lemma => kernel_rfl) (by as_aux_lemma => kernel_rfl) (by as_aux_lemma => kernel_rfl) (by as_aux_lemma => kernel_rfl) (by as_aux_lemma => kernel_rfl) pKeys (by as_aux_lemma => kernel_rfl) pLifts pMake (by as_aux_lemma => kernel_rfl) (by as_aux_lemma => kernel_rfl) (by as_aux_lemma => kernel_rfl) (by as_aux_lemma => kernel_rfl)

theorem signs_holds : Rows.CommandSignsMatchSpecSaid :=
  OpenClaim.holds_of_wide 9 Try.f9 rfl rfl rfl rfl rfl rfl rfl ⟨rfl, rfl, rfl, rfl, rfl⟩ rfl rfl rfl rfl rfl (by kernel_rfl) Try.func9 signs_closed
    (of_decide_eq_true (by kernel_rfl)) (by unfold Func.isWrapper; first | (rw [if_pos (by decide +kernel)]; kernel_rfl) | (rw [if_neg (by decide +kernel)]; exact ⟨rfl, rfl⟩))
    (fun os started H enc _ => signs_lifted os started H enc)
#print axioms signs_holds
end Go.Proofs.Yteikggieekhfkaa
