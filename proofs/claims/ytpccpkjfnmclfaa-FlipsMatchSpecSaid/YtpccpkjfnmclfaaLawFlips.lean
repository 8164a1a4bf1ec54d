/- a bit turned and turned back, as specified: the law FlipsMatchSpec answers true for every input. No condition. -/
import Derived.Test.YtpccpkjfnmclfaaPFlip
import Derived.Test.YtpccpkjfnmclfaaSameF
import Derived.Test.YtpccpkjfnmclfaaFlGood
import Derived.Test.YtpccpkjfnmclfaaFlAwake
import Derived.Test.YtpccpkjfnmclfaaFlashOpen
import Derived.Test.YtpccpkjfnmclfaaClosed
namespace Go.Proofs.Ytpccpkjfnmclfaa
open Go.ChangeShapes Go.WideShapes Go.ChangeAt Go.RowKit

set_option maxRecDepth 100000 in
set_option maxHeartbeats 4000000 in
theorem flips_bad (b p s t : Int) (AD AV AX : Option Addr) (c c' c'' : Nat) (d : List UInt8) (v x : List Int) (w : World) (hv : v.length ≤ 9223372036854775807) (hx : x.length ≤ 9223372036854775807) (hAV : AV = none → c' = 0) (hAX : AX = none → c'' = 0) (h : BR w w.heap.size AD d) (h' : IR w w.heap.size AV v) (h'' : IR w w.heap.size AX x) (hC : flipC b p s t d.length v x ≠ 0) :
    Calls Try.prog 7 #[flV b p s (.slice AD d.length c) (.slice AV v.length c') (.slice AX x.length c''), .int .i64 t] w fun e w' => e = .returned (.bool true) ∧ Below w.heap.size w w' := by
  obtain ⟨w0, hw0⟩ : ∃ w0, w.alloc (.cells #[.int .i64 b, .int .i64 p, .int .i64 s, .slice AD d.length c, .slice AV v.length c', .slice AX x.length c''] 45) = w0 := ⟨_, rfl⟩
  have b0 : Below w.heap.size w w0 := by rw [← hw0]; exact boxF _ _
  have h0 : HeldF w0 w.heap.size b p s (.slice AD d.length c) (.slice AV v.length c') (.slice AX x.length c'') := by rw [← hw0]; exact HeldF.new _ _ _ _ _ _ _
  have hP : w.heap.size < w0.heap.size := h0.lt
  have HW0 := Lib.hid hw0
  clear hw0
  have hb0 := fun (w1 : World) (hb : Below w0.heap.size w0 w1) => (b0.trans (hb.mono (by omega)) : Below w.heap.size w w1)
  have HF := Lib.hid (fun (w1 : World) (hb : Below w0.heap.size w0 w1) => (sFlip_any b p s t AD AV AX c c' c'' d v x w.heap.size w1 (hb0 w1 hb).size hv hx hAV hAX (h.below (hb0 w1 hb)) (h'.below (hb0 w1 hb)) (h''.below (hb0 w1 hb))).mono fun e w' hp => hp.bad hC)
  have HR := Lib.hid (fun (w1 : World) (hb : Below w0.heap.size w0 w1) => (rFlip_any b p s t AD AV AX c c' c'' d v x w.heap.size w1 (hb0 w1 hb).size hv hx (h.below (hb0 w1 hb)) (h'.below (hb0 w1 hb)) (h''.below (hb0 w1 hb))).mono fun e w' hp => hp.bad hC)
  have HS := Lib.hid (fun w1 => sameF_yes 0 0 0 none none none none none none 0 0 0 0 0 0 [] [] [] 0 w1 (Nat.zero_le _) (by simp) (by simp) (.inl (by simp)) (.inl (by simp)) (.inl (by simp)) (.inl (by simp)) (.inl (by simp)) (.inl (by simp)))
  have HB0 := Lib.hid hb0
  have hne : (flipC b p s t d.length v x != 0) = true := by simpa using hC
  clear hb0 hC
  generalize flipC b p s t d.length v x = C at *
  unfold flV at HF HR HS ⊢
  go_enter Try.func7, Try.ntmps7
  go_upto_region 1 with fail
  rw [HW0.out]
  obtain ⟨e0, e1, e2, e3, e4, e5⟩ := h0.cells
  go_wp2_with fail
  refine (HF.out _ (Below.refl _ _)).mono ?_
  rintro e w1 ⟨rfl, hb1⟩
  obtain ⟨wa, hwa⟩ : ∃ wa, w1.alloc (.cells #[.int .i64 0, .int .i64 0, .int .i64 0, .slice none 0 0, .slice none 0 0, .slice none 0 0] 45) = wa := ⟨_, rfl⟩
  have ha : Below w1.heap.size w1 wa := by rw [← hwa]; exact boxF _ _
  have ga : HeldF wa w1.heap.size 0 0 0 noneV noneV noneV := by rw [← hwa]; exact HeldF.new _ _ _ _ _ _ _
  have HWA := Lib.hid hwa
  clear hwa e0 e1 e2 e3 e4 e5
  have hba : Below w0.heap.size w0 wa := hb1.trans (ha.mono hb1.size)
  obtain ⟨e0, e1, e2, e3, e4, e5⟩ := (h0.below hba hP).cells
  go_upto_region 2 with fail
  rw [HWA.out]
  go_wp2_with fail
  refine (HR.out _ hba).mono ?_
  rintro e w2 ⟨rfl, hb2⟩
  obtain ⟨wb, hwb⟩ : ∃ wb, w2.alloc (.cells #[.int .i64 0, .int .i64 0, .int .i64 0, .slice none 0 0, .slice none 0 0, .slice none 0 0] 45) = wb := ⟨_, rfl⟩
  have hb : Below w2.heap.size w2 wb := by rw [← hwb]; exact boxF _ _
  have gb : HeldF wb w2.heap.size 0 0 0 noneV noneV noneV := by rw [← hwb]; exact HeldF.new _ _ _ _ _ _ _
  have HWB := Lib.hid hwb
  have hz2 := hb2.size
  have gab : HeldF wb w1.heap.size 0 0 0 noneV noneV noneV := (ga.below hb2 ga.lt).below hb (Nat.lt_of_lt_of_le ga.lt hz2)
  clear hwb e0 e1 e2 e3 e4 e5
  obtain ⟨f0, f1, f2, f3, f4, f5⟩ := gab.cells
  obtain ⟨g0, g1, g2, g3, g4, g5⟩ := gb.cells
  have hbb : Below w0.heap.size w0 wb := (hba.trans (hb2.mono hba.size)).trans (hb.mono (Nat.le_trans hba.size hz2))
  unfold noneV at f3 f4 f5 g3 g4 g5
  go_upto_region 3 with fail
  rw [HWB.out]
  go_wp2_with fail
  refine (HS.out _).mono ?_
  rintro e w3 ⟨rfl, hb3⟩
  go_wp2_with fail
  refine (flAwake_any _).mono ?_
  rintro e w4 ⟨rfl, hb4⟩
  go_wp2
  go_ret
  have hb3' := hbb.trans (hb3.mono hbb.size)
  exact ⟨rfl, HB0.out _ (hb3'.trans (hb4.mono hb3'.size))⟩
set_option maxRecDepth 100000 in
set_option maxHeartbeats 4000000 in
theorem flips_good (b p s t : Int) (AD AV AX : Option Addr) (c c' c'' : Nat) (d : List UInt8) (v x : List Int) (w : World) (hv : v.length ≤ 9223372036854775807) (hx : x.length ≤ 9223372036854775807) (hAV : AV = none → c' = 0) (hAX : AX = none → c'' = 0) (h : BR w w.heap.size AD d) (h' : IR w w.heap.size AV v) (h'' : IR w w.heap.size AX x) (hC : flipC b p s t d.length v x = 0) :
    Calls Try.prog 7 #[flV b p s (.slice AD d.length c) (.slice AV v.length c') (.slice AX x.length c''), .int .i64 t] w fun e w' => e = .returned (.bool true) ∧ Below w.heap.size w w' := by
  obtain ⟨w0, hw0⟩ : ∃ w0, w.alloc (.cells #[.int .i64 b, .int .i64 p, .int .i64 s, .slice AD d.length c, .slice AV v.length c', .slice AX x.length c''] 45) = w0 := ⟨_, rfl⟩
  have b0 : Below w.heap.size w w0 := by rw [← hw0]; exact boxF _ _
  have h0 : HeldF w0 w.heap.size b p s (.slice AD d.length c) (.slice AV v.length c') (.slice AX x.length c'') := by rw [← hw0]; exact HeldF.new _ _ _ _ _ _ _
  have hP : w.heap.size < w0.heap.size := h0.lt
  have HW0 := Lib.hid hw0
  clear hw0
  have hb0 := fun (w1 : World) (hb : Below w0.heap.size w0 w1) => (b0.trans (hb.mono (by omega)) : Below w.heap.size w w1)
  have HF := Lib.hid (fun (w1 : World) (hb : Below w0.heap.size w0 w1) => (sFlip_any b p s t AD AV AX c c' c'' d v x w.heap.size w1 (hb0 w1 hb).size hv hx hAV hAX (h.below (hb0 w1 hb)) (h'.below (hb0 w1 hb)) (h''.below (hb0 w1 hb))).mono fun e w' hp => hp.good hC ((h''.below (hb0 w1 hb)).lift (hb0 w1 hb).size) hAX)
  have HR := Lib.hid (fun (w1 : World) (hb : Below w0.heap.size w0 w1) => (rFlip_any b p s t AD AV AX c c' c'' d v x w.heap.size w1 (hb0 w1 hb).size hv hx (h.below (hb0 w1 hb)) (h'.below (hb0 w1 hb)) (h''.below (hb0 w1 hb))).mono fun e w' hp => hp.good hC ((h''.below (hb0 w1 hb)).lift (hb0 w1 hb).size) hAX)
  have htl := turned_len d t.toNat
  have htt := turned_twice d t.toNat
  generalize turned d t.toNat = td at *
  have HF2 := Lib.hid (fun (A1 A2 A3 : Option Addr) (k1 k2 k3 : Nat) (B : Nat) (w1 : World) (hB : B ≤ w1.heap.size) (h1 : A2 = none → k2 = 0) (h2 : A3 = none → k3 = 0) (i1 : BR w1 B A1 td) (i2 : IR w1 B A2 v) (i3 : IR w1 B A3 x) => by
    have := (sFlip_any b p s t A1 A2 A3 k1 k2 k3 td v x B w1 hB hv hx h1 h2 i1 i2 i3).mono fun e w' hp => hp.good (by rw [htl]; exact hC) (i3.lift hB) h2
    rw [htt, htl] at this
    exact this)
  have HS := Lib.hid (fun (A1 A2 A3 A4 A5 A6 : Option Addr) (k1 k2 k3 k4 k5 k6 : Nat) (B : Nat) (w1 : World) (hB : B ≤ w1.heap.size) (i1 : BR w1 B A1 td) (i2 : BR w1 B A4 td) (i3 : IR w1 B A2 v) (i4 : IR w1 B A5 v) (i5 : IR w1 B A3 x) (i6 : IR w1 B A6 x) => by
    have := sameF_yes b p s A1 A4 A2 A5 A3 A6 k1 k2 k3 k4 k5 k6 td v x B w1 hB hv hx i1 i2 i3 i4 i5 i6
    rw [htl] at this
    exact this)
  have HS2 := Lib.hid (fun (A1 A2 A3 A4 A5 A6 : Option Addr) (k1 k2 k3 k4 k5 k6 : Nat) (B : Nat) (w1 : World) (hB : B ≤ w1.heap.size) (i1 : BR w1 B A1 d) (i2 : BR w1 B A4 d) (i3 : IR w1 B A2 v) (i4 : IR w1 B A5 v) (i5 : IR w1 B A3 x) (i6 : IR w1 B A6 x) => sameF_yes b p s A1 A4 A2 A5 A3 A6 k1 k2 k3 k4 k5 k6 d v x B w1 hB hv hx i1 i2 i3 i4 i5 i6)
  have HB0 := Lib.hid hb0
  clear hb0 hC htl htt
  unfold flV at HF HR HF2 HS HS2 ⊢
  go_enter Try.func7, Try.ntmps7
  go_upto_region 1 with fail
  rw [HW0.out]
  obtain ⟨e0, e1, e2, e3, e4, e5⟩ := h0.cells
  go_wp2_with fail
  refine (HF.out _ (Below.refl _ _)).mono ?_
  rintro e w1 ⟨A1, k1, A2, k2, A3, k3, rfl, hb1, i1, i2, i3, n2, n3⟩
  obtain ⟨wa, hwa⟩ : ∃ wa, w1.alloc (.cells #[.int .i64 b, .int .i64 p, .int .i64 s, .slice A1 d.length k1, .slice A2 v.length k2, .slice A3 x.length k3] 45) = wa := ⟨_, rfl⟩
  have ha : Below w1.heap.size w1 wa := by rw [← hwa]; exact boxF _ _
  have ga : HeldF wa w1.heap.size b p s (.slice A1 d.length k1) (.slice A2 v.length k2) (.slice A3 x.length k3) := by rw [← hwa]; exact HeldF.new _ _ _ _ _ _ _
  have HWA := Lib.hid hwa
  clear hwa e0 e1 e2 e3 e4 e5
  have hba : Below w0.heap.size w0 wa := hb1.trans (ha.mono hb1.size)
  obtain ⟨e0, e1, e2, e3, e4, e5⟩ := (h0.below hba hP).cells
  go_upto_region 2 with fail
  rw [HWA.out]
  go_wp2_with fail
  refine (HR.out _ hba).mono ?_
  rintro e w2 ⟨B1, m1, B2, m2, B3, m3, rfl, hb2, j1, j2, j3, o2, o3⟩
  obtain ⟨wb, hwb⟩ : ∃ wb, w2.alloc (.cells #[.int .i64 b, .int .i64 p, .int .i64 s, .slice B1 d.length m1, .slice B2 v.length m2, .slice B3 x.length m3] 45) = wb := ⟨_, rfl⟩
  have hb : Below w2.heap.size w2 wb := by rw [← hwb]; exact boxF _ _
  have gb : HeldF wb w2.heap.size b p s (.slice B1 d.length m1) (.slice B2 v.length m2) (.slice B3 x.length m3) := by rw [← hwb]; exact HeldF.new _ _ _ _ _ _ _
  have HWB := Lib.hid hwb
  have hz2 := hb2.size
  have gab : HeldF wb w1.heap.size b p s (.slice A1 d.length k1) (.slice A2 v.length k2) (.slice A3 x.length k3) := (ga.below hb2 ga.lt).below hb (Nat.lt_of_lt_of_le ga.lt hz2)
  clear hwb e0 e1 e2 e3 e4 e5
  obtain ⟨f0, f1, f2, f3, f4, f5⟩ := gab.cells
  obtain ⟨g0, g1, g2, g3, g4, g5⟩ := gb.cells
  have hbb : Below w0.heap.size w0 wb := (hba.trans (hb2.mono hba.size)).trans (hb.mono (Nat.le_trans hba.size hz2))
  have h1b : Below w1.heap.size w1 wb := (ha.trans (hb2.mono ha.size)).trans (hb.mono (Nat.le_trans ha.size hz2))
  have hS1 := HS.out A1 A2 A3 B1 B2 B3 k1 k2 k3 m1 m2 m3 wb.heap.size wb (Nat.le_refl _) ((i1.below h1b).lift h1b.size) ((j1.below hb).lift hb.size) ((i2.below h1b).lift h1b.size) ((j2.below hb).lift hb.size) ((i3.below h1b).lift h1b.size) ((j3.below hb).lift hb.size)
  have HS1 := Lib.hid hS1
  clear hS1
  go_upto_region 3 with fail
  rw [HWB.out]
  go_wp2_with fail
  refine HS1.out.mono ?_
  rintro e w3 ⟨rfl, hb3⟩
  have h13 : Below w1.heap.size w1 w3 := h1b.trans (hb3.mono h1b.size)
  have h03 : Below w0.heap.size w0 w3 := hbb.trans (hb3.mono hbb.size)
  have gl : w1.heap.size < wb.heap.size := Nat.lt_of_lt_of_le ga.lt (Nat.le_trans hz2 hb.size)
  clear f0 f1 f2 f3 f4 f5 g0 g1 g2 g3 g4 g5
  obtain ⟨f0, f1, f2, f3, f4, f5⟩ := (gab.below hb3 gl).cells
  have HF3 := Lib.hid (HF2.out A1 A2 A3 k1 k2 k3 w1.heap.size w3 h13.size n2 n3 (i1.below h13) (i2.below h13) (i3.below h13))
  go_wp2_with fail
  refine HF3.out.mono ?_
  rintro e w4 ⟨C1, q1, C2, q2, C3, q3, rfl, hb4, l1, l2, l3, -, -⟩
  obtain ⟨wc, hwc⟩ : ∃ wc, w4.alloc (.cells #[.int .i64 b, .int .i64 p, .int .i64 s, .slice C1 d.length q1, .slice C2 v.length q2, .slice C3 x.length q3] 45) = wc := ⟨_, rfl⟩
  have hc : Below w4.heap.size w4 wc := by rw [← hwc]; exact boxF _ _
  have gc : HeldF wc w4.heap.size b p s (.slice C1 d.length q1) (.slice C2 v.length q2) (.slice C3 x.length q3) := by rw [← hwc]; exact HeldF.new _ _ _ _ _ _ _
  have HWC := Lib.hid hwc
  clear hwc f0 f1 f2 f3 f4 f5
  have h04 : Below w0.heap.size w0 w4 := h03.trans (hb4.mono h03.size)
  have h0c : Below w0.heap.size w0 wc := h04.trans (hc.mono h04.size)
  have hwc0 := HB0.out _ h0c
  obtain ⟨e0, e1, e2, e3, e4, e5⟩ := (h0.below h0c hP).cells
  obtain ⟨f0, f1, f2, f3, f4, f5⟩ := gc.cells
  have HS3 := Lib.hid (HS2.out C1 C2 C3 AD AV AX q1 q2 q3 c c' c'' wc.heap.size wc (Nat.le_refl _) ((l1.below hc).lift hc.size) ((h.below hwc0).lift hwc0.size) ((l2.below hc).lift hc.size) ((h'.below hwc0).lift hwc0.size) ((l3.below hc).lift hc.size) ((h''.below hwc0).lift hwc0.size))
  go_upto_region 8 with fail
  rw [HWC.out]
  go_wp2_with fail
  refine HS3.out.mono ?_
  rintro e w5 ⟨rfl, hb5⟩
  go_wp2_with fail
  refine (flAwake_any _).mono ?_
  rintro e w6 ⟨rfl, hb6⟩
  go_wp2
  go_ret
  have h05 := h0c.trans (hb5.mono h0c.size)
  exact ⟨rfl, HB0.out _ (h05.trans (hb6.mono h05.size))⟩
theorem flips_any (b p s t : Int) (AD AV AX : Option Addr) (c c' c'' : Nat) (d : List UInt8) (v x : List Int) (w : World) (hv : v.length ≤ 9223372036854775807) (hx : x.length ≤ 9223372036854775807) (hAV : AV = none → c' = 0) (hAX : AX = none → c'' = 0) (h : BR w w.heap.size AD d) (h' : IR w w.heap.size AV v) (h'' : IR w w.heap.size AX x) :
    Calls Try.prog 7 #[flV b p s (.slice AD d.length c) (.slice AV v.length c') (.slice AX x.length c''), .int .i64 t] w fun e w' => e = .returned (.bool true) ∧ Below w.heap.size w w' := by
  by_cases hC : flipC b p s t d.length v x = 0
  · exact flips_good b p s t AD AV AX c c' c'' d v x w hv hx hAV hAX h h' h'' hC
  · exact flips_bad b p s t AD AV AX c c' c'' d v x w hv hx hAV hAX h h' h'' hC

set_option maxHeartbeats 1600000 in
set_option maxRecDepth 100000 in
theorem flips_lifted (os : Os) (started : os.Started) (H : Type) (enc : TypeId × Value → H) :
    ReturnsInHanded {} Try.checked os 7 .any (Rows.flipsMatchSpecSpec.pre6 enc Try.prog Try.f7 Rows.flipsMatchSpecRow.domain false) (Rows.flipsMatchSpecSpec.post enc Try.prog Try.f7 false true false false) := by
  refine returnsInHanded_of_change (C := Try.checked) own started (by kernel_rfl) Try.func7
    (ChangeSpec.witness6 (enc := enc) (C := Try.checked) false ⟨#[], #[flV 0 0 0 (.slice none 0 0) (.slice none 0 0) (.slice none 0 0), .int .i64 0], []⟩ 8 (by kernel_rfl) (by kernel_rfl) (by kernel_rfl) (by kernel_rfl)) ?_
  intro W base args ds gs before hval0 hW _ _
  have hval : ∀ (j : Nat) t v, Try.f7.params[j]? = some t → args[j]? = some v → Value.okWide Try.prog W .any base t v := hval0
  have hW' := hW
  have hlt := fun x hx => hW'.lt x hx
  obtain ⟨p, q, hA0, hV, rfl, _, _⟩ := hW
  have hA : DataW.TrodAll enc Try.prog W 0 (fun _ => true) true Try.f7.params.toList args.toList ds p := hA0
  rw [Try.params7] at hA hval
  obtain ⟨v0, v1, d0, d1, p0, p1, rfl, rfl, rfl, h0, h1⟩ := trodAll_two hA
  obtain ⟨rfl, rfl⟩ := trodVars_none hV
  obtain ⟨bf, qf, sf, Df, Vf, Xf, cf, cf', cf'', lf, vf, xf, rfl, hBf, hIf, hJf, hvf, hxf, nVf, nXf⟩ := open_flash (fun x hx => hlt x (by simp [hx])) (hval 0 45 v0 rfl rfl) h0
  obtain ⟨t, rfl, rfl, rfl, wft⟩ := open_int Try.underlying3 (hval 1 3 v1 rfl rfl) h1
  have hbt := bounds_i64 wft
  refine (flips_any bf qf sf t Df Vf Xf cf cf' cf'' lf vf xf W hvf hxf nVf nXf hBf hIf hJf).mono fun e W' ⟨he, hb⟩ => ?_
  subst he
  exact ⟨_, rfl, law_post (by decide +kernel) rfl rfl hW' rfl hb⟩

set_option maxRecDepth 100000 in
theorem flips_closed : joinedFacts Try.prog 7 Try.f7 Rows.flipsMatchSpecSpec Rows.flipsMatchSpecRow = true :=
  closed_all (by as_aux_lemma => kernel_rfl) (by as_aux_lemma => kernel_rfl) (by as_aux_lemma => kernel_rfl) (by as_aux_lemma => kernel_rfl) (by as_aux_lemma => kernel_rfl) (by as_aux_lemma => kernel_rfl) (by as_aux_lemma => kernel_rfl) (by as_aux_lemma => kernel_rfl) (by as_aux_lemma => kernel_rfl) (by as_aux_lemma => kernel_rfl) (by as_aux_lemma => kernel_rfl) (by as_aux_lemma => kernel_rfl) (by as_aux_lemma => kernel_rfl) (by as_aux_lemma => kernel_rfl) (by as_aux_lemma => kernel_rfl) (by as_aux_lemma => kernel_rfl) (by as_aux_lemma => kernel_rfl) (by as_aux_lemma => kernel_rfl) pKeys (by as_aux_lemma => kernel_rfl) pLifts pMake (by as_aux_lemma => kernel_rfl) (by as_aux_lemma => kernel_rfl) (by as_aux_lemma => kernel_rfl) (by as_aux_lemma => kernel_rfl)

theorem flips_holds : Rows.FlipsMatchSpecSaid :=
  OpenClaim.holds_of_wide 7 Try.f7 rfl rfl rfl rfl rfl rfl rfl ⟨rfl, rfl, rfl, rfl, rfl⟩ rfl rfl rfl rfl rfl (by kernel_rfl) Try.func7 flips_closed
    (of_decide_eq_true (by kernel_rfl)) (by unfold Func.isWrapper; first | (rw [if_pos (by decide +kernel)]; kernel_rfl) | (rw [if_neg (by decide +kernel)]; exact ⟨rfl, rfl⟩))
    (fun os started H enc _ => flips_lifted os started H enc)
#print axioms flips_holds
end Go.Proofs.Ytpccpkjfnmclfaa
