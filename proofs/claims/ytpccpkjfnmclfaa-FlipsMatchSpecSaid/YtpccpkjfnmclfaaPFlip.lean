/- one bit of a flash turned, by the program. -/
import Derived.Test.YtpccpkjfnmclfaaCloned4
import Derived.Test.YtpccpkjfnmclfaaChkFlash
namespace Go.Proofs.Ytpccpkjfnmclfaa
open Go.RowKit

set_option maxRecDepth 100000 in
set_option maxHeartbeats 4000000 in
theorem sFlip_any (b p s t : Int) (AD AV AX : Option Addr) (c c' c'' : Nat) (d : List UInt8) (v x : List Int) (B : Nat) (w : World) (hB : B ≤ w.heap.size) (hv : v.length ≤ 9223372036854775807) (hx : x.length ≤ 9223372036854775807) (hAV : AV = none → c' = 0) (hAX : AX = none → c'' = 0) (h : BR w B AD d) (h' : IR w B AV v) (h'' : IR w B AX x) :
    Calls Try.prog 22 #[flV b p s (.slice AD d.length c) (.slice AV v.length c') (.slice AX x.length c''), .int .i64 t] w (FlipPost b p s t d v x (.slice AX x.length c'') w) := by
  have HC := Lib.hid (fun (w1 : World) (hb : Below w.heap.size w w1) => checkFlash_any b p s AD AV AX d.length c c' c'' v x B w1 (Nat.le_trans hB hb.size) hv hx (h'.below (hb.mono hB)) (h''.below (hb.mono hB)))
  unfold flV
  obtain ⟨w0, hw0⟩ : ∃ w0, boxed3 b p s (.slice AD d.length c) (.slice AV v.length c') (.slice AX x.length c'') w = w0 := ⟨_, rfl⟩
  have z0 : w0.heap.size = w.heap.size + 2 := by rw [← hw0]; simp [boxed3]
  have b0 : Below w.heap.size w w0 := by rw [← hw0]; exact (boxF _ _).alloc (by simp) _
  have h0 : HeldF w0 w.heap.size b p s (.slice AD d.length c) (.slice AV v.length c') (.slice AX x.length c'') := by
    rw [← hw0]
    exact (HeldF.new w b p s _ _ _).below (boxF _ _) (by simp)
  have r0 : HeldF w0 (w.heap.size + 1) 0 0 0 noneV noneV noneV := by
    rw [← hw0]
    have := HeldF.new (w.alloc (.cells #[.int .i64 b, .int .i64 p, .int .i64 s, .slice AD d.length c, .slice AV v.length c', .slice AX x.length c''] 45)) 0 0 0 noneV noneV noneV
    rw [World.size_alloc] at this
    exact this
  have HW0 := Lib.hid hw0
  clear hw0
  obtain ⟨C, hC⟩ : ∃ C, C = flashS b p s d.length v x := ⟨_, rfl⟩
  rw [← hC] at HC
  have hF : flipC b p s t d.length v x = if C = 0 then (if 0 ≤ t ∧ t ≤ 8 * (d.length : Int) - 1 then 0 else 1) else C := by rw [hC]; rfl
  have HF := Lib.hid hF
  have HCE := Lib.hid hC
  clear hF hC
  obtain ⟨e0, e1, e2, e3, e4, e5⟩ := h0.cells
  by_cases hc0 : C = 0
  · have hok : FlOk b p s d.length v x := flash_ok (HCE.out.symm.trans hc0)
    have hl1 := hok.len
    have hl2 := hok.few
    have hne : (C != 0) = false := by simpa using hc0
    by_cases ht : 0 ≤ t ∧ t ≤ 8 * (d.length : Int) - 1
    · have HF1 : Hid (flipC b p s t d.length v x = 0) := by unfold Hid; rw [HF.out, if_pos hc0, if_pos ht]
      have t1 : decide (0 ≤ t ∧ t ≤ 8 * (d.length : Int) - 1) = true := decide_eq_true ht
      have hdl : (d.length : Int) ≤ 262144 := by omega
      have hvl : v.length ≤ 64 := by have := hok.wear; have := hok.hb; omega
      obtain ⟨T, rfl⟩ : ∃ T : Nat, t = (T : Int) := ⟨t.toNat, by omega⟩
      have hT : T / 8 < d.length := by omega
      have t2 : decide ((T : Int) ≤ 8 * (d.length : Int) - 1) = true := decide_eq_true ht.2
      have hxl : x.length ≤ 64 := hok.badLen
      have HN := Lib.hid (fun (w1 : World) (hb : Below w.heap.size w w1) => scloned_any b p s AD AV AX c c' c'' d v x B w1 (Nat.le_trans hB hb.size) (by omega) (by omega) (by omega) (by omega) hAV hAX (h.below (hb.mono hB)) (h'.below (hb.mono hB)) (h''.below (hb.mono hB)))
      unfold flV at HN
      clear ht hok hl1 hl2
      go_enter Try.func22, Try.ntmps22
      go_upto_region 1 with fail
      have e := HW0.out
      unfold boxed3 at e
      rw [e]
      clear e
      go_wp2_with fail
      refine (HC.out _ b0).mono ?_
      rintro e w1 ⟨rfl, hb1⟩
      have h1 := r0.below hb1 (by omega)
      have g1 := h0.below hb1 (by omega)
      obtain ⟨e0, e1, e2, e3, e4, e5⟩ := g1.cells
      have z1 := hb1.size
      go_wp2_with fail
      refine (swithin_any _ _ _ _).mono ?_
      rintro e w' ⟨rfl, rfl⟩
      go_wp2_with fail
      refine (HN.out _ (b0.trans (hb1.mono (by omega)))).mono ?_
      rintro e w2 ⟨g, cap, vV, vX, rfl, hg, hr, oV, oX, hb2⟩
      obtain ⟨A2, k2, rfl, -⟩ := oV.form
      obtain ⟨A3, k3, rfl, -⟩ := oX.form
      obtain ⟨w6, hw6⟩ : ∃ w6, w2.alloc (.cells #[.int .i64 b, .int .i64 p, .int .i64 s, .slice (some ⟨g, 0, none⟩) d.length cap, .slice A2 v.length k2, .slice A3 x.length k3] 45) = w6 := ⟨_, rfl⟩
      have B6 : Below w2.heap.size w2 w6 := by rw [← hw6]; exact boxF _ _
      have h6 : HeldF w6 w2.heap.size b p s (.slice (some ⟨g, 0, none⟩) d.length cap) (.slice A2 v.length k2) (.slice A3 x.length k3) := by rw [← hw6]; exact HeldF.new _ _ _ _ _ _ _
      have hr6 := hr.below B6 hr.lt
      have z2 := hb2.size
      have hgl := hr.lt
      have r6 : HeldF w6 (w.heap.size + 1) 0 0 0 noneV noneV noneV := (h1.below hb2 (by omega)).below B6 (by omega)
      obtain ⟨u0, u1, u2, u3, u4, u5⟩ := h6.cells
      have y0 := hr6.cell (T / 8) hT
      have y1 := hr6.free (T / 8)
      have HW6 := Lib.hid hw6
      have hT1 : (T : Int) / 8 = ((T / 8 : Nat) : Int) := (Int.natCast_ediv T 8).symm
      have hT2 : (T : Int) % 8 = ((T % 8 : Nat) : Int) := (Int.natCast_emod T 8).symm
      have hxx := turn_byte d[T / 8] (T % 8) (by omega)
      have hS := turned_is d T hT
      have hK8 : T % 8 < 8 := by omega
      generalize T / 8 = J at *
      generalize T % 8 = K at *
      have hT3 : (0 : Int) ≤ (J : Int) := Int.natCast_nonneg _
      have hT4 : (J : Int) < (d.length : Int) := by omega
      have hT5 : (0 : Int) ≤ (K : Int) := Int.natCast_nonneg _
      have hXX := Lib.hid hxx
      have HS := Lib.hid hS
      clear hxx hS
      clear hw6 e0 e1 e2 e3 e4 e5 t1 t2
      go_upto_region 7 with fail
      rw [HW6.out]
      go_region
      all_goals
        rw [hXX.out]
        have hgQ : w2.heap.size ≠ g := by omega
        have hgP : w.heap.size + 1 ≠ g := by omega
        have hgP' : g ≠ w.heap.size + 1 := fun e => hgP e.symm
        obtain ⟨w7, hw7⟩ : ∃ w7, (w6.setCell ⟨g, J, none⟩ (.int .u8 ((d[J] ^^^ UInt8.ofNat (128 / 2 ^ K)).toNat : Int))).drew = w7 := ⟨_, rfl⟩
        have hr7 : RowY w7 g cap (turned d T) := by rw [← hw7, HS.out]; exact (hr6.set J _).drew
        have h7 : HeldF w7 w2.heap.size b p s (.slice (some ⟨g, 0, none⟩) d.length cap) (.slice A2 v.length k2) (.slice A3 x.length k3) := by rw [← hw7]; exact h6.other hgQ
        have r7 : HeldF w7 (w.heap.size + 1) 0 0 0 noneV noneV noneV := by rw [← hw7]; exact r6.other hgP
        have oV7 : OwnI w7 (w.heap.size + 2) (.slice A2 v.length k2) v := by rw [← hw7]; exact OwnI.lower ((oV.after B6 (Nat.le_refl _)).otherG hr6) (by omega)
        have oX7 : OwnI w7 (w.heap.size + 2) (.slice A3 x.length k3) x := by rw [← hw7]; exact OwnI.lower ((oX.after B6 (Nat.le_refl _)).otherG hr6) (by omega)
        have b7 : Below w1.heap.size w1 w7 := by rw [← hw7]; exact (((hb2.trans (B6.mono z2)).setCell (by show w1.heap.size ≤ g; omega) _)).drew
        have bb : Below w.heap.size w w7 := (b0.trans (hb1.mono (by omega))).trans (b7.mono (by omega))
        rw [hw7]
        have hlr : w.heap.size + 1 < w.heap.size + 2 := by omega
        have hl1 : w.heap.size ≤ w.heap.size + 1 := by omega
        have hgw : w.heap.size ≤ g := by omega
        clear hw7 h6 hr6 r6 oV oX b7 B6 hb2 hb1 h1 g1 hr u0 u1 u2 u3 u4 u5 y0 y1 HN HC hT1 hT2
        obtain ⟨u0, u1, u2, u3, u4, u5⟩ := h7.cells
        obtain ⟨f0, f1, f2, f3, f4, f5⟩ := r7.cells
        have q0 := r7.free 0
        have q1 := r7.free 1
        have q2 := r7.free 2
        have q3 := r7.free 3
        have q4 := r7.free 4
        have q5 := r7.free 5
        have hSl := turned_len d T
        go_wp2_with fail
        refine bodyPost_ret (v := .tuple #[flV b p s (.slice (some ⟨g, 0, none⟩) d.length cap) (.slice A2 v.length k2) (.slice A3 x.length k3), .int .i64 0]) (by simp [results, Try.results22, go_sem, f0, f1, f2, f3, f4, f5, flV]) rfl ?_
        refine ⟨_, by rw [HF1.out], ?_, fun q => absurd HF1.out q, fun _ => ⟨_, _, _, rfl, ?_, ?_, .inr ?_⟩⟩
        · exact (((((bb.setCell hl1 _).setCell hl1 _).setCell hl1 _).setCell hl1 _).setCell hl1 _).setCell hl1 _
        · rw [Int.toNat_natCast]
          have := ((((((hr7.other (k := 0) (u := .int .i64 b) hgP').other (k := 1) (u := .int .i64 p) hgP').other (k := 2) (u := .int .i64 s) hgP').other (k := 3) (u := .slice (some ⟨g, 0, none⟩) d.length cap) hgP').other (k := 4) (u := .slice A2 v.length k2) hgP').other (k := 5) (u := .slice A3 x.length k3) hgP').own w.heap.size hgw
          rw [hSl] at this
          exact this
        · exact OwnI.lower ((((((oV7.otherI hlr).otherI hlr).otherI hlr).otherI hlr).otherI hlr).otherI hlr) (by omega)
        · exact OwnI.lower ((((((oX7.otherI hlr).otherI hlr).otherI hlr).otherI hlr).otherI hlr).otherI hlr) (by omega)
    have HF1 : Hid (flipC b p s t d.length v x = 1) := by unfold Hid; rw [HF.out, if_pos hc0, if_neg ht]
    have t1 : decide (0 ≤ t ∧ t ≤ 8 * (d.length : Int) - 1) = false := decide_eq_false ht
    have hdl : (d.length : Int) ≤ 262144 := by omega
    clear ht hok hl1 hl2
    go_enter Try.func22, Try.ntmps22
    go_upto_region 1 with fail
    have e := HW0.out
    unfold boxed3 at e
    rw [e]
    clear e
    go_wp2_with (first | (go_at_call 54; refine (HC.out _ b0).mono ?_; rintro e w1 ⟨rfl, hb1⟩; have h1 := r0.below hb1 (by omega); have g1 := h0.below hb1 (by omega); obtain ⟨f0, f1, f2, f3, f4, f5⟩ := h1.cells; obtain ⟨e0, e1, e2, e3, e4, e5⟩ := g1.cells; have q0 := h1.free 0; have q1 := h1.free 1; have q2 := h1.free 2; have q3 := h1.free 3; have q4 := h1.free 4; have q5 := h1.free 5; have z1 := hb1.size) | (go_at_call 55; refine (swithin_any _ _ _ _).mono ?_; rintro e w' ⟨rfl, rfl⟩) | fail)
    have bb : Below w.heap.size w w1 := b0.trans (hb1.mono (by omega))
    refine bodyPost_ret (v := .tuple #[flV 0 0 0 noneV noneV noneV, .int .i64 1]) (by simp [results, Try.results22, go_sem, f0, f1, f2, f3, f4, f5, flV, noneV]) rfl ?_
    refine ⟨_, by rw [HF1.out], ?_, fun _ => rfl, fun q => absurd (HF1.out.symm.trans q) (by decide)⟩
    exact (((((bb.setCell (by simp) _).setCell (by simp) _).setCell (by simp) _).setCell (by simp) _).setCell (by simp) _).setCell (by simp) _
  · have hne : (C != 0) = true := by simpa using hc0
    have HF1 : Hid (flipC b p s t d.length v x = C) := by unfold Hid; rw [HF.out, if_neg hc0]
    go_enter Try.func22, Try.ntmps22
    go_upto_region 1 with fail
    have e := HW0.out
    unfold boxed3 at e
    rw [e]
    clear e
    go_wp2_with (first | (go_at_call 54; refine (HC.out _ b0).mono ?_; rintro e w1 ⟨rfl, hb1⟩; have h1 := r0.below hb1 (by omega); have g1 := h0.below hb1 (by omega); obtain ⟨f0, f1, f2, f3, f4, f5⟩ := h1.cells; obtain ⟨e0, e1, e2, e3, e4, e5⟩ := g1.cells; have q0 := h1.free 0; have q1 := h1.free 1; have q2 := h1.free 2; have q3 := h1.free 3; have q4 := h1.free 4; have q5 := h1.free 5; have z1 := hb1.size) | (go_at_call 55; refine (swithin_any _ _ _ _).mono ?_; rintro e w' ⟨rfl, rfl⟩) | fail)
    have bb : Below w.heap.size w w1 := b0.trans (hb1.mono (by omega))
    refine bodyPost_ret (v := .tuple #[flV 0 0 0 noneV noneV noneV, .int .i64 C]) (by simp [results, Try.results22, go_sem, f0, f1, f2, f3, f4, f5, flV, noneV]) rfl ?_
    refine ⟨_, by rw [HF1.out], ?_, fun _ => rfl, fun q => absurd (HF1.out.symm.trans q) hc0⟩
    exact (((((bb.setCell (by simp) _).setCell (by simp) _).setCell (by simp) _).setCell (by simp) _).setCell (by simp) _).setCell (by simp) _
end Go.Proofs.Ytpccpkjfnmclfaa
