/- the walk of the program's Flipped. -/
import Derived.Test.YtidddoldkedicaaWritten
import Derived.StillTailTactics
import Derived.Deep.Cut
namespace Go.Proofs.Ytidddoldkedicaa
open Go.RowKit
attribute [local go_sem] setCell_draws alloc_draws

set_option maxRecDepth 100000 in
set_option maxHeartbeats 1000000 in
theorem flippedB_any (A A' : Option Addr) (c c' : Nat) (l l' : List Int) (a z : Int) (B : Nat) (w : World) (hB : B ≤ w.heap.size) (hl : l.length ≤ 9223372036854775807) (hl' : l'.length ≤ 9223372036854775807) (h : IR w B A l) (h' : IR w B A' l') :
    Calls Try.prog 29 #[bankV A A' l.length l'.length c c', .int .i64 a, .int .i64 z] w (BankPost (flippedS l l' a z) w) := by
  have HC := Lib.hid (fun (w1 : World) (hb : Below w.heap.size w w1) => checkPlace_any A A' c c' l l' a B w1 (Nat.le_trans hB hb.size) hl hl' (h.below (hb.mono hB)) (h'.below (hb.mono hB)))
  obtain ⟨R, hRe⟩ : ∃ R, R = flippedS l l' a z := ⟨_, rfl⟩
  rw [← hRe]
  have HR : Hid (R = if placeS l l' a = 0 then (if 1 ≤ z ∧ z ≤ 22 then ((l.set a.toNat (flipZ (l.getD a.toNat 0) z), l'), 0) else (([], []), 1)) else (([], []), placeS l l' a)) := Lib.hid hRe
  clear hRe
  have hpr := fun q => place_right (l := l) (l' := l') (a := a) q
  generalize hw0 : boxed2 (.slice A l.length c) (.slice A' l'.length c') w = w0
  have b0 : Below w.heap.size w w0 := by rw [← hw0]; exact boxed2_below _ _ _
  have s0 : w0.heap.size = w.heap.size + 2 := by rw [← hw0]; exact boxed2_size _ _ _
  have e0 : w0.cell? ⟨w.heap.size, 0, none⟩ = some (.slice A l.length c) := by rw [← hw0]; simp [boxed2]
  have e1 : w0.cell? ⟨w.heap.size, 1, none⟩ = some (.slice A' l'.length c') := by rw [← hw0]; simp [boxed2]
  have r0 : HeldB w0 (w.heap.size + 1) (.slice none 0 0) (.slice none 0 0) := by
    have := HeldB.new (w.alloc (.cells #[.slice A l.length c, .slice A' l'.length c'] 33)) (.slice none 0 0) (.slice none 0 0)
    rw [World.size_alloc] at this
    rw [← hw0]
    exact this
  unfold boxed2 at hw0
  have HCC := Lib.hid (HC.out _ b0)
  have HCL := Lib.hid (fun (w1 : World) (hb : Below w.heap.size w w1) (hr : Right l l') => cloned_any A A' c c' l l' B w1 (Nat.le_trans hB hb.size) hr (h.below (hb.mono hB)) (h'.below (hb.mono hB)))
  unfold bankV at HC HCC HCL ⊢
  clear HC
  generalize placeS l l' a = P at *
  by_cases hP : P = 0
  · subst hP
    obtain ⟨hr, k, rfl, hk⟩ := hpr rfl
    rw [if_pos rfl, Int.toNat_natCast] at HR
    have hfew := hr.few
    have HSAME := Lib.hid hr.same
    have HRIGHT := Lib.hid hr
    clear hpr hr
    by_cases hz : 1 ≤ z ∧ z ≤ 22
    · rw [if_pos hz] at HR
      have hcod := HRIGHT.out.codes k hk
      have hgd : l.getD k 0 = l[k] := by simp [List.getD, hk]
      rw [hgd] at HR
      obtain ⟨n, hn⟩ : ∃ n : Nat, l[k] = (n : Int) := ⟨(l[k]).toNat, by omega⟩
      obtain ⟨b, rfl⟩ : ∃ b : Nat, z = (b : Int) + 1 := ⟨(z - 1).toNat, by omega⟩
      have hd : decide ((1 : Int) ≤ (b : Int) + 1 ∧ (b : Int) + 1 ≤ 22) = true := by simp; omega
      have HCO := Lib.hid (fun w => flipped_any n b (by omega) (by omega) ((b : Int) + 1) (Lib.hid rfl) w)
      have hfz : flipZ l[k] ((b : Int) + 1) = ((n ^^^ 2 ^ b : Nat) : Int) := by
        unfold flipZ
        rw [hn, Int.toNat_natCast, show ((b : Int) + 1).toNat - 1 = b by omega]
      rw [hfz] at HR
      clear hgd hfz hcod
      generalize n ^^^ 2 ^ b = X at *
      go_enter Try.func29, Try.ntmps29
      go_wp2_with fail
      refine HCC.out.mono ?_
      rintro e w1 ⟨rfl, hb1⟩
      have c1 := (Below.at_ hb1 w.heap.size (by omega) 0).trans e0
      have c2 := (Below.at_ hb1 w.heap.size (by omega) 1).trans e1
      have r1 := r0.below hb1 (by omega)
      have hb2 := b0.trans (hb1.mono (by omega))
      clear hw0
      go_wp2_with (first | (go_at_call 62; refine (isBit_any _ _).mono ?_; rintro e w' ⟨rfl, rfl⟩) | fail)
      refine (HCL.out w1 hb2 HRIGHT.out).mono ?_
      rintro e w2 ⟨v, rfl, g, cap, g', cap', rfl, hg, hgg, hrow, hrow', hb3⟩
      unfold bankV
      generalize hw9 : w2.alloc (.cells #[.slice (some ⟨g, 0, none⟩) l.length cap, .slice (some ⟨g', 0, none⟩) l'.length cap'] 33) = w9
      have h9 : HeldB w9 w2.heap.size (.slice (some ⟨g, 0, none⟩) l.length cap) (.slice (some ⟨g', 0, none⟩) l'.length cap') := by rw [← hw9]; exact HeldB.new _ _ _
      have b9 : Below w2.heap.size w2 w9 := by rw [← hw9]; exact box_below _ _
      have g2 := hrow.lt
      have g2' := hrow'.lt
      have r9 := hrow.below b9 g2
      have r9' := hrow'.below b9 g2'
      have m1 := r9.cell k hk
      rw [hn] at m1
      clear hn
      have m2 := r9.free k
      have m1' := r9'.cell k (by have := HSAME.out; omega)
      have m2' := r9'.free k
      have hk0 : (0 : Int) ≤ (k : Int) := Int.natCast_nonneg _
      have hk1 : (k : Int) < (l.length : Int) := by omega
      have hk2 : (k : Int) < (l'.length : Int) := by have := HSAME.out; omega
      have n1 : w2.heap.size ≠ g := by omega
      have n2 : w2.heap.size ≠ g' := by omega
      have n3 : g ≠ g' := by omega
      have n4 : ¬ g' = g := by omega
      have hz12 := hb1.size
      have hz23 := hb3.size
      have r3 := (r1.below hb3 (by omega)).below b9 (by omega)
      go_wp2_with fail
      refine wp_region_still_tail 11 (by kernel_rfl) (by kernel_rfl) ?_
      simp only [List.take_succ_cons, List.take_zero, List.drop_succ_cons, List.drop_zero]
      generalize hwd : ({ w9 with drawn := w9.drawn + 1 } : World) = wd
      have h9d : HeldB wd w2.heap.size (.slice (some ⟨g, 0, none⟩) l.length cap) (.slice (some ⟨g', 0, none⟩) l'.length cap') := by rw [← hwd]; exact h9
      obtain ⟨i1, i2⟩ := h9d.cells
      have r9d : RowAt wd g cap l := by rw [← hwd]; exact r9
      have r9d' : RowAt wd g' cap' l' := by rw [← hwd]; exact r9'
      have b9d : Below w2.heap.size w2 wd := by rw [← hwd]; exact b9.drew
      have r3d : HeldB wd (w.heap.size + 1) (.slice .none 0 0) (.slice .none 0 0) := by rw [← hwd]; exact r3
      have m1d : wd.cell? ⟨g, k, none⟩ = some (.int .i64 (n : Int)) := by rw [← hwd]; exact m1
      have m2d := r9d.free k
      clear hwd hw9 h9 r9 r9' b9 m1 m2 m1' m2' r3
      repeat still_step
      still_call ((HCO.out wd).mono fun e w' ⟨h1, h2⟩ => ⟨h1, h2.symm⟩)
      repeat still_step
      refine wpStill_nil ?_
      go_upto_region 8 with fail
      all_goals
        have q9 := h9d.other (k := k) (u := .int .i64 (X : Int)) n1
        have q1 := r3d.other (k := k) (u := .int .i64 (X : Int)) (g := g) (by omega)
        have t9 := r9d.set k (X : Int)
        have t9' := r9d'.other (g' := g) (k := k) (u := .int .i64 (X : Int)) n3.symm
        have bw := ((hb2.trans (hb3.mono hb2.size)).trans (b9d.mono (Nat.le_trans hb2.size hb3.size))).setCell (p := ⟨g, k, .none⟩) (Nat.le_trans hb2.size hg) (.int .i64 (X : Int))
        have hzw := hb1.size
        generalize wd.setCell ⟨g, k, .none⟩ (.int .i64 (X : Int)) = wf at *
        obtain ⟨i1, i2⟩ := q9.cells
        obtain ⟨j1, j2⟩ := q1.cells
        have j3 := q1.free 0
        have j4 := q1.free 1
        go_wp2_with fail
        refine bodyPost_ret (v := .tuple #[.agg #[.slice (some ⟨g, 0, .none⟩) l.length cap, .slice (some ⟨g', 0, .none⟩) l'.length cap'], .int .i64 0]) (by simp [results, Try.results29, go_sem, j1, j2]) rfl ?_
        rw [HR.out]
        refine ⟨some ⟨g, 0, .none⟩, some ⟨g', 0, .none⟩, cap, cap', by simp [bankV], ?_, ?_, ?_, fun ad q => ?_, fun ad q => ?_⟩
        · exact (((t9.other (by omega)).other (by omega)).ir).lift (Nat.le_refl _)
        · exact (((t9'.other (by omega)).other (by omega)).ir).lift (Nat.le_refl _)
        · exact (bw.setCell (by simp) _).setCell (by simp) _
        · injection q with q; subst q; exact Nat.le_trans hb2.size hg
        · injection q with q; subst q; exact Nat.le_trans hb2.size (Nat.le_trans hg (Nat.le_of_lt hgg))
    · rw [if_neg hz] at HR
      have hd : decide ((1 : Int) ≤ z ∧ z ≤ 22) = false := by simp; omega
      clear hz HCL
      go_enter Try.func29, Try.ntmps29
      go_wp2_with fail
      refine HCC.out.mono ?_
      rintro e w1 ⟨rfl, hb1⟩
      have r1 := r0.below hb1 (by omega)
      have hb2 := b0.trans (hb1.mono (by omega))
      obtain ⟨j1, j2⟩ := r1.cells
      have j3 := r1.free 0
      have j4 := r1.free 1
      clear hw0
      go_wp2_with (first | (go_at_call 62; refine (isBit_any _ _).mono ?_; rintro e w' ⟨rfl, rfl⟩) | fail)
      refine bodyPost_ret (v := .tuple #[.agg #[.slice .none 0 0, .slice .none 0 0], .int .i64 1]) (by simp [results, Try.results29, go_sem, j1, j2]) rfl ?_
      rw [HR.out]
      exact bankPost_none _ ((hb2.setCell (by simp) _).setCell (by simp) _)
  · rw [if_neg hP] at HR
    have hne : (P != 0) = true := by simpa using hP
    clear hpr HCL
    go_enter Try.func29, Try.ntmps29
    go_wp2_with fail
    refine HCC.out.mono ?_
    rintro e w1 ⟨rfl, hb1⟩
    have r1 := r0.below hb1 (by omega)
    have hb2 := b0.trans (hb1.mono (by omega))
    obtain ⟨j1, j2⟩ := r1.cells
    have j3 := r1.free 0
    have j4 := r1.free 1
    clear hw0
    go_wp2_with (first | (go_at_call 62; refine (isBit_any _ _).mono ?_; rintro e w' ⟨rfl, rfl⟩) | fail)
    refine bodyPost_ret (v := .tuple #[.agg #[.slice .none 0 0, .slice .none 0 0], .int .i64 P]) (by simp [results, Try.results29, go_sem, j1, j2]) rfl ?_
    rw [HR.out]
    exact bankPost_none _ ((hb2.setCell (by simp) _).setCell (by simp) _)
end Go.Proofs.Ytidddoldkedicaa
