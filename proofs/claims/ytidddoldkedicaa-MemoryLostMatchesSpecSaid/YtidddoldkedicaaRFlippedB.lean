/- the walk of the reference's Flipped. -/
import Derived.Test.YtidddoldkedicaaFlippedB
import Derived.Test.YtidddoldkedicaaRReadAt
import Derived.Test.YtidddoldkedicaaRCoded
import Derived.StillTailTactics
import Derived.Deep.Cut
namespace Go.Proofs.Ytidddoldkedicaa
open Go.RowKit
theorem xor_up (c a : Nat) (hc : c < 4194304) (ha : a < 22) : bits .xor .i64 (c : Int) ((2 : Int) ^ a) = ((c ^^^ 2 ^ a : Nat) : Int) := by
  have hp : 2 ^ a < 4194304 := Nat.pow_lt_pow_right (show 1 < 2 by omega) ha
  rw [show (2 : Int) ^ a = ((2 ^ a : Nat) : Int) by simp]
  generalize 2 ^ a = p at *
  exact xor64 c p (by omega) (by omega)
attribute [local go_sem] setCell_draws alloc_draws

set_option maxRecDepth 100000 in
set_option maxHeartbeats 1000000 in
theorem rflippedB_any (A A' : Option Addr) (c c' : Nat) (l l' : List Int) (a z : Int) (B : Nat) (w : World) (hB : B ≤ w.heap.size) (hl : l.length ≤ 9223372036854775807) (hl' : l'.length ≤ 9223372036854775807) (h : IR w B A l) (h' : IR w B A' l') :
    Calls Try.prog 30 #[bankV A A' l.length l'.length c c', .int .i64 a, .int .i64 z] w (BankPost (flippedS l l' a z) w) := by
  have HC := Lib.hid (fun (w1 : World) (hb : Below w.heap.size w w1) => rcheckBank_any A A' c c' l l' B w1 (Nat.le_trans hB hb.size) hl hl' (h.below (hb.mono hB)) (h'.below (hb.mono hB)))
  obtain ⟨R, hRe⟩ : ∃ R, R = flippedS l l' a z := ⟨_, rfl⟩
  rw [← hRe]
  have HR : Hid (R = if placeS l l' a = 0 then (if 1 ≤ z ∧ z ≤ 22 then ((l.set a.toNat (flipZ (l.getD a.toNat 0) z), l'), 0) else (([], []), 1)) else (([], []), placeS l l' a)) := Lib.hid hRe
  clear hRe
  have hpr := fun q => place_right (l := l) (l' := l') (a := a) q
  have hpc := place_cases l l' a
  have hrt := fun q => (chk_right (l := l) (l' := l') q)
  have HPL := Lib.hid (fun (w : World) (hn : l.length ≤ 2000) => isPlace_any A A' l.length l'.length c c' a w hn)
  generalize hw0 : boxed2 (.slice A l.length c) (.slice A' l'.length c') w = w0
  have b0 : Below w.heap.size w w0 := by rw [← hw0]; exact boxed2_below _ _ _
  have s0 : w0.heap.size = w.heap.size + 2 := by rw [← hw0]; exact boxed2_size _ _ _
  have e0 : w0.cell? ⟨w.heap.size, 0, none⟩ = some (.slice A l.length c) := by rw [← hw0]; simp [boxed2]
  have e1 : w0.cell? ⟨w.heap.size, 1, none⟩ = some (.slice A' l'.length c') := by rw [← hw0]; simp [boxed2]
  have r0 : HeldB w0 (w.heap.size + 1) (.slice none 0 0) (.slice none 0 0) := by
    have := HeldB.new (w.alloc (.cells #[.slice A l.length c, .slice A' l'.length c'] 33)) (.slice none 0 0) (.slice none 0 0)
    rw [World.size_alloc] at this
    rw [← hw0]
    exact this
  unfold boxed2 at hw0
  have HCC := Lib.hid (HC.out _ b0)
  have HCL := Lib.hid (fun (w1 : World) (hb : Below w.heap.size w w1) (hr : Right l l') => rcloned_any A A' c c' l l' B w1 (Nat.le_trans hB hb.size) hr (h.below (hb.mono hB)) (h'.below (hb.mono hB)))
  unfold bankV at HC HCC HCL HPL ⊢
  clear HC
  generalize placeS l l' a = P at *
  generalize chkB l l' = K at *
  rcases hpc with ⟨rfl, hin, rfl⟩ | ⟨rfl, hin, rfl⟩ | ⟨hK, rfl⟩
  · obtain ⟨hr, k, rfl, hk⟩ := hpr rfl
    have hdp : decide ((0 : Int) ≤ (k : Int) ∧ (k : Int) ≤ (l.length : Int) - 1) = true := by simp; omega
    rw [hdp] at HPL
    clear hdp hin hrt
    rw [if_pos rfl, Int.toNat_natCast] at HR
    have hfew := hr.few
    have HSAME := Lib.hid hr.same
    have HRIGHT := Lib.hid hr
    clear hpr hr
    by_cases hz : 1 ≤ z ∧ z ≤ 22
    · rw [if_pos hz] at HR
      have hcod := HRIGHT.out.codes k hk
      have hgd : l.getD k 0 = l[k] := by simp [List.getD, hk]
      rw [hgd] at HR
      obtain ⟨n, hn⟩ : ∃ n : Nat, l[k] = (n : Int) := ⟨(l[k]).toNat, by omega⟩
      obtain ⟨b, rfl⟩ : ∃ b : Nat, z = (b : Int) + 1 := ⟨(z - 1).toNat, by omega⟩
      have hd : decide ((1 : Int) ≤ (b : Int) + 1 ∧ (b : Int) + 1 ≤ 22) = true := by simp; omega
      have hwp := wpow b (by omega)
      rw [show ((2 ^ b : Nat) : Int) = (2 : Int) ^ b by simp] at hwp
      have hxu := xor_up n b (by omega) (by omega)
      have hfz : flipZ l[k] ((b : Int) + 1) = ((n ^^^ 2 ^ b : Nat) : Int) := by
        unfold flipZ
        rw [hn, Int.toNat_natCast, show ((b : Int) + 1).toNat - 1 = b by omega]
      rw [hfz] at HR
      clear hgd hfz hcod
      generalize n ^^^ 2 ^ b = X at *
      go_enter Try.func30, Try.ntmps30
      go_wp2_with fail
      refine HCC.out.mono ?_
      rintro e u1 ⟨rfl, hb1u⟩
      have c1u := (Below.at_ hb1u w.heap.size (by omega) 0).trans e0
      have c2u := (Below.at_ hb1u w.heap.size (by omega) 1).trans e1
      go_wp2_with fail
      refine (HPL.out u1 hfew).mono ?_
      rintro e w1 ⟨rfl, hb1v⟩
      have hb1 := hb1u.trans (hb1v.mono hb1u.size)
      have c1 := (Below.at_ hb1 w.heap.size (by omega) 0).trans e0
      have c2 := (Below.at_ hb1 w.heap.size (by omega) 1).trans e1
      have r1 := r0.below hb1 (by omega)
      have hb2 := b0.trans (hb1.mono (by omega))
      clear hw0
      go_wp2_with (first | (go_at_call 51; refine (rwithin_any _ _ _ _).mono ?_; rintro e w' ⟨rfl, rfl⟩) | fail)
      refine (HCL.out w1 hb2 HRIGHT.out).mono ?_
      rintro e w2 ⟨v, rfl, g, cap, g', cap', rfl, hg, hgg, hrow, hrow', hb3⟩
      unfold bankV
      generalize hw9 : w2.alloc (.cells #[.slice (some ⟨g, 0, none⟩) l.length cap, .slice (some ⟨g', 0, none⟩) l'.length cap'] 33) = w9
      have h9 : HeldB w9 w2.heap.size (.slice (some ⟨g, 0, none⟩) l.length cap) (.slice (some ⟨g', 0, none⟩) l'.length cap') := by rw [← hw9]; exact HeldB.new _ _ _
      have b9 : Below w2.heap.size w2 w9 := by rw [← hw9]; exact box_below _ _
      have g2 := hrow.lt
      have g2' := hrow'.lt
      have r9 := hrow.below b9 g2
      have r9' := hrow'.below b9 g2'
      have m1 := r9.cell k hk
      rw [hn] at m1
      clear hn
      have m2 := r9.free k
      have m1' := r9'.cell k (by have := HSAME.out; omega)
      have m2' := r9'.free k
      have hk0 : (0 : Int) ≤ (k : Int) := Int.natCast_nonneg _
      have hk1 : (k : Int) < (l.length : Int) := by omega
      have hk2 : (k : Int) < (l'.length : Int) := by have := HSAME.out; omega
      have n1 : w2.heap.size ≠ g := by omega
      have n2 : w2.heap.size ≠ g' := by omega
      have n3 : g ≠ g' := by omega
      have n4 : ¬ g' = g := by omega
      have hz12 := hb1.size
      have hz23 := hb3.size
      have r3 := (r1.below hb3 (by omega)).below b9 (by omega)
      go_wp2_with fail
      obtain ⟨i1, i2⟩ := h9.cells
      clear hw9
      go_region
      all_goals
        have q9 := (h9.other (k := k) (u := .int .i64 (X : Int)) n1).drew
        have q1 := (r3.other (k := k) (u := .int .i64 (X : Int)) (g := g) (by omega)).drew
        have t9 := (r9.set k (X : Int)).drew
        have t9' := (r9'.other (g' := g) (k := k) (u := .int .i64 (X : Int)) n3.symm).drew
        have bw := ((hb2.trans (hb3.mono hb2.size)).trans (b9.mono (Nat.le_trans hb2.size hb3.size))).setCell (p := ⟨g, k, .none⟩) (Nat.le_trans hb2.size hg) (.int .i64 (X : Int)) |>.drew
        generalize World.drew _ = wf at *
        clear i1 i2
        have hzw := hb1.size
        obtain ⟨i1, i2⟩ := q9.cells
        obtain ⟨j1, j2⟩ := q1.cells
        have j3 := q1.free 0
        have j4 := q1.free 1
        go_wp2_with fail
        refine bodyPost_ret (v := .tuple #[.agg #[.slice (some ⟨g, 0, .none⟩) l.length cap, .slice (some ⟨g', 0, .none⟩) l'.length cap'], .int .i64 0]) (by simp [results, Try.results30, go_sem, j1, j2]) rfl ?_
        rw [HR.out]
        refine ⟨some ⟨g, 0, .none⟩, some ⟨g', 0, .none⟩, cap, cap', by simp [bankV], ?_, ?_, ?_, fun ad q => ?_, fun ad q => ?_⟩
        · exact (((t9.other (by omega)).other (by omega)).ir).lift (Nat.le_refl _)
        · exact (((t9'.other (by omega)).other (by omega)).ir).lift (Nat.le_refl _)
        · exact (bw.setCell (by simp) _).setCell (by simp) _
        · injection q with q; subst q; exact Nat.le_trans hb2.size hg
        · injection q with q; subst q; exact Nat.le_trans hb2.size (Nat.le_trans hg (Nat.le_of_lt hgg))
    · rw [if_neg hz] at HR
      have hd : decide ((1 : Int) ≤ z ∧ z ≤ 22) = false := by simp; omega
      clear hz HCL
      go_enter Try.func30, Try.ntmps30
      go_wp2_with fail
      refine HCC.out.mono ?_
      rintro e u1 ⟨rfl, hb1u⟩
      have c1u := (Below.at_ hb1u w.heap.size (by omega) 0).trans e0
      have c2u := (Below.at_ hb1u w.heap.size (by omega) 1).trans e1
      go_wp2_with fail
      refine (HPL.out u1 hfew).mono ?_
      rintro e w1 ⟨rfl, hb1v⟩
      have hb1 := hb1u.trans (hb1v.mono hb1u.size)
      have r1 := r0.below hb1 (by omega)
      have hb2 := b0.trans (hb1.mono (by omega))
      obtain ⟨j1, j2⟩ := r1.cells
      have j3 := r1.free 0
      have j4 := r1.free 1
      clear hw0
      go_wp2_with (first | (go_at_call 51; refine (rwithin_any _ _ _ _).mono ?_; rintro e w' ⟨rfl, rfl⟩) | fail)
      refine bodyPost_ret (v := .tuple #[.agg #[.slice .none 0 0, .slice .none 0 0], .int .i64 1]) (by simp [results, Try.results30, go_sem, j1, j2]) rfl ?_
      rw [HR.out]
      exact bankPost_none _ ((hb2.setCell (by simp) _).setCell (by simp) _)
  · rw [if_neg (by omega)] at HR
    have hfew := (hrt rfl).few
    have hdp : decide ((0 : Int) ≤ a ∧ a ≤ (l.length : Int) - 1) = false := by simp; omega
    rw [hdp] at HPL
    clear hpr HCL hrt hin hdp
    go_enter Try.func30, Try.ntmps30
    go_wp2_with fail
    refine HCC.out.mono ?_
    rintro e u1 ⟨rfl, hb1u⟩
    have c1u := (Below.at_ hb1u w.heap.size (by omega) 0).trans e0
    have c2u := (Below.at_ hb1u w.heap.size (by omega) 1).trans e1
    go_wp2_with fail
    refine (HPL.out u1 hfew).mono ?_
    rintro e w1 ⟨rfl, hb1v⟩
    have hb1 := hb1u.trans (hb1v.mono hb1u.size)
    have r1 := r0.below hb1 (by omega)
    have hb2 := b0.trans (hb1.mono (by omega))
    obtain ⟨j1, j2⟩ := r1.cells
    have j3 := r1.free 0
    have j4 := r1.free 1
    clear hw0
    go_wp2_with (first | (go_at_call 51; refine (rwithin_any _ _ _ _).mono ?_; rintro e w' ⟨rfl, rfl⟩) | fail)
    refine bodyPost_ret (v := .tuple #[.agg #[.slice .none 0 0, .slice .none 0 0], .int .i64 9]) (by simp [results, Try.results30, go_sem, j1, j2]) rfl ?_
    rw [HR.out]
    exact bankPost_none _ ((hb2.setCell (by simp) _).setCell (by simp) _)
  · rw [if_neg hK] at HR
    have hne : (P != 0) = true := by simpa using hK
    clear hpr HCL hrt HPL
    go_enter Try.func30, Try.ntmps30
    go_wp2_with fail
    refine HCC.out.mono ?_
    rintro e w1 ⟨rfl, hb1⟩
    have r1 := r0.below hb1 (by omega)
    have hb2 := b0.trans (hb1.mono (by omega))
    obtain ⟨j1, j2⟩ := r1.cells
    have j3 := r1.free 0
    have j4 := r1.free 1
    clear hw0
    go_wp2_with (first | (go_at_call 51; refine (rwithin_any _ _ _ _).mono ?_; rintro e w' ⟨rfl, rfl⟩) | fail)
    refine bodyPost_ret (v := .tuple #[.agg #[.slice .none 0 0, .slice .none 0 0], .int .i64 P]) (by simp [results, Try.results30, go_sem, j1, j2]) rfl ?_
    rw [HR.out]
    exact bankPost_none _ ((hb2.setCell (by simp) _).setCell (by simp) _)
end Go.Proofs.Ytidddoldkedicaa
