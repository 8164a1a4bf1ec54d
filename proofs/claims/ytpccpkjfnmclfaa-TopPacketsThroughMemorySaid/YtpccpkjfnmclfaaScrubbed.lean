/- the walk of the program's Scrubbed. -/
import Derived.Test.YtpccpkjfnmclfaaScrub
import Derived.Test.YtpccpkjfnmclfaaBase
namespace Go.Proofs.Ytpccpkjfnmclfaa
open Go.RowKit
attribute [local go_sem] msetCell_draws malloc_draws

/-- what Scrubbed and Rounds leave -/
def ScrubPost (r : (List Int × List Int) × List Scr × Int) (w : World) (e : Ending) (w' : World) : Prop :=
  ∃ A A' c c' D k, e = .returned (.tuple #[bankV A A' r.1.1.length r.1.2.length c c', .slice D r.2.1.length k, .int .i64 r.2.2]) ∧ IR w' w'.heap.size A r.1.1 ∧ IR w' w'.heap.size A' r.1.2 ∧ SR w' w'.heap.size D r.2.1 ∧ Below w.heap.size w w' ∧
    (∀ ad, A = some ad → w.heap.size ≤ ad.block) ∧ (∀ ad, A' = some ad → w.heap.size ≤ ad.block) ∧ (∀ ad, D = some ad → w.heap.size ≤ ad.block)
theorem scrubPost_none (F : Int) {w w' : World} (h : Below w.heap.size w w') : ScrubPost (([], []), [], F) w (.returned (.tuple #[.agg #[.slice none 0 0, .slice none 0 0], .slice none 0 0, .int .i64 F])) w' :=
  ⟨.none, .none, 0, 0, .none, 0, rfl, .inl rfl, .inl rfl, .inl rfl, h, (fun _ q => by cases q), (fun _ q => by cases q), (fun _ q => by cases q)⟩

set_option maxRecDepth 100000 in
set_option maxHeartbeats 1000000 in
theorem scrubbed_any (A A' : Option Addr) (c c' : Nat) (l l' : List Int) (a z : Int) (B : Nat) (w : World) (hB : B ≤ w.heap.size) (hl : l.length ≤ 9223372036854775807) (hl' : l'.length ≤ 9223372036854775807) (h : IR w B A l) (h' : IR w B A' l') :
    Calls Try.prog 31 #[bankV A A' l.length l'.length c c', .int .i64 a, .int .i64 z] w (ScrubPost (scrubbedS l l' a z) w) := by
  have HC := Lib.hid (fun (w1 : World) (hb : Below w.heap.size w w1) => checkPlace_any A A' c c' l l' a B w1 (Nat.le_trans hB hb.size) hl hl' (h.below (hb.mono hB)) (h'.below (hb.mono hB)))
  obtain ⟨R, hRe⟩ : ∃ R, R = scrubbedS l l' a z := ⟨_, rfl⟩
  rw [← hRe]
  have HR : Hid (R = if placeS l l' a = 0 then (if 0 ≤ z ∧ z ≤ 5000 then ((ints (scrubT 0 z.toNat ⟨nats l, a.toNat, []⟩).C, l'), (scrubT 0 z.toNat ⟨nats l, a.toNat, []⟩).done, 0) else (([], []), [], 1)) else (([], []), [], placeS l l' a)) := Lib.hid hRe
  clear hRe
  have hpr := fun q => place_right (l := l) (l' := l') (a := a) q
  generalize hw0 : boxed2 (.slice A l.length c) (.slice A' l'.length c') w = w0
  have b0 : Below w.heap.size w w0 := by rw [← hw0]; exact boxed2_below _ _ _
  have s0 : w0.heap.size = w.heap.size + 2 := by rw [← hw0]; exact boxed2_size _ _ _
  have e0 : w0.cell? ⟨w.heap.size, 0, none⟩ = some (.slice A l.length c) := by rw [← hw0]; simp [boxed2]
  have e1 : w0.cell? ⟨w.heap.size, 1, none⟩ = some (.slice A' l'.length c') := by rw [← hw0]; simp [boxed2]
  have r0 : HeldB w0 (w.heap.size + 1) (.slice none 0 0) (.slice none 0 0) := by
    have := HeldB.new (w.alloc (.cells #[.slice A l.length c, .slice A' l'.length c'] 56)) (.slice none 0 0) (.slice none 0 0)
    rw [World.size_alloc] at this
    rw [← hw0]
    exact this
  unfold boxed2 at hw0
  have HCC := Lib.hid (HC.out _ b0)
  have HCL := Lib.hid (fun (w1 : World) (hb : Below w.heap.size w w1) (hr : Right l l') => cloned_any A A' c c' l l' B w1 (Nat.le_trans hB hb.size) hr (h.below (hb.mono hB)) (h'.below (hb.mono hB)))
  unfold bankV at HC HCC HCL ⊢
  clear HC
  generalize placeS l l' a = P at *
  by_cases hP : P = 0
  · subst hP
    obtain ⟨hr, k, rfl, hk⟩ := hpr rfl
    rw [if_pos rfl, Int.toNat_natCast] at HR
    have hfew := hr.few
    have HSAME := Lib.hid hr.same
    have HRIGHT := Lib.hid hr
    clear hpr hr
    by_cases hz : 0 ≤ z ∧ z ≤ 5000
    · rw [if_pos hz] at HR
      obtain ⟨m, rfl⟩ : ∃ m : Nat, z = (m : Int) := ⟨z.toNat, by omega⟩
      rw [Int.toNat_natCast] at HR
      have hd : decide ((0 : Int) ≤ (m : Int) ∧ (m : Int) ≤ 5000) = true := by simp; omega
      have HOK := Lib.hid (right_ok HRIGHT.out k hk [])
      have HIN := Lib.hid (right_ints HRIGHT.out)
      have HLN := Lib.hid (scrub_ok (t := 0) (right_ok HRIGHT.out k hk []) m).len
      go_enter Try.func31, Try.ntmps31
      go_wp2_with fail
      refine HCC.out.mono ?_
      rintro e w1 ⟨rfl, hb1⟩
      have c1 := (Below.at_ hb1 w.heap.size (by omega) 0).trans e0
      have c2 := (Below.at_ hb1 w.heap.size (by omega) 1).trans e1
      have r1 := r0.below hb1 (by omega)
      have hb2 := b0.trans (hb1.mono (by omega))
      clear hw0
      go_wp2_with (first | (go_at_call 65; refine (mwithin_any _ _ _ _).mono ?_; rintro e w' ⟨rfl, rfl⟩) | fail)
      refine (HCL.out w1 hb2 HRIGHT.out).mono ?_
      rintro e w2 ⟨v, rfl, g, cap, g', cap', rfl, hg, hgg, hrow, hrow', hb3⟩
      unfold bankV
      have hs1 := hb1.size
      have hs2 := hb2.size
      have hs3 := hb3.size
      have g2 := hrow.lt
      have g2' := hrow'.lt
      generalize hw9 : (w2.alloc (.cells #[.slice (some ⟨g, 0, none⟩) l.length cap, .slice (some ⟨g', 0, none⟩) l'.length cap'] 56)).alloc (.cells #[.slice (some ⟨g, 0, none⟩) l.length cap, .int .i64 (k : Int), .slice none 0 0] 99) = w9
      have b9 : Below w2.heap.size w2 w9 := by rw [← hw9]; exact ((Below.refl _ _).alloc (Nat.le_refl _) _).alloc (by simp) _
      have z9 : w9.heap.size = w2.heap.size + 2 := by rw [← hw9]; simp
      have h9 : HeldB w9 w2.heap.size (.slice (some ⟨g, 0, none⟩) l.length cap) (.slice (some ⟨g', 0, none⟩) l'.length cap') := by
        rw [← hw9]
        exact (HeldB.new w2 _ _).below ((Below.refl _ _).alloc (Nat.le_refl _) _) (by simp)
      have p9 : HeldS w9 (w2.heap.size + 1) (.slice (some ⟨g, 0, none⟩) l.length cap) (.int .i64 (k : Int)) (.slice none 0 0) := by
        have := HeldS.new (w2.alloc (.cells #[.slice (some ⟨g, 0, none⟩) l.length cap, .slice (some ⟨g', 0, none⟩) l'.length cap'] 56)) (.slice (some ⟨g, 0, none⟩) l.length cap) (.int .i64 (k : Int)) (.slice none 0 0)
        rw [World.size_alloc] at this
        rw [← hw9]
        exact this
      have r9 := hrow.below b9 g2
      have r9' := hrow'.below b9 g2'
      have q9 := (r1.below hb3 (by omega)).below b9 (by omega)
      have hat : ScrubAt (w2.heap.size + 1) g l.length cap w.heap.size ⟨nats l, k, []⟩ w9 w9 := ⟨_, p9, by rw [HIN.out]; exact r9, OwnS.nil _ _, Kept.refl _ _ _, by simp [Value.ownBlock], rfl⟩
      have HSC := Lib.hid (scrub_any (w2.heap.size + 1) g l.length cap w.heap.size 0 m ⟨nats l, k, []⟩ w9 w9 (by omega) (by omega) (by omega) HOK.out (by omega) hfew (by simp; omega) hat)
      have HW9 := Lib.hid hw9
      clear hw9
      go_wp2_with fail
      rw [HW9.out]
      refine HSC.out.mono ?_
      rintro e w5 ⟨rfl, hat5⟩
      generalize hst : scrubT 0 m ⟨nats l, k, []⟩ = s5 at *
      obtain ⟨C5, x5, D5⟩ := s5
      obtain ⟨dv, y1, y2, y3, y4, -, -⟩ := hat5
      simp only at y1 y2 y3 HR HLN
      obtain ⟨D, ck, rfl, y5, y6⟩ := y3.form
      clear y3 hat HSC HW9 c1 c2
      have x9 := y4.heldB h9 (by omega) (by omega)
      have xq := y4.heldB q9 (by omega) (by omega)
      have xr := y4.row r9' (by omega) (by omega)
      obtain ⟨i1, i2⟩ := x9.cells
      obtain ⟨i3, i4, i5⟩ := y1.cells
      obtain ⟨j1, j2⟩ := xq.cells
      have j3 := xq.free 0
      have j4 := xq.free 1
      have bw : Below w.heap.size w w5 := (hb2.trans (hb3.mono (by omega))).trans ((b9.mono (by omega)).trans ((y4.to (by omega)).mono (by omega)))
      go_wp2_with fail
      go_region
      go_wp2_with fail
      refine bodyPost_ret (v := .tuple #[.agg #[.slice (some ⟨g, 0, .none⟩) l.length cap, .slice (some ⟨g', 0, .none⟩) l'.length cap'], .slice D D5.length ck, .int .i64 0]) (by simp [results, Try.results31, go_sem, j1, j2]) rfl ?_
      rw [HR.out]
      refine ⟨some ⟨g, 0, .none⟩, some ⟨g', 0, .none⟩, cap, cap', D, ck, by simp [bankV, ints_len, HLN.out], ?_, ?_, ?_, ?_, fun ad q => ?_, fun ad q => ?_, fun ad q => ?_⟩
      · exact (((y2.other (by omega)).other (by omega)).drew.ir).lift (Nat.le_refl _)
      · exact (((xr.other (by omega)).other (by omega)).drew.ir).lift (Nat.le_refl _)
      · have hq : SR ((w5.setCell ⟨w.heap.size + 1, 0, .none⟩ (.slice (some ⟨g, 0, .none⟩) l.length cap)).setCell ⟨w.heap.size + 1, 1, .none⟩ (.slice (some ⟨g', 0, .none⟩) l'.length cap')) w5.heap.size D D5 := (y5.other fun ad q => by have := y6 ad q; omega).other fun ad q => by have := y6 ad q; omega
        exact (SR.below (B := w5.heap.size) hq (Below.drew (Below.refl _ _))).lift (by simp [World.setCell])
      · exact ((bw.setCell (p := ⟨w.heap.size + 1, 0, .none⟩) (by simp) _).setCell (p := ⟨w.heap.size + 1, 1, .none⟩) (by simp) _).drew
      · injection q with q; subst q; exact Nat.le_trans hb2.size hg
      · injection q with q; subst q; exact Nat.le_trans hb2.size (Nat.le_trans hg (Nat.le_of_lt hgg))
      · have := y6 ad q; omega
    · rw [if_neg hz] at HR
      have hd : decide ((0 : Int) ≤ z ∧ z ≤ 5000) = false := by simp; omega
      clear hz HCL
      go_enter Try.func31, Try.ntmps31
      go_wp2_with fail
      refine HCC.out.mono ?_
      rintro e w1 ⟨rfl, hb1⟩
      have r1 := r0.below hb1 (by omega)
      have hb2 := b0.trans (hb1.mono (by omega))
      obtain ⟨j1, j2⟩ := r1.cells
      have j3 := r1.free 0
      have j4 := r1.free 1
      clear hw0
      go_wp2_with (first | (go_at_call 65; refine (mwithin_any _ _ _ _).mono ?_; rintro e w' ⟨rfl, rfl⟩) | fail)
      refine bodyPost_ret (v := .tuple #[.agg #[.slice .none 0 0, .slice .none 0 0], .slice .none 0 0, .int .i64 1]) (by simp [results, Try.results31, go_sem, j1, j2]) rfl ?_
      rw [HR.out]
      exact scrubPost_none _ ((hb2.setCell (by simp) _).setCell (by simp) _)
  · rw [if_neg hP] at HR
    have hne : (P != 0) = true := by simpa using hP
    clear hpr HCL
    go_enter Try.func31, Try.ntmps31
    go_wp2_with fail
    refine HCC.out.mono ?_
    rintro e w1 ⟨rfl, hb1⟩
    have r1 := r0.below hb1 (by omega)
    have hb2 := b0.trans (hb1.mono (by omega))
    obtain ⟨j1, j2⟩ := r1.cells
    have j3 := r1.free 0
    have j4 := r1.free 1
    clear hw0
    go_wp2_with (first | (go_at_call 65; refine (mwithin_any _ _ _ _).mono ?_; rintro e w' ⟨rfl, rfl⟩) | fail)
    refine bodyPost_ret (v := .tuple #[.agg #[.slice .none 0 0, .slice .none 0 0], .slice .none 0 0, .int .i64 P]) (by simp [results, Try.results31, go_sem, j1, j2]) rfl ?_
    rw [HR.out]
    exact scrubPost_none _ ((hb2.setCell (by simp) _).setCell (by simp) _)
end Go.Proofs.Ytpccpkjfnmclfaa
