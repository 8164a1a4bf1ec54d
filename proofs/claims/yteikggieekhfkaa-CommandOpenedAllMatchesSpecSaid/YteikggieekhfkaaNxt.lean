/- the walks of both next. -/
import Derived.Test.YteikggieekhfkaaGnd
import Derived.Test.YteikggieekhfkaaCodes
import Derived.RegionTactic
import Derived.BigRegion
namespace Go.Proofs.Yteikggieekhfkaa
open Go.RowKit

attribute [local go_sem] setCell_draws alloc_draws
theorem five_set {w w' : World} {g B : Nat} (hb : Below B w w') (hg : B ≤ g) (a0 a1 a2 a3 a4 : Value) :
    Below B w (((((w'.setCell ⟨g, 0, none⟩ a0).setCell ⟨g, 1, none⟩ a1).setCell ⟨g, 2, none⟩ a2).setCell ⟨g, 3, none⟩ a3).setCell ⟨g, 4, none⟩ a4) :=
  ((((hb.setCell hg _).setCell hg _).setCell hg _).setCell hg _).setCell hg _
theorem three_set {w w' : World} {g B : Nat} (hb : Below B w w') (hg : B ≤ g) (a0 a1 a2 : Value) :
    Below B w (((w'.setCell ⟨g, 0, none⟩ a0).setCell ⟨g, 1, none⟩ a1).setCell ⟨g, 2, none⟩ a2) :=
  ((hb.setCell hg _).setCell hg _).setCell hg _
theorem five_br {w : World} {g B : Nat} {A : Option Addr} {l : List UInt8} (h : BR w B A l) (hA : ∀ ad, A = some ad → ad.block ≠ g) (a0 a1 a2 a3 a4 : Value) :
    BR (((((w.setCell ⟨g, 0, none⟩ a0).setCell ⟨g, 1, none⟩ a1).setCell ⟨g, 2, none⟩ a2).setCell ⟨g, 3, none⟩ a3).setCell ⟨g, 4, none⟩ a4) B A l :=
  ((((h.other hA).other hA).other hA).other hA).other hA
theorem three_br {w : World} {g B : Nat} {A : Option Addr} {l : List UInt8} (h : BR w B A l) (hA : ∀ ad, A = some ad → ad.block ≠ g) (a0 a1 a2 : Value) :
    BR (((w.setCell ⟨g, 0, none⟩ a0).setCell ⟨g, 1, none⟩ a1).setCell ⟨g, 2, none⟩ a2) B A l :=
  ((h.other hA).other hA).other hA
theorem br_drew {w : World} {B : Nat} {A : Option Addr} {l : List UInt8} (h : BR w B A l) : BR w.drew B A l := h
theorem fin_a {w : World} {g g' : Nat} {A : Option Addr} {l : List UInt8} (h : BR w w.heap.size A l) (hA : ∀ ad, A = some ad → ad.block ≠ g) (hA' : ∀ ad, A = some ad → ad.block ≠ g') (a0 a1 a2 a3 a4 b0 b1 b2 : Value) :
    BR (((((((((w.drew.setCell ⟨g, 0, none⟩ a0).setCell ⟨g, 1, none⟩ a1).setCell ⟨g, 2, none⟩ a2).setCell ⟨g, 3, none⟩ a3).setCell ⟨g, 4, none⟩ a4).setCell ⟨g', 0, none⟩ b0).setCell ⟨g', 1, none⟩ b1).setCell ⟨g', 2, none⟩ b2))
      (((((((((w.drew.setCell ⟨g, 0, none⟩ a0).setCell ⟨g, 1, none⟩ a1).setCell ⟨g, 2, none⟩ a2).setCell ⟨g, 3, none⟩ a3).setCell ⟨g, 4, none⟩ a4).setCell ⟨g', 0, none⟩ b0).setCell ⟨g', 1, none⟩ b1).setCell ⟨g', 2, none⟩ b2)).heap.size A l :=
  (three_br (five_br (br_drew h) hA a0 a1 a2 a3 a4) hA' b0 b1 b2).lift (by simp)
theorem two_beq (a b : Nat) (h : a ≠ b) : ((a : Int) == (b : Int)) = false := beq_eq_false_iff_ne.2 (by omega)
set_option maxRecDepth 100000 in
set_option maxHeartbeats 1000000 in
theorem p_next_no (f : Int) (S : Nat) (A : Option Addr) (n c : Nat) (wd : Int) (st : Bool) (w : World) (hno : st = true ∨ S = n ∨ (S : Int) = wd) :
    Calls Try.prog 104 #[grdV f S (.slice A n c) wd st] w fun e w' => e = .returned (.tuple #[grdV 0 0 (.slice none 0 0) 0 false, ordV 0 0 none 0 0, .bool false]) ∧ Below w.heap.size w w' := by
  unfold grdV ordV
  have H3 := Lib.hid (three_new w)
  have fin : ∀ (e : Ending) (w' : World), True := fun _ _ => trivial
  cases st
  · by_cases h1 : S = n
    · have d1 : ((S : Int) == (n : Int)) = true := beq_iff_eq.2 (by omega)
      clear h1 hno fin
      go_enter Try.func104, Try.ntmps104
      go_wp2_with fail
      refine bodyPost_ret (v := .tuple #[.agg #[.int .i64 0, .int .i64 0, .slice none 0 0, .int .i64 0, .bool false], .agg #[.int .i64 0, .int .i64 0, .slice none 0 0], .bool false]) (by simp [results, Try.results104, go_sem]) rfl ⟨rfl, ?_⟩
      exact H3.out _ _ _
    · have d1 : ((S : Int) == (n : Int)) = false := two_beq S n h1
      have h2 : (S : Int) = wd := by simpa [h1] using hno
      have d2 : ((S : Int) == wd) = true := by simpa using h2
      clear h1 hno h2 fin
      go_enter Try.func104, Try.ntmps104
      go_wp2_with fail
      refine bodyPost_ret (v := .tuple #[.agg #[.int .i64 0, .int .i64 0, .slice none 0 0, .int .i64 0, .bool false], .agg #[.int .i64 0, .int .i64 0, .slice none 0 0], .bool false]) (by simp [results, Try.results104, go_sem]) rfl ⟨rfl, ?_⟩
      exact H3.out _ _ _
  · clear hno fin
    go_enter Try.func104, Try.ntmps104
    go_wp2_with fail
    refine bodyPost_ret (v := .tuple #[.agg #[.int .i64 0, .int .i64 0, .slice none 0 0, .int .i64 0, .bool false], .agg #[.int .i64 0, .int .i64 0, .slice none 0 0], .bool false]) (by simp [results, Try.results104, go_sem]) rfl ⟨rfl, ?_⟩
    exact H3.out _ _ _
set_option maxRecDepth 100000 in
set_option maxHeartbeats 1000000 in
theorem r_next_no (f : Int) (S : Nat) (A : Option Addr) (n c : Nat) (wd : Int) (st : Bool) (w : World) (hno : st = true ∨ S = n ∨ (S : Int) = wd) (hs1 : S ≤ n) :
    Calls Try.prog 64 #[grdV f S (.slice A n c) wd st] w fun e w' => e = .returned (.tuple #[grdV f S (.slice A n c) wd st, ordV 0 0 none 0 0, .bool false]) ∧ Below w.heap.size w w' := by
  unfold grdV ordV
  have H3 := Lib.hid (three_new w)
  cases st
  · have hor : S = n ∨ (S : Int) = wd := by simpa using hno
    by_cases hm : wd ≤ (n : Int)
    · have hm2 : ¬ (n : Int) < wd := by omega
      have d1 : decide (wd ≤ (S : Int)) = true := decide_eq_true (by omega)
      have d2 : wd ≤ (S : Int) := by omega
      clear hno hor hs1
      go_enter Try.func64, Try.ntmps64
      go_wp2_with fail
      refine bodyPost_ret (v := .tuple #[.agg #[.int .i64 f, .int .i64 S, .slice A n c, .int .i64 wd, .bool false], .agg #[.int .i64 0, .int .i64 0, .slice none 0 0], .bool false]) (by simp [results, Try.results64, go_sem]) rfl ⟨rfl, ?_⟩
      exact H3.out _ _ _
    · have hm2 : (n : Int) < wd := by omega
      have d1 : decide (n ≤ S) = true := decide_eq_true (by omega)
      have d2 : n ≤ S := by omega
      have d3 : (n : Int) ≤ (S : Int) := by omega
      clear hno hor hs1
      go_enter Try.func64, Try.ntmps64
      go_wp2_with fail
      refine bodyPost_ret (v := .tuple #[.agg #[.int .i64 f, .int .i64 S, .slice A n c, .int .i64 wd, .bool false], .agg #[.int .i64 0, .int .i64 0, .slice none 0 0], .bool false]) (by simp [results, Try.results64, go_sem]) rfl ⟨rfl, ?_⟩
      exact H3.out _ _ _
  · clear hno hs1
    go_enter Try.func64, Try.ntmps64
    go_wp2_with fail
    refine bodyPost_ret (v := .tuple #[.agg #[.int .i64 f, .int .i64 S, .slice A n c, .int .i64 wd, .bool true], .agg #[.int .i64 0, .int .i64 0, .slice none 0 0], .bool false]) (by simp [results, Try.results64, go_sem]) rfl ⟨rfl, ?_⟩
    exact H3.out _ _ _
set_option maxRecDepth 100000 in
set_option maxHeartbeats 1600000 in
theorem p_next_yes (f : Int) (S : Nat) (A : Option Addr) (q : List (List UInt8)) (c : Nat) (wd : Int) (B : Nat) (w : World) (hB : B ≤ w.heap.size) (h : QR w B A q) (hf0 : 0 ≤ f) (hf1 : f ≤ 255) (hq : q.length ≤ 500) (hS : S < q.length) (hw : (S : Int) < wd) (hw1 : wd ≤ 127) :
    Calls Try.prog 104 #[grdV f S (.slice A q.length c) wd false] w fun e w' => ∃ X k, e = .returned (.tuple #[grdV f ((S : Int) + 1) (.slice A q.length c) wd false, ordV 1 ((f + (S : Int)) % 256) X q[S].length k, .bool true]) ∧ BR w B X q[S] ∧ Below w.heap.size w w' := by
  obtain ⟨ad, X, k, rfl, hbk, hc, hr⟩ := h.get S hS
  unfold grdV ordV
  have HF := Lib.hid (fun w => p_further_any f S w hf0 hf1 (by omega) (by omega))
  have d1 : ((S : Int) == (q.length : Int)) = false := two_beq S _ (by omega)
  have d2 : ((S : Int) == wd) = false := by simp; omega
  have hi0 : (0 : Int) ≤ (S : Int) := by omega
  have hi1 : (S : Int) < (q.length : Int) := by omega
  have hfin := hr
  have HFIN := Lib.hid hfin
  clear hfin
  generalize hbd : q[S] = bd at *
  generalize bd.length = N at *
  obtain ⟨w0, hw0⟩ : ∃ w0, ((w.alloc (.cells (grdC f S (.slice (some ad) q.length c) wd false) 41)).alloc (.cells (grdC 0 0 (.slice none 0 0) 0 false) 41)).alloc (.cells (ordC 0 0 none 0 0) 26) = w0 := ⟨_, rfl⟩
  have B0 : Below w.heap.size w w0 := by rw [← hw0]; exact three_new w _ _ _
  have g0 : Blk w0 w.heap.size (grdC f S (.slice (some ad) q.length c) wd false) 41 := by rw [← hw0]; exact ((Blk.new w _ _).alloc _).alloc _
  have g1 : Blk w0 (w.heap.size + 1) (grdC 0 0 (.slice none 0 0) 0 false) 41 := by rw [← hw0]; exact (Blk.snd w _ _ _).alloc _
  have g2 : Blk w0 (w.heap.size + 1 + 1) (ordC 0 0 none 0 0) 26 := by rw [← hw0]; exact Blk.thd w _ _ _ _
  have hc0 : w0.cell? (ad.add S) = some (.slice X N k) := (B0.cell (by rw [add_block]; exact Nat.lt_of_lt_of_le hbk hB)).trans hc
  unfold grdC ordC at hw0
  have n1 : (ad.add S).block ≠ w.heap.size := by rw [add_block]; omega
  have n2 : (ad.add S).block ≠ w.heap.size + 1 := by rw [add_block]; omega
  clear h hc hr
  obtain ⟨p0, p1, p2, p3, p4⟩ := blk_g g0
  have hlt := g0.lt
  have hlt2 := g2.lt
  go_enter Try.func104, Try.ntmps104
  go_upto_region 3 with fail
  clear hw0
  have HSS := Lib.hid (fun (w1 : World) (hb : Below w0.heap.size w0 w1) => (⟨(hb.cell g0.lt).trans p0, (hb.cell g0.lt).trans p1, (hb.cell g0.lt).trans p2, (hb.cell (by rw [add_block]; exact Nat.lt_of_lt_of_le (Nat.lt_of_lt_of_le hbk hB) B0.size)).trans hc0⟩ : w1.cell? ⟨w.heap.size, 0, none⟩ = some (.int .i64 f) ∧ w1.cell? ⟨w.heap.size, 1, none⟩ = some (.int .i64 S) ∧ w1.cell? ⟨w.heap.size, 2, none⟩ = some (.slice (some ad) q.length c) ∧ w1.cell? (ad.add S) = some (.slice X N k)))
  have hbb : Below w0.heap.size w0 w0 := Below.refl _ _
  go_cut [5] (fun s5 wx => s5 = .pointer (some ⟨w0.heap.size, 0, none⟩) ∧ Blk wx w0.heap.size (ordC 1 ((f + (S : Int)) % 256) X N k) 26 ∧ Below w0.heap.size w0 wx)
  case first =>
    go_region_held3 (fun w' => w'.cell? ⟨w.heap.size, 0, none⟩ = some (.int .i64 f) ∧ w'.cell? ⟨w.heap.size, 1, none⟩ = some (.int .i64 S) ∧ w'.cell? ⟨w.heap.size, 2, none⟩ = some (.slice (some ad) q.length c) ∧ w'.cell? (ad.add S) = some (.slice X N k))
      (first | with_reducible exact HSS.out _ hbb | with_reducible exact HSS.out _ hbb.drew | with_reducible exact HSS.out _ (Below.alloc hbb hbb.size _) | with_reducible exact HSS.out _ (Below.drew (Below.alloc hbb hbb.size _)) | go_keep)
      (first
       | (go_at_call 102
          refine (HF.out _).mono ?_
          rintro e w3 ⟨rfl, rfl⟩))
    all_goals
      go_wp2_with fail
      go_meet
      first
      | exact ⟨rfl, Blk.new w0 (ordC 1 ((f + (S : Int)) % 256) X N k) _, Below.alloc hbb hbb.size _⟩
      | exact ⟨rfl, Blk.new w0 (ordC 1 ((f + (S : Int)) % 256) X N k) _, (Below.alloc hbb hbb.size _).drew⟩
  case rest =>
    obtain ⟨rfl, gG, hb⟩ := hcut
    clear HSS hbb hc0 HF
    have g0 := g0.below hb g0.lt
    have g1 := g1.below hb g1.lt
    have g2 := g2.below hb g2.lt
    have BX := B0.trans (hb.mono B0.size)
    have hG : w.heap.size + 1 + 1 < w0.heap.size := hlt2
    clear hb p0 p1 p2 p3 p4
    have m1 : w.heap.size ≠ w0.heap.size := by omega
    have m2 : w.heap.size + 1 ≠ w0.heap.size := by omega
    have m3 : w.heap.size + 1 + 1 ≠ w0.heap.size := by omega
    have m4 : w0.heap.size ≠ w.heap.size := by omega
    have m5 : w0.heap.size ≠ w.heap.size + 1 := by omega
    have m6 : w0.heap.size ≠ w.heap.size + 1 + 1 := by omega
    obtain ⟨p0, p1, p2, p3, p4⟩ := blk_g g0
    obtain ⟨f0, f1, f2, f3, f4, -⟩ := blk_f g0
    go_upto_region 5 with fail
    have g0 := g0.set1 1 (.int .i64 ((S : Int) + 1))
    have g1 := g1.other (k := 1) (u := .int .i64 ((S : Int) + 1)) (show w.heap.size ≠ w.heap.size + 1 by omega)
    have g2 := g2.other (k := 1) (u := .int .i64 ((S : Int) + 1)) (show w.heap.size ≠ w.heap.size + 1 + 1 by omega)
    have gG := gG.other (k := 1) (u := .int .i64 ((S : Int) + 1)) m1
    have BX := BX.setCell (p := ⟨w.heap.size, 1, none⟩) (Nat.le_refl _) (.int .i64 ((S : Int) + 1))
    generalize wc.setCell ⟨w.heap.size, 1, none⟩ (.int .i64 ((S : Int) + 1)) = wy at *
    have g0 : Blk wy w.heap.size (grdC f ((S : Int) + 1) (.slice (some ad) q.length c) wd false) 41 := g0
    clear p0 p1 p2 p3 p4 f0 f1 f2 f3 f4
    obtain ⟨p0, p1, p2, p3, p4⟩ := blk_g g0
    obtain ⟨q0, q1, q2, q3, q4⟩ := blk_g g1
    obtain ⟨e0, e1, e2, e3, e4, -⟩ := blk_f g1
    obtain ⟨r0, r1, r2⟩ := blk_o g2
    obtain ⟨i0, i1, i2, -, -, -⟩ := blk_f g2
    obtain ⟨o0, o1, o2⟩ := blk_o gG
    go_region
    all_goals
      go_wp2_with fail
      refine bodyPost_ret (v := .tuple #[.agg #[.int .i64 f, .int .i64 ((S : Int) + 1), .slice (some ad) q.length c, .int .i64 wd, .bool false], .agg #[.int .i64 1, .int .i64 ((f + (S : Int)) % 256), .slice X N k], .bool true]) (by simp [results, Try.results104, go_sem, q0, q1, q2, q3, q4, r0, r1, r2]) rfl ⟨X, k, rfl, HFIN.out, ?_⟩
      first
      | with_reducible exact three_set (five_set BX.drew (Nat.le_succ _) _ _ _ _ _) (Nat.le_add_right _ 2) _ _ _
      | with_reducible exact five_set (three_set BX.drew (Nat.le_add_right _ 2) _ _ _) (Nat.le_succ _) _ _ _ _ _
      | with_reducible exact (three_set (five_set BX (Nat.le_succ _) _ _ _ _ _) (Nat.le_add_right _ 2) _ _ _).drew
      | with_reducible exact (five_set (three_set BX (Nat.le_add_right _ 2) _ _ _) (Nat.le_succ _) _ _ _ _ _).drew
end Go.Proofs.Yteikggieekhfkaa
