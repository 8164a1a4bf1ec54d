/- the walk of the reference's heard: its queue is as it was or new, the bodies where they were. -/
import Derived.Test.YteikggieekhfkaaHrd
import Derived.Test.YteikggieekhfkaaQD
import Derived.Test.YteikggieekhfkaaNxt
import Derived.RegionTactic
import Derived.BigRegion
import Derived.Deep.RegionWith
import Derived.Deep.RegionLaw
namespace Go.Proofs.Yteikggieekhfkaa
open Go.RowKit

attribute [local go_sem] setCell_draws alloc_draws
theorem br_drew' {w : World} {B : Nat} {A : Option Addr} {l : List UInt8} (h : BR w.drew B A l) : BR w B A l := h
/-- what a ground becomes: its queue as it was, or new -/
def GndF (B : Nat) (A0 : Option Addr) (g : Gnd) (w : World) (e : Ending) (w' : World) : Prop :=
  ∃ A c, e = .returned (grdV g.f g.s (.slice A g.q.length c) g.wd g.st) ∧ QC w' w' B A g.q ∧ g.q.length ≤ c ∧ (A = none → c = 0) ∧ Below w.heap.size w w' ∧ (A = A0 ∨ ∀ ad, A = some ad → w.heap.size ≤ ad.block)
theorem QC.stay {w w' : World} {B : Nat} {A : Option Addr} {q : List (List UInt8)} (h : QC w w' B A q) (hb : Below w.heap.size w w') (hB : B ≤ w.heap.size) : QC w' w' B A q := by
  obtain ⟨ds, h1, h2, h3⟩ := h
  exact ⟨ds, h1, h2, fun i hi hi' => ⟨(h3 i hi hi').1, (h3 i hi hi').2.below (hb.mono hB)⟩⟩
def sendOf (R : Bool) (S D : Nat) : Int := if R then 0 else (S : Int) - (D : Int)
set_option maxRecDepth 100000 in
set_option maxHeartbeats 4000000 in
theorem rheard_core (f : Int) (S D : Nat) (ad : Addr) (q : List (List UInt8)) (c : Nat) (wd : Int) (st : Bool) (n : Int) (R T : Bool) (B : Nat) (w : World) (hB : B ≤ w.heap.size) (h : QC w w B (some ad) q) (hc : q.length ≤ c)
    (HA : Hid (∀ w, Calls Try.prog 92 #[.int .i64 n, .int .i64 f] w fun e w' => e = .returned (.int .i64 (D : Int)) ∧ w = w'))
    (hle : D ≤ S) (hS : S ≤ q.length) (hq : q.length ≤ 500) :
    Calls Try.prog 65 #[grdV f S (.slice (some ad) q.length c) wd st, ackV n false R T] w (GndF B (some ad) ⟨n, sendOf R S D, q.drop D, wd, st⟩ w) := by
  unfold grdV ackV
  have hi : ¬ (S : Int) < (D : Int) := by omega
  have hi1 : (D : Int) ≤ (S : Int) := by omega
  have hi2 : (S : Int) ≤ 500 := by omega
  have hi3 : 0 ≤ (S : Int) - (D : Int) := by omega
  have hi4 : (S : Int) - (D : Int) ≤ 500 := by omega
  have hdl : D ≤ q.length := by omega
  have hdc : D ≤ c := by omega
  have HDL : Hid (q.length - D = (q.drop D).length) := Lib.hid (by simp)
  have HT := Lib.hid (fun (w' : World) (hb : Below w.heap.size w w') => (h.next hb hB).rest hdl hc)
  have HC := Lib.hid (fun (w1 : World) (hb : Below w.heap.size w w1) => (cloneQD_any (if c = D then some ad else some (ad.add D)) (q.length - D) (c - D) (q.drop D) B w1 HDL.out (by simp; omega) (HT.out w1 hb)))
  obtain ⟨w0, hw0⟩ : ∃ w0, ((w.alloc (.cells (grdC f S (.slice (some ad) q.length c) wd st) 41)).alloc (.cells (ackC n false R T) 32)).alloc (.cells (grdC 0 0 (.slice none 0 0) 0 false) 41) = w0 := ⟨_, rfl⟩
  have B0 : Below w.heap.size w w0 := by rw [← hw0]; exact three_new w _ _ _
  have g0 : Blk w0 w.heap.size (grdC f S (.slice (some ad) q.length c) wd st) 41 := by rw [← hw0]; exact ((Blk.new w _ _).alloc _).alloc _
  have g1 : Blk w0 (w.heap.size + 1) (ackC n false R T) 32 := by rw [← hw0]; exact (Blk.snd w _ _ _).alloc _
  have g2 : Blk w0 (w.heap.size + 1 + 1) (grdC 0 0 (.slice none 0 0) 0 false) 41 := by rw [← hw0]; exact Blk.thd w _ _ _ _
  unfold grdC ackC at hw0
  obtain ⟨p0, p1, p2, p3, p4⟩ := blk_g g0
  obtain ⟨a0, a1, a2, a3⟩ := blk_a g1
  have v1 : IntKind.i64.wrap ((S : Int) - (D : Int)) = (S : Int) - (D : Int) := IntWalk.i64_in _ (by omega)
  clear h
  have HBK := Lib.hid (fun (X : Option Addr) (l : List UInt8) (hx : BR w0 B X l) => (show BR w B X l from hx.stay fun p hp => (B0.cell (Nat.lt_of_lt_of_le hp hB)).symm))
  have G0 := Lib.hid g0
  have G1 := Lib.hid g1
  have G2 := Lib.hid g2
  clear g0 g1 g2
  by_cases hcd : c = D
  · subst hcd
    have HC1 := Lib.hid (fun (w1 : World) (hb : Below w.heap.size w w1) => by have := HC.out w1 hb; rw [if_pos rfl, Nat.sub_self, Nat.sub_eq_zero_of_le hc] at this; exact this)
    clear HC HT
    go_enter Try.func65, Try.ntmps65
    go_upto_region 7 with (first | (go_at_call 92; refine (HA.out _).mono ?_; rintro e w' ⟨rfl, rfl⟩) | fail)
    clear hw0
    go_cut [5] (fun s5 wx => s5 = .int .i64 (c : Int) ∧ ∃ (A : Option Addr) (cc : Nat), Blk wx w.heap.size (grdC n ((S : Int) - (c : Int)) (.slice A 0 cc) wd st) 41 ∧ Blk wx (w.heap.size + 1) (ackC n false R T) 32 ∧ Blk wx (w.heap.size + 1 + 1) (grdC 0 0 (.slice none 0 0) 0 false) 41 ∧ QC w wx B A (q.drop c) ∧ 0 ≤ cc ∧ (A = none → cc = 0) ∧ Below w.heap.size w wx ∧ ∀ ad, A = some ad → w0.heap.size ≤ ad.block)
    case first =>
      go_region_law ((go_simp; go_at_call 93; refine (HC1.out _ ?_).mono ?_; (first | exact B0.drew | exact B0); rintro e w3 ⟨A3, c3, rfl, hr3, hlc3, hn3, hf3, hb3⟩; have hb3 : Below w0.heap.size w0 w3 := (by first | exact hb3 | exact (Below.refl w0.heap.size w0).drew.trans hb3); have b3 := Blk.below G0.out hb3 G0.out.lt; obtain ⟨r0, r1, r2, r3, r4⟩ := blk_g b3; have b4 := Blk.below G1.out hb3 G1.out.lt; obtain ⟨s0, s1, s2, s3⟩ := blk_a b4; obtain ⟨f0, f1, f2, f3, f4, -⟩ := blk_f b3))
      all_goals
        have hfx : ∀ ad, A3 = some ad → w0.heap.size ≤ ad.block := hf3
        have hne : ∀ ad, A3 = some ad → ad.block ≠ w.heap.size := fun ad e => by have := hfx ad e; have := G0.out.lt; omega
        have hq3 : QC w w3 B A3 (q.drop c) := by
          obtain ⟨ds, x1, x2, x3⟩ := hr3
          exact ⟨ds, x1, x2, fun i hi hi' => ⟨(x3 i hi hi').1, HBK.out _ _ (by first | exact (x3 i hi hi').2 | exact br_drew' (x3 i hi hi').2)⟩⟩
        have b5 := Blk.below G2.out hb3 G2.out.lt
        have bw : Below w.heap.size w w3 := B0.trans (hb3.mono B0.size)
        go_wp2_with fail
        go_meet
        exact ⟨rfl, A3, c3, ((b3.set1 2 (.slice A3 0 c3)).set1 0 (.int .i64 n)).set1 1 (.int .i64 ((S : Int) - (c : Int))), ((b4.other (by omega)).other (by omega)).other (by omega), ((b5.other (by omega)).other (by omega)).other (by omega), ((hq3.other hne).other hne).other hne, hlc3, hn3, ((bw.setCell (Nat.le_refl _) _).setCell (Nat.le_refl _) _).setCell (Nat.le_refl _) _, hfx⟩
    case rest =>
      obtain ⟨rfl, A3, c3, g0, g1, g2, hq3, hlc3, hn3, hb3, hfx⟩ := hcut
      have hz2 := G2.out.lt
      have hne1 : ∀ ad, A3 = some ad → ad.block ≠ w.heap.size := fun ad e => by have := hfx ad e; omega
      have hne2 : ∀ ad, A3 = some ad → ad.block ≠ w.heap.size + 1 + 1 := fun ad e => by have := hfx ad e; omega
      have HNA := Lib.hid hne1
      have HNB := Lib.hid hne2
      have HDL2 : Hid ((q.drop c).length = 0) := Lib.hid (by simp; omega)
      have HFX : Hid (∀ ad, A3 = some ad → w.heap.size ≤ ad.block) := Lib.hid (fun ad e => by have := hfx ad e; have := B0.size; omega)
      clear hne1 hne2 hfx HC1 HA G0 G1 G2 HBK p0 p1 p2 p3 p4 a0 a1 a2 a3 B0 HDL
      obtain ⟨p0, p1, p2, p3, p4⟩ := blk_g g0
      obtain ⟨e0, e1, e2, e3, e4, -⟩ := blk_f g0
      obtain ⟨a0, a1, a2, a3⟩ := blk_a g1
      obtain ⟨q0, q1, q2, q3, q4⟩ := blk_g g2
      obtain ⟨f0, f1, f2, f3, f4, -⟩ := blk_f g2
      have m1 : w.heap.size ≠ w.heap.size + 1 + 1 := by omega
      have m2 : w.heap.size + 1 + 1 ≠ w.heap.size := by omega
      have HB9 := Lib.hid hb3
      have HQ9 := Lib.hid hq3
      clear hb3 hq3
      cases R
      · go_wp2_with fail
        refine bodyPost_ret (v := .agg #[.int .i64 n, .int .i64 ((S : Int) - (c : Int)), .slice A3 0 c3, .int .i64 wd, .bool st]) (by simp [results, Try.results65, go_sem, q0, q1, q2, q3, q4]) rfl ?_
        refine ⟨A3, c3, by show _ = Ending.returned (grdV _ _ (.slice _ (q.drop c).length _) _ _); rw [HDL2.out]; rfl, ?_, by show (q.drop c).length ≤ _; rw [HDL2.out]; exact hlc3, hn3, five_set HB9.out (by omega) _ _ _ _ _, .inr HFX.out⟩
        exact (((((HQ9.out.other HNB.out).other HNB.out).other HNB.out).other HNB.out).other HNB.out).stay (five_set HB9.out (by omega) _ _ _ _ _) hB
      · go_wp2_with fail
        refine bodyPost_ret (v := .agg #[.int .i64 n, .int .i64 0, .slice A3 0 c3, .int .i64 wd, .bool st]) (by simp [results, Try.results65, go_sem, q0, q1, q2, q3, q4]) rfl ?_
        refine ⟨A3, c3, by show _ = Ending.returned (grdV _ _ (.slice _ (q.drop c).length _) _ _); rw [HDL2.out]; rfl, ?_, by show (q.drop c).length ≤ _; rw [HDL2.out]; exact hlc3, hn3, five_set (HB9.out.setCell (p := ⟨w.heap.size, 1, none⟩) (Nat.le_refl _) _) (by omega) _ _ _ _ _, .inr HFX.out⟩
        exact ((((((HQ9.out.other HNA.out).other HNB.out).other HNB.out).other HNB.out).other HNB.out).other HNB.out).stay (five_set (HB9.out.setCell (p := ⟨w.heap.size, 1, none⟩) (Nat.le_refl _) _) (by omega) _ _ _ _ _) hB
  · have HC1 := Lib.hid (fun (w1 : World) (hb : Below w.heap.size w w1) => by have := HC.out w1 hb; rw [if_neg hcd] at this; exact this)
    clear HC HT
    go_enter Try.func65, Try.ntmps65
    go_upto_region 7 with (first | (go_at_call 92; refine (HA.out _).mono ?_; rintro e w' ⟨rfl, rfl⟩) | fail)
    clear hw0
    go_cut [5] (fun s5 wx => s5 = .int .i64 (D : Int) ∧ ∃ (A : Option Addr) (cc : Nat), Blk wx w.heap.size (grdC n ((S : Int) - (D : Int)) (.slice A (q.length - D) cc) wd st) 41 ∧ Blk wx (w.heap.size + 1) (ackC n false R T) 32 ∧ Blk wx (w.heap.size + 1 + 1) (grdC 0 0 (.slice none 0 0) 0 false) 41 ∧ QC w wx B A (q.drop D) ∧ q.length - D ≤ cc ∧ (A = none → cc = 0) ∧ Below w.heap.size w wx ∧ ∀ ad, A = some ad → w0.heap.size ≤ ad.block)
    case first =>
      go_region_law ((go_simp; go_at_call 93; refine (HC1.out _ ?_).mono ?_; (first | exact B0.drew | exact B0); rintro e w3 ⟨A3, c3, rfl, hr3, hlc3, hn3, hf3, hb3⟩; have hb3 : Below w0.heap.size w0 w3 := (by first | exact hb3 | exact (Below.refl w0.heap.size w0).drew.trans hb3); have b3 := Blk.below G0.out hb3 G0.out.lt; obtain ⟨r0, r1, r2, r3, r4⟩ := blk_g b3; have b4 := Blk.below G1.out hb3 G1.out.lt; obtain ⟨s0, s1, s2, s3⟩ := blk_a b4; obtain ⟨f0, f1, f2, f3, f4, -⟩ := blk_f b3))
      all_goals
        have hfx : ∀ ad, A3 = some ad → w0.heap.size ≤ ad.block := hf3
        have hne : ∀ ad, A3 = some ad → ad.block ≠ w.heap.size := fun ad e => by have := hfx ad e; have := G0.out.lt; omega
        have hq3 : QC w w3 B A3 (q.drop D) := by
          obtain ⟨ds, x1, x2, x3⟩ := hr3
          exact ⟨ds, x1, x2, fun i hi hi' => ⟨(x3 i hi hi').1, HBK.out _ _ (by first | exact (x3 i hi hi').2 | exact br_drew' (x3 i hi hi').2)⟩⟩
        have b5 := Blk.below G2.out hb3 G2.out.lt
        have bw : Below w.heap.size w w3 := B0.trans (hb3.mono B0.size)
        go_wp2_with fail
        go_meet
        exact ⟨rfl, A3, c3, ((b3.set1 2 (.slice A3 (q.length - D) c3)).set1 0 (.int .i64 n)).set1 1 (.int .i64 ((S : Int) - (D : Int))), ((b4.other (by omega)).other (by omega)).other (by omega), ((b5.other (by omega)).other (by omega)).other (by omega), ((hq3.other hne).other hne).other hne, hlc3, hn3, ((bw.setCell (Nat.le_refl _) _).setCell (Nat.le_refl _) _).setCell (Nat.le_refl _) _, hfx⟩
    case rest =>
      obtain ⟨rfl, A3, c3, g0, g1, g2, hq3, hlc3, hn3, hb3, hfx⟩ := hcut
      have hz2 := G2.out.lt
      have hne1 : ∀ ad, A3 = some ad → ad.block ≠ w.heap.size := fun ad e => by have := hfx ad e; omega
      have hne2 : ∀ ad, A3 = some ad → ad.block ≠ w.heap.size + 1 + 1 := fun ad e => by have := hfx ad e; omega
      have HNA := Lib.hid hne1
      have HNB := Lib.hid hne2
      have HDL2 : Hid ((q.drop D).length = q.length - D) := Lib.hid HDL.out.symm
      have HFX : Hid (∀ ad, A3 = some ad → w.heap.size ≤ ad.block) := Lib.hid (fun ad e => by have := hfx ad e; have := B0.size; omega)
      clear hne1 hne2 hfx HC1 HA G0 G1 G2 HBK p0 p1 p2 p3 p4 a0 a1 a2 a3 B0 HDL
      obtain ⟨p0, p1, p2, p3, p4⟩ := blk_g g0
      obtain ⟨e0, e1, e2, e3, e4, -⟩ := blk_f g0
      obtain ⟨a0, a1, a2, a3⟩ := blk_a g1
      obtain ⟨q0, q1, q2, q3, q4⟩ := blk_g g2
      obtain ⟨f0, f1, f2, f3, f4, -⟩ := blk_f g2
      have m1 : w.heap.size ≠ w.heap.size + 1 + 1 := by omega
      have m2 : w.heap.size + 1 + 1 ≠ w.heap.size := by omega
      have HB9 := Lib.hid hb3
      have HQ9 := Lib.hid hq3
      clear hb3 hq3
      cases R
      · go_wp2_with fail
        refine bodyPost_ret (v := .agg #[.int .i64 n, .int .i64 ((S : Int) - (D : Int)), .slice A3 (q.length - D) c3, .int .i64 wd, .bool st]) (by simp [results, Try.results65, go_sem, q0, q1, q2, q3, q4]) rfl ?_
        refine ⟨A3, c3, by show _ = Ending.returned (grdV _ _ (.slice _ (q.drop D).length _) _ _); rw [HDL2.out]; rfl, ?_, by show (q.drop D).length ≤ _; rw [HDL2.out]; exact hlc3, hn3, five_set HB9.out (by omega) _ _ _ _ _, .inr HFX.out⟩
        exact (((((HQ9.out.other HNB.out).other HNB.out).other HNB.out).other HNB.out).other HNB.out).stay (five_set HB9.out (by omega) _ _ _ _ _) hB
      · go_wp2_with fail
        refine bodyPost_ret (v := .agg #[.int .i64 n, .int .i64 0, .slice A3 (q.length - D) c3, .int .i64 wd, .bool st]) (by simp [results, Try.results65, go_sem, q0, q1, q2, q3, q4]) rfl ?_
        refine ⟨A3, c3, by show _ = Ending.returned (grdV _ _ (.slice _ (q.drop D).length _) _ _); rw [HDL2.out]; rfl, ?_, by show (q.drop D).length ≤ _; rw [HDL2.out]; exact hlc3, hn3, five_set (HB9.out.setCell (p := ⟨w.heap.size, 1, none⟩) (Nat.le_refl _) _) (by omega) _ _ _ _ _, .inr HFX.out⟩
        exact ((((((HQ9.out.other HNA.out).other HNB.out).other HNB.out).other HNB.out).other HNB.out).other HNB.out).stay (five_set (HB9.out.setCell (p := ⟨w.heap.size, 1, none⟩) (Nat.le_refl _) _) (by omega) _ _ _ _ _) hB
set_option maxRecDepth 100000 in
set_option maxHeartbeats 4000000 in
theorem rheard_nil (f : Int) (wd : Int) (st : Bool) (n : Int) (R T : Bool) (B : Nat) (w : World) (hB : B ≤ w.heap.size)
    (HA : Hid (∀ w, Calls Try.prog 92 #[.int .i64 n, .int .i64 f] w fun e w' => e = .returned (.int .i64 0) ∧ w = w')) :
    Calls Try.prog 65 #[grdV f 0 (.slice none 0 0) wd st, ackV n false R T] w (GndF B none ⟨n, 0, [], wd, st⟩ w) := by
  unfold grdV ackV
  have HC1 := Lib.hid (fun (w1 : World) (hb : Below w.heap.size w w1) => (cloneQD_any none 0 0 [] B w1 rfl (by simp) QC.nil))
  obtain ⟨w0, hw0⟩ : ∃ w0, ((w.alloc (.cells (grdC f 0 (.slice none 0 0) wd st) 41)).alloc (.cells (ackC n false R T) 32)).alloc (.cells (grdC 0 0 (.slice none 0 0) 0 false) 41) = w0 := ⟨_, rfl⟩
  have B0 : Below w.heap.size w w0 := by rw [← hw0]; exact three_new w _ _ _
  have g0 : Blk w0 w.heap.size (grdC f 0 (.slice none 0 0) wd st) 41 := by rw [← hw0]; exact ((Blk.new w _ _).alloc _).alloc _
  have g1 : Blk w0 (w.heap.size + 1) (ackC n false R T) 32 := by rw [← hw0]; exact (Blk.snd w _ _ _).alloc _
  have g2 : Blk w0 (w.heap.size + 1 + 1) (grdC 0 0 (.slice none 0 0) 0 false) 41 := by rw [← hw0]; exact Blk.thd w _ _ _ _
  unfold grdC ackC at hw0
  obtain ⟨p0, p1, p2, p3, p4⟩ := blk_g g0
  obtain ⟨a0, a1, a2, a3⟩ := blk_a g1
  have HBK := Lib.hid (fun (X : Option Addr) (l : List UInt8) (hx : BR w0 B X l) => (show BR w B X l from hx.stay fun p hp => (B0.cell (Nat.lt_of_lt_of_le hp hB)).symm))
  have G0 := Lib.hid g0
  have G1 := Lib.hid g1
  have G2 := Lib.hid g2
  clear g0 g1 g2
  go_enter Try.func65, Try.ntmps65
  go_upto_region 7 with (first | (go_at_call 92; refine (HA.out _).mono ?_; rintro e w' ⟨rfl, rfl⟩) | fail)
  clear hw0
  go_cut [5] (fun s5 wx => s5 = .int .i64 0 ∧ ∃ (A : Option Addr) (cc : Nat), Blk wx w.heap.size (grdC n (0) (.slice A 0 cc) wd st) 41 ∧ Blk wx (w.heap.size + 1) (ackC n false R T) 32 ∧ Blk wx (w.heap.size + 1 + 1) (grdC 0 0 (.slice none 0 0) 0 false) 41 ∧ QC w wx B A [] ∧ 0 ≤ cc ∧ (A = none → cc = 0) ∧ Below w.heap.size w wx ∧ ∀ ad, A = some ad → w0.heap.size ≤ ad.block)
  case first =>
    go_region_law ((go_simp; go_at_call 93; refine (HC1.out _ ?_).mono ?_; (first | exact B0.drew | exact B0); rintro e w3 ⟨A3, c3, rfl, hr3, hlc3, hn3, hf3, hb3⟩; have hb3 : Below w0.heap.size w0 w3 := (by first | exact hb3 | exact (Below.refl w0.heap.size w0).drew.trans hb3); have b3 := Blk.below G0.out hb3 G0.out.lt; obtain ⟨r0, r1, r2, r3, r4⟩ := blk_g b3; have b4 := Blk.below G1.out hb3 G1.out.lt; obtain ⟨s0, s1, s2, s3⟩ := blk_a b4; obtain ⟨f0, f1, f2, f3, f4, -⟩ := blk_f b3))
    all_goals
      have hfx : ∀ ad, A3 = some ad → w0.heap.size ≤ ad.block := hf3
      have hne : ∀ ad, A3 = some ad → ad.block ≠ w.heap.size := fun ad e => by have := hfx ad e; have := G0.out.lt; omega
      have hq3 : QC w w3 B A3 [] := by
        obtain ⟨ds, x1, x2, x3⟩ := hr3
        exact ⟨ds, x1, x2, fun i hi hi' => ⟨(x3 i hi hi').1, HBK.out _ _ (by first | exact (x3 i hi hi').2 | exact br_drew' (x3 i hi hi').2)⟩⟩
      have b5 := Blk.below G2.out hb3 G2.out.lt
      have bw : Below w.heap.size w w3 := B0.trans (hb3.mono B0.size)
      go_wp2_with fail
      go_meet
      exact ⟨rfl, A3, c3, ((b3.set1 2 (.slice A3 0 c3)).set1 0 (.int .i64 n)).set1 1 (.int .i64 (0)), ((b4.other (by omega)).other (by omega)).other (by omega), ((b5.other (by omega)).other (by omega)).other (by omega), ((hq3.other hne).other hne).other hne, hlc3, hn3, ((bw.setCell (Nat.le_refl _) _).setCell (Nat.le_refl _) _).setCell (Nat.le_refl _) _, hfx⟩
  case rest =>
    obtain ⟨rfl, A3, c3, g0, g1, g2, hq3, hlc3, hn3, hb3, hfx⟩ := hcut
    have hz2 := G2.out.lt
    have hne1 : ∀ ad, A3 = some ad → ad.block ≠ w.heap.size := fun ad e => by have := hfx ad e; omega
    have hne2 : ∀ ad, A3 = some ad → ad.block ≠ w.heap.size + 1 + 1 := fun ad e => by have := hfx ad e; omega
    have HNA := Lib.hid hne1
    have HNB := Lib.hid hne2
    have HDL2 : Hid (([] : List (List UInt8)).length = 0) := Lib.hid rfl
    have HFX : Hid (∀ ad, A3 = some ad → w.heap.size ≤ ad.block) := Lib.hid (fun ad e => by have := hfx ad e; have := B0.size; omega)
    clear hne1 hne2 hfx HC1 HA G0 G1 G2 HBK p0 p1 p2 p3 p4 a0 a1 a2 a3 B0
    obtain ⟨p0, p1, p2, p3, p4⟩ := blk_g g0
    obtain ⟨e0, e1, e2, e3, e4, -⟩ := blk_f g0
    obtain ⟨a0, a1, a2, a3⟩ := blk_a g1
    obtain ⟨q0, q1, q2, q3, q4⟩ := blk_g g2
    obtain ⟨f0, f1, f2, f3, f4, -⟩ := blk_f g2
    have m1 : w.heap.size ≠ w.heap.size + 1 + 1 := by omega
    have m2 : w.heap.size + 1 + 1 ≠ w.heap.size := by omega
    have HB9 := Lib.hid hb3
    have HQ9 := Lib.hid hq3
    clear hb3 hq3
    cases R
    · go_wp2_with fail
      refine bodyPost_ret (v := .agg #[.int .i64 n, .int .i64 (0), .slice A3 0 c3, .int .i64 wd, .bool st]) (by simp [results, Try.results65, go_sem, q0, q1, q2, q3, q4]) rfl ?_
      refine ⟨A3, c3, by show _ = Ending.returned (grdV _ _ (.slice _ ([] : List (List UInt8)).length _) _ _); rw [HDL2.out]; rfl, ?_, by show ([] : List (List UInt8)).length ≤ _; rw [HDL2.out]; exact hlc3, hn3, five_set HB9.out (by omega) _ _ _ _ _, .inr HFX.out⟩
      exact (((((HQ9.out.other HNB.out).other HNB.out).other HNB.out).other HNB.out).other HNB.out).stay (five_set HB9.out (by omega) _ _ _ _ _) hB
    · go_wp2_with fail
      refine bodyPost_ret (v := .agg #[.int .i64 n, .int .i64 0, .slice A3 0 c3, .int .i64 wd, .bool st]) (by simp [results, Try.results65, go_sem, q0, q1, q2, q3, q4]) rfl ?_
      refine ⟨A3, c3, by show _ = Ending.returned (grdV _ _ (.slice _ ([] : List (List UInt8)).length _) _ _); rw [HDL2.out]; rfl, ?_, by show ([] : List (List UInt8)).length ≤ _; rw [HDL2.out]; exact hlc3, hn3, five_set (HB9.out.setCell (p := ⟨w.heap.size, 1, none⟩) (Nat.le_refl _) _) (by omega) _ _ _ _ _, .inr HFX.out⟩
      exact ((((((HQ9.out.other HNA.out).other HNB.out).other HNB.out).other HNB.out).other HNB.out).other HNB.out).stay (five_set (HB9.out.setCell (p := ⟨w.heap.size, 1, none⟩) (Nat.le_refl _) _) (by omega) _ _ _ _ _) hB
set_option maxRecDepth 100000 in
set_option maxHeartbeats 2000000 in
theorem rheard_any (f : Int) (S : Nat) (A : Option Addr) (q : List (List UInt8)) (c : Nat) (wd : Int) (st : Bool) (n : Int) (L R T : Bool) (B : Nat) (w : World) (hB : B ≤ w.heap.size) (h : QC w w B A q) (hc : q.length ≤ c) (hA : A = none → c = 0)
    (hf0 : 0 ≤ f) (hf1 : f ≤ 255) (hn0 : 0 ≤ n) (hn1 : n ≤ 255) (hS : S ≤ q.length) (hq : q.length ≤ 500) :
    Calls Try.prog 65 #[grdV f S (.slice A q.length c) wd st, ackV n L R T] w (GndF B A (heardS ⟨f, S, q, wd, st⟩ n L R) w) := by
  have H3 := Lib.hid (three_new w)
  have HQ := Lib.hid (fun (w' : World) (hb : Below w.heap.size w w') => h.next hb hB)
  cases L
  · obtain ⟨D, hD, hD1⟩ := aft_nat n f
    have HA := Lib.hid (fun w => by have := r_after_any n f w hn0 hn1 hf0 hf1; rw [hD] at this; exact this)
    by_cases hle : D ≤ S
    · have hE0 : hearS ⟨f, S, q, wd, st⟩ n = ⟨n, (S : Int) - (D : Int), q.drop D, wd, st⟩ := by
        unfold hearS
        simp only
        rw [hD, if_pos (by omega), Int.toNat_natCast]
      have hE : heardS ⟨f, S, q, wd, st⟩ n false R = ⟨n, sendOf R S D, q.drop D, wd, st⟩ := by
        unfold heardS sendOf
        rw [hE0]
        cases R <;> rfl
      rw [hE]
      rcases A with _ | ad
      · obtain rfl : c = 0 := hA rfl
        have hq0 : q = [] := List.eq_nil_of_length_eq_zero (by omega)
        subst hq0
        obtain rfl : S = 0 := by simpa using hS
        obtain rfl : D = 0 := by omega
        have := rheard_nil f wd st n R T B w hB HA
        cases R <;> simpa [sendOf] using this
      · exact rheard_core f S D ad q c wd st n R T B w hB h hc HA hle hS hq
    · have hE0 : hearS ⟨f, S, q, wd, st⟩ n = ⟨f, S, q, wd, true⟩ := by
        unfold hearS
        simp only
        rw [hD, if_neg (by omega)]
      have hE : heardS ⟨f, S, q, wd, st⟩ n false R = ⟨f, if R then 0 else (S : Int), q, wd, true⟩ := by
        unfold heardS
        rw [hE0]
        cases R <;> rfl
      rw [hE]
      have hi : (S : Int) < (D : Int) := by omega
      clear h hD hE hE0
      unfold grdV ackV
      cases R
      · go_enter Try.func65, Try.ntmps65
        go_wp2_with (first | (go_at_call 92; refine (HA.out _).mono ?_; rintro e w' ⟨rfl, rfl⟩) | fail)
        refine bodyPost_ret (v := .agg #[.int .i64 f, .int .i64 S, .slice A q.length c, .int .i64 wd, .bool true]) (by simp [results, Try.results65, go_sem]) rfl ?_
        exact ⟨A, c, rfl, HQ.out _ (H3.out _ _ _), hc, hA, H3.out _ _ _, .inl rfl⟩
      · go_enter Try.func65, Try.ntmps65
        go_wp2_with (first | (go_at_call 92; refine (HA.out _).mono ?_; rintro e w' ⟨rfl, rfl⟩) | fail)
        refine bodyPost_ret (v := .agg #[.int .i64 f, .int .i64 0, .slice A q.length c, .int .i64 wd, .bool true]) (by simp [results, Try.results65, go_sem]) rfl ?_
        exact ⟨A, c, rfl, HQ.out _ (H3.out _ _ _), hc, hA, H3.out _ _ _, .inl rfl⟩
  · have HE : Hid (heardS ⟨f, S, q, wd, st⟩ n true R = ⟨f, S, q, wd, true⟩) := Lib.hid rfl
    clear h
    generalize heardS ⟨f, S, q, wd, st⟩ n true R = Z at *
    unfold grdV ackV
    go_enter Try.func65, Try.ntmps65
    go_wp2_with fail
    refine bodyPost_ret (v := .agg #[.int .i64 f, .int .i64 S, .slice A q.length c, .int .i64 wd, .bool true]) (by simp [results, Try.results65, go_sem]) rfl ?_
    rw [HE.out]
    exact ⟨A, c, rfl, HQ.out _ (H3.out _ _ _), hc, hA, H3.out _ _ _, .inl rfl⟩
end Go.Proofs.Yteikggieekhfkaa
