/- the walk of the reference's next, where there is one. -/
import Derived.Test.YteikggieekhfkaaNxt
namespace Go.Proofs.Yteikggieekhfkaa
open Go.RowKit

attribute [local go_sem] setCell_draws alloc_draws
theorem fin_c {w : World} {g g' : Nat} {A : Option Addr} {l : List UInt8} (h : BR w w.heap.size A l) (hA : ∀ ad, A = some ad → ad.block ≠ g) (hA' : ∀ ad, A = some ad → ad.block ≠ g') (a0 a1 a2 a3 a4 b0 b1 b2 : Value) :
    BR (((((((((w.setCell ⟨g, 0, none⟩ a0).setCell ⟨g, 1, none⟩ a1).setCell ⟨g, 2, none⟩ a2).setCell ⟨g, 3, none⟩ a3).setCell ⟨g, 4, none⟩ a4).setCell ⟨g', 0, none⟩ b0).setCell ⟨g', 1, none⟩ b1).setCell ⟨g', 2, none⟩ b2))
      (((((((((w.setCell ⟨g, 0, none⟩ a0).setCell ⟨g, 1, none⟩ a1).setCell ⟨g, 2, none⟩ a2).setCell ⟨g, 3, none⟩ a3).setCell ⟨g, 4, none⟩ a4).setCell ⟨g', 0, none⟩ b0).setCell ⟨g', 1, none⟩ b1).setCell ⟨g', 2, none⟩ b2)).heap.size A l :=
  (three_br (five_br h hA a0 a1 a2 a3 a4) hA' b0 b1 b2).lift (by simp)
theorem fin_d {w : World} {A : Option Addr} {l : List UInt8} (h : BR w w.heap.size A l) : BR w.drew w.drew.heap.size A l := h
theorem fin_e {B : Nat} {w w' : World} (h : Below B w w') : Below B w w'.drew := h.drew
set_option maxRecDepth 100000 in
set_option maxHeartbeats 8000000 in
theorem r_next_yes (f : Int) (S : Nat) (A : Option Addr) (q : List (List UInt8)) (c : Nat) (wd : Int) (B : Nat) (w : World) (hB : B ≤ w.heap.size) (h : QR w B A q) (hf0 : 0 ≤ f) (hf1 : f ≤ 255) (hq : q.length ≤ 500) (hS : S < q.length) (hw : (S : Int) < wd) (hw1 : wd ≤ 127) (h200 : q[S].length ≤ 200) :
    Calls Try.prog 64 #[grdV f S (.slice A q.length c) wd false] w fun e w' => ∃ X k, e = .returned (.tuple #[grdV f ((S : Int) + 1) (.slice A q.length c) wd false, ordV 1 ((f + (S : Int)) % 256) X q[S].length k, .bool true]) ∧ BR w' w'.heap.size X q[S] ∧ Below w.heap.size w w' ∧ ∀ ad, X = some ad → w.heap.size ≤ ad.block := by
  obtain ⟨ad, X, k, rfl, hbk, hc, hr⟩ := h.get S hS
  unfold grdV ordV
  have hi0 : (0 : Int) ≤ (S : Int) := by omega
  have hi1 : (S : Int) < (q.length : Int) := by omega
  obtain ⟨bd, hbd⟩ : ∃ bd, q[S] = bd := ⟨_, rfl⟩
  rw [hbd] at hc hr h200 ⊢
  clear hbd
  obtain ⟨w0, hw0⟩ : ∃ w0, ((w.alloc (.cells (grdC f S (.slice (some ad) q.length c) wd false) 41)).alloc (.cells (grdC 0 0 (.slice none 0 0) 0 false) 41)).alloc (.cells (ordC 0 0 none 0 0) 26) = w0 := ⟨_, rfl⟩
  have B0 : Below w.heap.size w w0 := by rw [← hw0]; exact three_new w _ _ _
  have g0 : Blk w0 w.heap.size (grdC f S (.slice (some ad) q.length c) wd false) 41 := by rw [← hw0]; exact ((Blk.new w _ _).alloc _).alloc _
  have g1 : Blk w0 (w.heap.size + 1) (grdC 0 0 (.slice none 0 0) 0 false) 41 := by rw [← hw0]; exact (Blk.snd w _ _ _).alloc _
  have g2 : Blk w0 (w.heap.size + 1 + 1) (ordC 0 0 none 0 0) 26 := by rw [← hw0]; exact Blk.thd w _ _ _ _
  have hc0 : w0.cell? (ad.add S) = some (.slice X bd.length k) := (B0.cell (by rw [add_block]; exact Nat.lt_of_lt_of_le hbk hB)).trans hc
  have hr0 : BR w0 w0.heap.size X bd := ((hr.lift hB).below B0).lift B0.size
  have HCL := Lib.hid (fun (w1 : World) (hb : Below w0.heap.size w0 w1) => (clone_any X bd.length k bd w1 rfl (by omega) ((hr0.below hb).lift hb.size)).mono fun e w' ⟨v, he, ho, h2⟩ => (by obtain ⟨A, c, rfl, hr, hf⟩ := ho.form2; exact ⟨A, c, he, hr, hb.trans (h2.mono hb.size), h2, hf⟩ : ∃ A c, e = Ending.returned (.slice A bd.length c) ∧ BR w' w'.heap.size A bd ∧ Below w0.heap.size w0 w' ∧ Below w1.heap.size w1 w' ∧ ∀ ad, A = some ad → w1.heap.size ≤ ad.block))
  unfold grdC ordC at hw0
  have n1 : (ad.add S).block ≠ w.heap.size := by rw [add_block]; omega
  have n2 : (ad.add S).block ≠ w.heap.size + 1 := by rw [add_block]; omega
  clear h hc hr hr0
  obtain ⟨p0, p1, p2, p3, p4⟩ := blk_g g0
  have hlt := g0.lt
  have hlt2 := g2.lt
  have v1 : IntKind.i64.wrap (f + (S : Int)) = f + (S : Int) := IntWalk.i64_in _ (by omega)
  have v2 : (f + (S : Int)).tmod 256 = (f + (S : Int)) % 256 := Int.tmod_eq_emod_of_nonneg (by omega)
  have v3 : IntKind.i64.wrap ((f + (S : Int)) % 256) = (f + (S : Int)) % 256 := IntWalk.i64_in _ (by omega)
  have V1 := Lib.hid v1
  have V2 := Lib.hid v2
  have V3 := Lib.hid v3
  have hlt0 : w0.heap.size < (w0.alloc (.cells (ordC 0 0 none 0 0) 26)).drew.heap.size := by show w0.heap.size < (w0.alloc _).heap.size; rw [World.size_alloc]; omega
  clear v1 v2 v3
  have HSS := Lib.hid (fun (w1 : World) (hb : Below w0.heap.size w0 w1) => (⟨(hb.cell g0.lt).trans p0, (hb.cell g0.lt).trans p1, (hb.cell g0.lt).trans p2, (hb.cell (by rw [add_block]; exact Nat.lt_of_lt_of_le (Nat.lt_of_lt_of_le hbk hB) B0.size)).trans hc0⟩ : w1.cell? ⟨w.heap.size, 0, none⟩ = some (.int .i64 f) ∧ w1.cell? ⟨w.heap.size, 1, none⟩ = some (.int .i64 S) ∧ w1.cell? ⟨w.heap.size, 2, none⟩ = some (.slice (some ad) q.length c) ∧ w1.cell? (ad.add S) = some (.slice X bd.length k)))
  have hbb : Below w0.heap.size w0 w0 := Below.refl _ _
  have hne : ∀ {A : Option Addr}, (∀ ad, A = some ad → (w0.alloc (.cells (ordC 0 0 none 0 0) 26)).drew.heap.size ≤ ad.block) → ∀ ad, A = some ad → ad.block ≠ w0.heap.size := fun h ad e => by have := h ad e; omega
  have hge : ∀ {A : Option Addr}, (∀ ad, A = some ad → (w0.alloc (.cells (ordC 0 0 none 0 0) 26)).drew.heap.size ≤ ad.block) → ∀ ad, A = some ad → w0.heap.size ≤ ad.block := fun h ad e => by have := h ad e; omega
  have hm1 : ¬ wd ≤ (S : Int) := by omega
  have hm2 : ¬ (q.length : Int) ≤ (S : Int) := by omega
  have hm3 : ¬ q.length ≤ S := by omega
  have main : ∀ (hmin : wd ≤ (q.length : Int) ∨ (q.length : Int) < wd), Calls Try.prog 64 #[.agg #[.int .i64 f, .int .i64 S, .slice (some ad) q.length c, .int .i64 wd, .bool false]] w fun e w' => ∃ X k, e = .returned (.tuple #[.agg #[.int .i64 f, .int .i64 ((S : Int) + 1), .slice (some ad) q.length c, .int .i64 wd, .bool false], .agg #[.int .i64 1, .int .i64 ((f + (S : Int)) % 256), .slice X bd.length k], .bool true]) ∧ BR w' w'.heap.size X bd ∧ Below w.heap.size w w' ∧ ∀ ad, X = some ad → w.heap.size ≤ ad.block := by
    intro hmin
    rcases hmin with hmin | hmin
    all_goals
      go_enter Try.func64, Try.ntmps64
      go_upto_region 3 with fail
      clear hw0
      go_cut [5] (fun s5 wx => ∃ (G : Nat) (A : Option Addr) (c : Nat), s5 = .pointer (some ⟨G, 0, none⟩) ∧ Blk wx G (ordC 1 ((f + (S : Int)) % 256) A bd.length c) 26 ∧ BR wx wx.heap.size A bd ∧ w0.heap.size ≤ G ∧ Below w0.heap.size w0 wx ∧ ∀ ad, A = some ad → w0.heap.size ≤ ad.block)
      case first =>
        have v1 := V1.out
        have v2 := V2.out
        have v3 := V3.out
        go_region_held3 (fun w' => w'.cell? ⟨w.heap.size, 0, none⟩ = some (.int .i64 f) ∧ w'.cell? ⟨w.heap.size, 1, none⟩ = some (.int .i64 S) ∧ w'.cell? ⟨w.heap.size, 2, none⟩ = some (.slice (some ad) q.length c) ∧ w'.cell? (ad.add S) = some (.slice X bd.length k))
          (first | with_reducible exact HSS.out _ hbb | with_reducible exact HSS.out _ hbb.drew | with_reducible exact HSS.out _ hb9 | with_reducible exact HSS.out _ hb9.drew | with_reducible exact HSS.out _ (Below.alloc hb9 hb9.size _) | with_reducible exact HSS.out _ (Below.alloc hb9.drew hb9.size _) | with_reducible exact HSS.out _ (Below.drew (Below.alloc hbb hbb.size _)) | with_reducible exact HSS.out _ (((Below.setCell hb9 hbb.size _).setCell hbb.size _).setCell hbb.size _) | go_keep)
          (first
           | (go_at_call 80
              with_reducible refine (HCL.out _ ?_).mono ?_
              · first | with_reducible exact hbb.drew | with_reducible exact hbb
              rintro e w3 ⟨A3, c3, rfl, hr3, hb9, hb3, hf3⟩)
           | (go_at_call 80
              with_reducible refine (HCL.out _ ?_).mono ?_
              · with_reducible exact Below.drew (Below.alloc hbb hbb.size _)
              rintro e w3 ⟨A3, c3, rfl, hr3, hb9, hb3, hf3⟩
              have gq : Blk w3 w0.heap.size (ordC 0 0 none 0 0) 26 := Blk.below (Blk.dr (Blk.new w0 (ordC 0 0 none 0 0) 26)) hb3 hlt0
              obtain ⟨j0, j1, j2⟩ := blk_o gq
              obtain ⟨k0, k1, k2, -, -, -⟩ := blk_f gq))
        · go_wp2_with fail
          go_meet
          exact ⟨w3.heap.size, A3, c3, rfl, Blk.new w3 (ordC 1 ((f + (S : Int)) % 256) A3 bd.length c3) _, (hr3.below ((Below.refl _ _).alloc (Nat.le_refl _) _)).lift (by simp), hb9.size, hb9.alloc hb9.size _, hf3⟩
        · go_wp2_with fail
          go_meet
          exact ⟨w0.heap.size, A3, c3, rfl, ((gq.set1 0 (.int .i64 1)).set1 1 (.int .i64 ((f + (S : Int)) % 256))).set1 2 (.slice A3 bd.length c3), (((hr3.other (hne hf3)).other (hne hf3)).other (hne hf3)).lift (by simp), Nat.le_refl _, ((hb9.setCell hbb.size _).setCell hbb.size _).setCell hbb.size _, hge hf3⟩
      case rest =>
        obtain ⟨G, X, k, rfl, gG, hrx, hGG, hb, hXX⟩ := hcut
        have HFR : Hid (∀ ad, X = some ad → w.heap.size ≤ ad.block) := Lib.hid (fun ad e => by have := hXX ad e; omega)
        clear HSS hbb hc0 HCL V1 V2 V3 hne hge hlt0 hm1 hm2 hm3 n1 n2
        have g0 := g0.below hb g0.lt
        have g1 := g1.below hb g1.lt
        have g2 := g2.below hb g2.lt
        have BX := B0.trans (hb.mono B0.size)
        have hG : w.heap.size + 1 + 1 < G := Nat.lt_of_lt_of_le hlt2 hGG
        clear hb p0 p1 p2 p3 p4 B0
        have m1 : w.heap.size ≠ G := by omega
        have m2 : w.heap.size + 1 ≠ G := by omega
        have m3 : w.heap.size + 1 + 1 ≠ G := by omega
        have m4 : G ≠ w.heap.size := by omega
        have m5 : G ≠ w.heap.size + 1 := by omega
        have m6 : G ≠ w.heap.size + 1 + 1 := by omega
        have x1 : ∀ ad, X = some ad → ad.block ≠ w.heap.size := fun ad e => by have := hXX ad e; omega
        have x2 : ∀ ad, X = some ad → ad.block ≠ w.heap.size + 1 := fun ad e => by have := hXX ad e; omega
        have x3 : ∀ ad, X = some ad → ad.block ≠ w.heap.size + 1 + 1 := fun ad e => by have := hXX ad e; omega
        have HXa := Lib.hid x1
        have HXb := Lib.hid x2
        have HXc := Lib.hid x3
        clear x1 x2 x3 hXX
        obtain ⟨p0, p1, p2, p3, p4⟩ := blk_g g0
        obtain ⟨f0, f1, f2, f3, f4, -⟩ := blk_f g0
        go_upto_region 5 with fail
        have g0 := g0.set1 1 (.int .i64 ((S : Int) + 1))
        have g1 := g1.other (k := 1) (u := .int .i64 ((S : Int) + 1)) (show w.heap.size ≠ w.heap.size + 1 by omega)
        have g2 := g2.other (k := 1) (u := .int .i64 ((S : Int) + 1)) (show w.heap.size ≠ w.heap.size + 1 + 1 by omega)
        have gG := gG.other (k := 1) (u := .int .i64 ((S : Int) + 1)) m1
        have hry := (hrx.other (k := 1) (u := .int .i64 ((S : Int) + 1)) HXa.out).lift (show wc.heap.size ≤ (wc.setCell ⟨w.heap.size, 1, none⟩ (.int .i64 ((S : Int) + 1))).heap.size by simp)
        have BX := BX.setCell (p := ⟨w.heap.size, 1, none⟩) (Nat.le_refl _) (.int .i64 ((S : Int) + 1))
        clear hrx
        generalize wc.setCell ⟨w.heap.size, 1, none⟩ (.int .i64 ((S : Int) + 1)) = wy at *
        have g0 : Blk wy w.heap.size (grdC f ((S : Int) + 1) (.slice (some ad) q.length c) wd false) 41 := g0
        clear p0 p1 p2 p3 p4 f0 f1 f2 f3 f4
        obtain ⟨p0, p1, p2, p3, p4⟩ := blk_g g0
        obtain ⟨q0, q1, q2, q3, q4⟩ := blk_g g1
        obtain ⟨e0, e1, e2, e3, e4, -⟩ := blk_f g1
        obtain ⟨r0, r1, r2⟩ := blk_o g2
        obtain ⟨i0, i1, i2, -, -, -⟩ := blk_f g2
        obtain ⟨o0, o1, o2⟩ := blk_o gG
        go_region
        all_goals
          clear g0 g1 g2 gG p0 p1 p2 p3 p4 o0 o1 o2 m1 m2 m3 m4 m5 m6 hG hGG
          go_wp2_with fail
          refine bodyPost_ret (v := .tuple #[.agg #[.int .i64 f, .int .i64 ((S : Int) + 1), .slice (some ad) q.length c, .int .i64 wd, .bool false], .agg #[.int .i64 1, .int .i64 ((f + (S : Int)) % 256), .slice X bd.length k], .bool true]) (by simp [results, Try.results64, go_sem, q0, q1, q2, q3, q4, r0, r1, r2]) rfl ⟨X, k, rfl, ?_, ?_, HFR.out⟩
          · first
            | with_reducible exact fin_d (fin_c hry HXb.out HXc.out _ _ _ _ _ _ _ _)
            | with_reducible exact fin_c hry HXb.out HXc.out _ _ _ _ _ _ _ _
          · first
            | with_reducible exact fin_e (three_set (five_set BX (Nat.le_succ _) _ _ _ _ _) (Nat.le_add_right _ 2) _ _ _)
            | with_reducible exact three_set (five_set BX (Nat.le_succ _) _ _ _ _ _) (Nat.le_add_right _ 2) _ _ _
  exact main (by omega)
end Go.Proofs.Yteikggieekhfkaa
