/- the walk of Written. -/
import Derived.Test.YtidddoldkedicaaCloned
import Derived.Test.YtidddoldkedicaaReadAt
namespace Go.Proofs.Ytidddoldkedicaa
open Go.RowKit
attribute [local go_sem] setCell_draws alloc_draws

/-- what Written and Flipped leave -/
def BankPost (r : (List Int × List Int) × Int) (w : World) (e : Ending) (w' : World) : Prop :=
  ∃ A A' c c', e = .returned (.tuple #[bankV A A' r.1.1.length r.1.2.length c c', .int .i64 r.2]) ∧ IR w' w'.heap.size A r.1.1 ∧ IR w' w'.heap.size A' r.1.2 ∧ Below w.heap.size w w' ∧ (∀ ad, A = some ad → w.heap.size ≤ ad.block) ∧ (∀ ad, A' = some ad → w.heap.size ≤ ad.block)
theorem IR.other {w : World} {B g k : Nat} {A : Option Addr} {l : List Int} {u : Value} (h : IR w B A l) (hA : ∀ ad, A = some ad → ad.block ≠ g) : IR (w.setCell ⟨g, k, none⟩ u) B A l := by
  rcases h with e | ⟨ad, e, hl, hc⟩
  · exact .inl e
  · refine .inr ⟨ad, e, hl, fun j v hv => ?_⟩
    have hb := hA ad e
    rw [← hc j v hv]
    exact World.cell?_of_block (w := w) (Below.heap_setCell w ⟨g, k, none⟩ u _ (by rw [add_block]; exact hb))
theorem bankPost_none (F : Int) {w w' : World} (h : Below w.heap.size w w') : BankPost (([], []), F) w (.returned (.tuple #[.agg #[.slice none 0 0, .slice none 0 0], .int .i64 F])) w' :=
  ⟨.none, .none, 0, 0, rfl, .inl rfl, .inl rfl, h, (fun _ q => by cases q), (fun _ q => by cases q)⟩
/-- block b holds a bank's two slices -/
def HeldB (w : World) (b : Nat) (x y : Value) : Prop := w.heap[b]? = some (.cells #[x, y] 33 (0, 0))
theorem HeldB.lt {w : World} {b : Nat} {x y : Value} (h : HeldB w b x y) : b < w.heap.size := (Array.getElem?_eq_some_iff.1 h).1
theorem HeldB.cells {w : World} {b : Nat} {x y : Value} (h : HeldB w b x y) : w.cell? ⟨b, 0, none⟩ = some x ∧ w.cell? ⟨b, 1, none⟩ = some y := by
  unfold HeldB at h
  exact ⟨by simp [World.cell?, h], by simp [World.cell?, h]⟩
theorem HeldB.free {w : World} {b : Nat} {x y : Value} (h : HeldB w b x y) (k : Nat) : w.frozen? ⟨b, k, none⟩ = false := by
  unfold HeldB at h
  simp [World.frozen?, h]
theorem HeldB.below {w w' : World} {b B : Nat} {x y : Value} (h : HeldB w b x y) (hb : Below B w w') (hp : b < B) : HeldB w' b x y := (hb.block b hp).trans h
theorem HeldB.other {w : World} {b g k : Nat} {x y u : Value} (h : HeldB w b x y) (hne : b ≠ g) : HeldB (w.setCell ⟨g, k, none⟩ u) b x y := (Below.heap_setCell w ⟨g, k, none⟩ u b hne).trans h
theorem HeldB.drew {w : World} {b : Nat} {x y : Value} (h : HeldB w b x y) : HeldB w.drew b x y := h
theorem HeldB.drawn {w : World} {b : Nat} {x y : Value} (h : HeldB w b x y) (n : Nat) : HeldB (w.drewN n) b x y := h
theorem HeldB.new (w : World) (x y : Value) : HeldB (w.alloc (.cells #[x, y] 33)) w.heap.size x y := heap_alloc_new w _

set_option maxRecDepth 100000 in
set_option maxHeartbeats 1000000 in
theorem written_any (A A' : Option Addr) (c c' : Nat) (l l' : List Int) (a z : Int) (B : Nat) (w : World) (hB : B ≤ w.heap.size) (hl : l.length ≤ 9223372036854775807) (hl' : l'.length ≤ 9223372036854775807) (h : IR w B A l) (h' : IR w B A' l') :
    Calls Try.prog 24 #[bankV A A' l.length l'.length c c', .int .i64 a, .int .i64 z] w (BankPost (writtenS l l' a z) w) := by
  have HC := Lib.hid (fun (w1 : World) (hb : Below w.heap.size w w1) => checkPlace_any A A' c c' l l' a B w1 (Nat.le_trans hB hb.size) hl hl' (h.below (hb.mono hB)) (h'.below (hb.mono hB)))
  obtain ⟨R, hRe⟩ : ∃ R, R = writtenS l l' a z := ⟨_, rfl⟩
  rw [← hRe]
  have HR : Hid (R = if placeS l l' a = 0 then (if 0 ≤ z ∧ z ≤ 65535 then ((l.set a.toNat ((codeN z.toNat : Nat) : Int), l'.set a.toNat z), 0) else (([], []), 1)) else (([], []), placeS l l' a)) := Lib.hid hRe
  clear hRe
  have hpr := fun q => place_right (l := l) (l' := l') (a := a) q
  generalize hw0 : boxed2 (.slice A l.length c) (.slice A' l'.length c') w = w0
  have b0 : Below w.heap.size w w0 := by rw [← hw0]; exact boxed2_below _ _ _
  have s0 : w0.heap.size = w.heap.size + 2 := by rw [← hw0]; exact boxed2_size _ _ _
  have e0 : w0.cell? ⟨w.heap.size, 0, none⟩ = some (.slice A l.length c) := by rw [← hw0]; simp [boxed2]
  have e1 : w0.cell? ⟨w.heap.size, 1, none⟩ = some (.slice A' l'.length c') := by rw [← hw0]; simp [boxed2]
  have r0 : HeldB w0 (w.heap.size + 1) (.slice none 0 0) (.slice none 0 0) := by
    have := HeldB.new (w.alloc (.cells #[.slice A l.length c, .slice A' l'.length c'] 33)) (.slice none 0 0) (.slice none 0 0)
    rw [World.size_alloc] at this
    rw [← hw0]
    exact this
  unfold boxed2 at hw0
  have HCC := Lib.hid (HC.out _ b0)
  have HCL := Lib.hid (fun (w1 : World) (hb : Below w.heap.size w w1) (hr : Right l l') => cloned_any A A' c c' l l' B w1 (Nat.le_trans hB hb.size) hr (h.below (hb.mono hB)) (h'.below (hb.mono hB)))
  unfold bankV at HC HCC HCL ⊢
  clear HC
  generalize placeS l l' a = P at *
  by_cases hP : P = 0
  · subst hP
    obtain ⟨hr, k, rfl, hk⟩ := hpr rfl
    rw [if_pos rfl, Int.toNat_natCast] at HR
    have hfew := hr.few
    have HSAME := Lib.hid hr.same
    have HRIGHT := Lib.hid hr
    clear hpr hr
    by_cases hz : 0 ≤ z ∧ z ≤ 65535
    · rw [if_pos hz] at HR
      obtain ⟨n, rfl⟩ : ∃ n : Nat, z = (n : Int) := ⟨z.toNat, by omega⟩
      rw [Int.toNat_natCast] at HR
      have hd : decide ((0 : Int) ≤ (n : Int) ∧ (n : Int) ≤ 65535) = true := by simp; omega
      have HCO := Lib.hid (fun w => coded_any n (by omega) w)
      generalize codeN n = X at *
      go_enter Try.func24, Try.ntmps24
      go_wp2_with fail
      refine HCC.out.mono ?_
      rintro e w1 ⟨rfl, hb1⟩
      have c1 := (Below.at_ hb1 w.heap.size (by omega) 0).trans e0
      have c2 := (Below.at_ hb1 w.heap.size (by omega) 1).trans e1
      have r1 := r0.below hb1 (by omega)
      have hb2 := b0.trans (hb1.mono (by omega))
      clear hw0
      go_wp2_with (first | (go_at_call 49; refine (within_any _ _ _ _).mono ?_; rintro e w' ⟨rfl, rfl⟩) | fail)
      refine (HCL.out w1 hb2 HRIGHT.out).mono ?_
      rintro e w2 ⟨v, rfl, g, cap, g', cap', rfl, hg, hgg, hrow, hrow', hb3⟩
      unfold bankV
      generalize hw9 : w2.alloc (.cells #[.slice (some ⟨g, 0, none⟩) l.length cap, .slice (some ⟨g', 0, none⟩) l'.length cap'] 33) = w9
      have h9 : HeldB w9 w2.heap.size (.slice (some ⟨g, 0, none⟩) l.length cap) (.slice (some ⟨g', 0, none⟩) l'.length cap') := by rw [← hw9]; exact HeldB.new _ _ _
      have b9 : Below w2.heap.size w2 w9 := by rw [← hw9]; exact box_below _ _
      have g2 := hrow.lt
      have g2' := hrow'.lt
      have r9 := hrow.below b9 g2
      have r9' := hrow'.below b9 g2'
      have m1 := r9.cell k hk
      have m2 := r9.free k
      have m1' := r9'.cell k (by have := HSAME.out; omega)
      have m2' := r9'.free k
      have hk0 : (0 : Int) ≤ (k : Int) := Int.natCast_nonneg _
      have hk1 : (k : Int) < (l.length : Int) := by omega
      have hk2 : (k : Int) < (l'.length : Int) := by have := HSAME.out; omega
      have n1 : w2.heap.size ≠ g := by omega
      have n2 : w2.heap.size ≠ g' := by omega
      have n3 : g ≠ g' := by omega
      have n4 : ¬ g' = g := by omega
      have HSS : Hid (∀ w', HeldB w' w2.heap.size (.slice (some ⟨g, 0, none⟩) l.length cap) (.slice (some ⟨g', 0, none⟩) l'.length cap') → (w'.cell? ⟨w2.heap.size, 0, none⟩ = some (.slice (some ⟨g, 0, none⟩) l.length cap) ∧ w'.cell? ⟨w2.heap.size, 1, none⟩ = some (.slice (some ⟨g', 0, none⟩) l'.length cap'))) := Lib.hid fun w' hw => hw.cells
      go_wp2_with fail
      go_region_held3 (fun w' => w'.cell? ⟨w2.heap.size, 0, none⟩ = some (.slice (some ⟨g, 0, none⟩) l.length cap) ∧ w'.cell? ⟨w2.heap.size, 1, none⟩ = some (.slice (some ⟨g', 0, none⟩) l'.length cap'))
        (first | with_reducible exact HSS.out _ h9 | with_reducible exact HSS.out _ h9.drew | with_reducible exact HSS.out _ (h9.other n1) | with_reducible exact HSS.out _ (h9.drew.other n1) | with_reducible exact HSS.out _ (h9.other n1).drew | with_reducible exact HSS.out _ ((h9.other n1).other n2) | with_reducible exact HSS.out _ ((h9.other n1).other n2).drew)
        (first
         | (go_at_call 50; refine (HCO.out _).mono ?_; rintro e w' ⟨rfl, rfl⟩))
      all_goals
        have q9 := ((h9.other (k := k) (u := .int .i64 (X : Int)) n1).other (k := k) (u := .int .i64 (n : Int)) n2).drew
        have q1 := (((r1.below hb3 (by have := hb1.size; omega)).below b9 (by have := hb3.size; have := hb1.size; omega) |>.other (k := k) (u := .int .i64 (X : Int)) (g := g) (by have := hb1.size; omega)).other (k := k) (u := .int .i64 (n : Int)) (g := g') (by have := hb1.size; omega)).drew
        have t9 := ((r9.set k (X : Int)).other (g' := g') (k := k) (u := .int .i64 (n : Int)) n3).drew
        have t9' := ((r9'.other (g' := g) (k := k) (u := .int .i64 (X : Int)) n3.symm).set k (n : Int)).drew
        have bw := (((hb2.trans (hb3.mono hb2.size)).trans (b9.mono (Nat.le_trans hb2.size hb3.size))).setCell (p := ⟨g, k, .none⟩) (Nat.le_trans hb2.size hg) (.int .i64 (X : Int))).setCell (p := ⟨g', k, .none⟩) (Nat.le_trans hb2.size (Nat.le_trans hg (Nat.le_of_lt hgg))) (.int .i64 (n : Int)) |>.drew
        have hzw := hb1.size
        generalize World.drew _ = wf at *
        obtain ⟨i1, i2⟩ := q9.cells
        obtain ⟨j1, j2⟩ := q1.cells
        have j3 := q1.free 0
        have j4 := q1.free 1
        go_wp2_with fail
        refine bodyPost_ret (v := .tuple #[.agg #[.slice (some ⟨g, 0, .none⟩) l.length cap, .slice (some ⟨g', 0, .none⟩) l'.length cap'], .int .i64 0]) (by simp [results, Try.results24, go_sem, j1, j2]) rfl ?_
        rw [HR.out]
        refine ⟨some ⟨g, 0, .none⟩, some ⟨g', 0, .none⟩, cap, cap', by simp [bankV], ?_, ?_, ?_, fun ad q => ?_, fun ad q => ?_⟩
        · exact (((t9.other (by omega)).other (by omega)).ir).lift (Nat.le_refl _)
        · exact (((t9'.other (by omega)).other (by omega)).ir).lift (Nat.le_refl _)
        · exact (bw.setCell (by simp) _).setCell (by simp) _
        · injection q with q; subst q; exact Nat.le_trans hb2.size hg
        · injection q with q; subst q; exact Nat.le_trans hb2.size (Nat.le_trans hg (Nat.le_of_lt hgg))
    · rw [if_neg hz] at HR
      have hd : decide ((0 : Int) ≤ z ∧ z ≤ 65535) = false := by simp; omega
      clear hz HCL
      go_enter Try.func24, Try.ntmps24
      go_wp2_with fail
      refine HCC.out.mono ?_
      rintro e w1 ⟨rfl, hb1⟩
      have r1 := r0.below hb1 (by omega)
      have hb2 := b0.trans (hb1.mono (by omega))
      obtain ⟨j1, j2⟩ := r1.cells
      have j3 := r1.free 0
      have j4 := r1.free 1
      clear hw0
      go_wp2_with (first | (go_at_call 49; refine (within_any _ _ _ _).mono ?_; rintro e w' ⟨rfl, rfl⟩) | fail)
      refine bodyPost_ret (v := .tuple #[.agg #[.slice .none 0 0, .slice .none 0 0], .int .i64 1]) (by simp [results, Try.results24, go_sem, j1, j2]) rfl ?_
      rw [HR.out]
      exact bankPost_none _ ((hb2.setCell (by simp) _).setCell (by simp) _)
  · rw [if_neg hP] at HR
    have hne : (P != 0) = true := by simpa using hP
    clear hpr HCL
    go_enter Try.func24, Try.ntmps24
    go_wp2_with fail
    refine HCC.out.mono ?_
    rintro e w1 ⟨rfl, hb1⟩
    have r1 := r0.below hb1 (by omega)
    have hb2 := b0.trans (hb1.mono (by omega))
    obtain ⟨j1, j2⟩ := r1.cells
    have j3 := r1.free 0
    have j4 := r1.free 1
    clear hw0
    go_wp2_with (first | (go_at_call 49; refine (within_any _ _ _ _).mono ?_; rintro e w' ⟨rfl, rfl⟩) | fail)
    refine bodyPost_ret (v := .tuple #[.agg #[.slice .none 0 0, .slice .none 0 0], .int .i64 P]) (by simp [results, Try.results24, go_sem, j1, j2]) rfl ?_
    rw [HR.out]
    exact bankPost_none _ ((hb2.setCell (by simp) _).setCell (by simp) _)
end Go.Proofs.Ytidddoldkedicaa
