/- the walks of the program's and the reference's copies of a bank. -/
import Derived.Test.YteelepjhlhifhaaRowAt
import Derived.Test.YteelepjhlhifhaaCheckBank
namespace Go.Proofs.Yteelepjhlhifhaa
open Go.RowKit

theorem setCell_draws (w : World) (n : Nat) (a : Addr) (v : Value) : (w.drewN n).setCell a v = (w.setCell a v).drewN n := rfl
theorem alloc_draws (w : World) (n : Nat) (o : Obj) : (w.drewN n).alloc o = (w.alloc o).drewN n := rfl
theorem heap_alloc_new (w : World) (o : Obj) : (w.alloc o).heap[w.heap.size]? = some o := by
  show (w.heap.push _)[w.heap.size]? = _
  simp
attribute [local go_sem] setCell_draws alloc_draws
/-- the memory in which a bank lies: behind its own and its result's cells -/
def boxed2 (x y : Value) (w : World) : World := (w.alloc (.cells #[x, y] 52)).alloc (.cells #[.slice none 0 0, .slice none 0 0] 52)
theorem boxed2_below (x y : Value) (w : World) : Below w.heap.size w (boxed2 x y w) := ((Below.refl _ _).alloc (Nat.le_refl _) _).alloc (by simp) _
theorem boxed2_size (x y : Value) (w : World) : (boxed2 x y w).heap.size = w.heap.size + 2 := by simp [boxed2]
/-- a copy of a bank: both rows are the call's own -/
def Copied (l l' : List Int) (w : World) (v : Value) (w' : World) : Prop :=
  ∃ g cap g' cap', v = bankV (some ⟨g, 0, none⟩) (some ⟨g', 0, none⟩) l.length l'.length cap cap' ∧ w.heap.size ≤ g ∧ g < g' ∧ RowAt w' g cap l ∧ RowAt w' g' cap' l' ∧ Below w.heap.size w w'
set_option maxRecDepth 100000 in
set_option maxHeartbeats 1000000 in
theorem cloned_any (A A' : Option Addr) (c c' : Nat) (l l' : List Int) (B : Nat) (w : World) (hB : B ≤ w.heap.size) (hr : Right l l') (h : IR w B A l) (h' : IR w B A' l') :
    Calls Try.prog 70 #[bankV A A' l.length l'.length c c'] w fun e w' => ∃ v, e = .returned v ∧ Copied l l' w v w' := by
  unfold bankV
  have h1 := hr.pos
  have h2 := hr.few
  have h3 := hr.same
  have HC1 := Lib.hid (fun (w1 : World) (hb : Below w.heap.size w w1) (hz : w.heap.size ≤ w1.heap.size) => cloneI_any A c l B w1 (by omega) (by omega) (by omega) ((h.lift hB).below hb |> fun q => by exact (h.below (hb.mono hB))))
  have HC2 := Lib.hid (fun (w1 : World) (hb : Below w.heap.size w w1) (hz : w.heap.size ≤ w1.heap.size) => cloneI_any A' c' l' B w1 (by omega) (by omega) (by omega) (h'.below (hb.mono hB)))
  have H3 := Lib.hid h3
  clear h3 hr
  generalize hw0 : boxed2 (.slice A l.length c) (.slice A' l'.length c') w = w0
  have b0 : Below w.heap.size w w0 := by rw [← hw0]; exact boxed2_below _ _ _
  have s0 : w0.heap.size = w.heap.size + 2 := by rw [← hw0]; exact boxed2_size _ _ _
  have e0 : w0.cell? ⟨w.heap.size, 0, none⟩ = some (.slice A l.length c) := by rw [← hw0]; simp [boxed2]
  have e1 : w0.cell? ⟨w.heap.size, 1, none⟩ = some (.slice A' l'.length c') := by rw [← hw0]; simp [boxed2]
  have r0 : w0.heap[w.heap.size + 1]? = some (.cells #[.slice none 0 0, .slice none 0 0] 52 (0, 0)) := by
    have := heap_alloc_new (w.alloc (.cells #[.slice A l.length c, .slice A' l'.length c'] 52)) (.cells #[.slice none 0 0, .slice none 0 0] 52)
    rw [World.size_alloc] at this
    rw [← hw0]
    exact this
  go_enter Try.func70, Try.ntmps70
  go_wp2_with fail
  unfold boxed2 at hw0
  rw [hw0]
  clear hw0
  have hS : ∀ w1, Below (w.heap.size + 1) w0 w1 → (w1.cell? ⟨w.heap.size, 0, none⟩ = some (.slice A l.length c) ∧ w1.cell? ⟨w.heap.size, 1, none⟩ = some (.slice A' l'.length c')) := fun w1 hb =>
    ⟨(Below.at_ hb _ (by omega) _).trans e0, (Below.at_ hb _ (by omega) _).trans e1⟩
  have HSS := Lib.hid hS
  clear hS
  have h00 : Below w0.heap.size w0 w0 := Below.refl _ _
  have h01 : Below (w.heap.size + 1) w0 w0 := Below.refl _ _
  have HC3 := Lib.hid (fun (w1 : World) (hb : Below w0.heap.size w0 w1) => (HC1.out w1 (b0.trans (hb.mono (by omega))) (by have := hb.size; omega)).mono fun e w' ⟨g, cap, he, hg, hrow, hb1⟩ => (⟨g, cap, he, hg, hrow, hb1, hb.trans (hb1.mono hb.size)⟩ : ∃ g cap, e = Ending.returned (.slice (some ⟨g, 0, none⟩) l.length cap) ∧ w1.heap.size ≤ g ∧ RowAt w' g cap l ∧ Below w1.heap.size w1 w' ∧ Below w0.heap.size w0 w'))
  have HC4 := Lib.hid (fun (w1 : World) (hb : Below w0.heap.size w0 w1) => (HC2.out w1 (b0.trans (hb.mono (by omega))) (by have := hb.size; omega)).mono fun e w' ⟨g, cap, he, hg, hrow, hb1⟩ => (⟨g, cap, he, hg, hrow, hb1, hb.trans (hb1.mono hb.size)⟩ : ∃ g cap, e = Ending.returned (.slice (some ⟨g, 0, none⟩) l'.length cap) ∧ w1.heap.size ≤ g ∧ RowAt w' g cap l' ∧ Below w1.heap.size w1 w' ∧ Below w0.heap.size w0 w'))
  clear HC1 HC2
  go_region_held3 (fun w1 => w1.cell? ⟨w.heap.size, 0, none⟩ = some (.slice A l.length c) ∧ w1.cell? ⟨w.heap.size, 1, none⟩ = some (.slice A' l'.length c'))
    (first | go_keep | with_reducible exact HSS.out _ h01 | with_reducible exact HSS.out _ h01.drew | with_reducible exact HSS.out _ h11 | with_reducible exact HSS.out _ h11.drew | with_reducible exact HSS.out _ h21 | with_reducible exact HSS.out _ h21.drew | with_reducible exact HSS.out _ ((Below.setCell h21 (Nat.le_refl _) _).setCell (Nat.le_refl _) _) | with_reducible exact HSS.out _ ((Below.setCell h21 (Nat.le_refl _) _).setCell (Nat.le_refl _) _).drew)
    (first
     | (go_at_call 45
        with_reducible refine (HC3.out _ ?_).mono ?_
        · first | with_reducible exact h00.drew | with_reducible exact h00
        rintro e w1 ⟨g, cap, rfl, hg, hrow, hb1, hb1'⟩
        have h11 : Below (w.heap.size + 1) w0 w1 := hb1'.mono (by omega))
     | (go_at_call 45
        with_reducible refine (HC4.out _ ?_).mono ?_
        · first | with_reducible exact hb1'.drew | with_reducible exact hb1'
        rintro e w2 ⟨g', cap', rfl, hg', hrow', hb2, hb2'⟩
        have h21 : Below (w.heap.size + 1) w0 w2 := hb2'.mono (by omega)
        have r2 := (hb2'.block (w.heap.size + 1) (by omega)).trans r0
        have f0 : w2.frozen? ⟨w.heap.size + 1, 0, none⟩ = false := by simp [World.frozen?, r2]
        have f1 : w2.frozen? ⟨w.heap.size + 1, 1, none⟩ = false := by simp [World.frozen?, r2]
        have c0 : w2.cell? ⟨w.heap.size + 1, 0, none⟩ = some (.slice none 0 0) := by simp [World.cell?, r2]
        have c1 : w2.cell? ⟨w.heap.size + 1, 1, none⟩ = some (.slice none 0 0) := by simp [World.cell?, r2]))
  all_goals
    have hz0 : w0.heap.size ≤ w1.heap.size := hb1'.size
    have hgl := hrow.lt
    have hbf : Below w.heap.size w w2 := b0.trans (hb2'.mono (by omega))
    have hgw : w.heap.size + 2 ≤ g := by
      have : w0.heap.size ≤ g := hg
      omega
    go_wp2_with fail
    refine bodyPost_ret (v := .agg #[.slice (some ⟨g, 0, none⟩) l.length cap, .slice (some ⟨g', 0, none⟩) l'.length cap']) (by simp [results, Try.results70, go_sem, c0, c1]) rfl ⟨_, rfl, g, cap, g', cap', rfl, by omega, by omega, ?_, ?_, ?_⟩
    · exact ((hrow.below hb2 hgl).other (by omega)).other (by omega)
    · exact (hrow'.other (by omega)).other (by omega)
    · exact (hbf.setCell (by simp) _).setCell (by simp) _
set_option maxRecDepth 100000 in
set_option maxHeartbeats 1000000 in
theorem rcloned_any (A A' : Option Addr) (c c' : Nat) (l l' : List Int) (B : Nat) (w : World) (hB : B ≤ w.heap.size) (hr : Right l l') (h : IR w B A l) (h' : IR w B A' l') :
    Calls Try.prog 107 #[bankV A A' l.length l'.length c c'] w fun e w' => ∃ v, e = .returned v ∧ Copied l l' w v w' := by
  unfold bankV
  have h1 := hr.pos
  have h2 := hr.few
  have h3 := hr.same
  have HC1 := Lib.hid (fun (w1 : World) (hb : Below w.heap.size w w1) (hz : w.heap.size ≤ w1.heap.size) => cloneI_any A c l B w1 (by omega) (by omega) (by omega) ((h.lift hB).below hb |> fun q => by exact (h.below (hb.mono hB))))
  have HC2 := Lib.hid (fun (w1 : World) (hb : Below w.heap.size w w1) (hz : w.heap.size ≤ w1.heap.size) => cloneI_any A' c' l' B w1 (by omega) (by omega) (by omega) (h'.below (hb.mono hB)))
  have H3 := Lib.hid h3
  clear h3 hr
  generalize hw0 : boxed2 (.slice A l.length c) (.slice A' l'.length c') w = w0
  have b0 : Below w.heap.size w w0 := by rw [← hw0]; exact boxed2_below _ _ _
  have s0 : w0.heap.size = w.heap.size + 2 := by rw [← hw0]; exact boxed2_size _ _ _
  have e0 : w0.cell? ⟨w.heap.size, 0, none⟩ = some (.slice A l.length c) := by rw [← hw0]; simp [boxed2]
  have e1 : w0.cell? ⟨w.heap.size, 1, none⟩ = some (.slice A' l'.length c') := by rw [← hw0]; simp [boxed2]
  have r0 : w0.heap[w.heap.size + 1]? = some (.cells #[.slice none 0 0, .slice none 0 0] 52 (0, 0)) := by
    have := heap_alloc_new (w.alloc (.cells #[.slice A l.length c, .slice A' l'.length c'] 52)) (.cells #[.slice none 0 0, .slice none 0 0] 52)
    rw [World.size_alloc] at this
    rw [← hw0]
    exact this
  go_enter Try.func107, Try.ntmps107
  go_wp2_with fail
  unfold boxed2 at hw0
  rw [hw0]
  clear hw0
  have hS : ∀ w1, Below (w.heap.size + 1) w0 w1 → (w1.cell? ⟨w.heap.size, 0, none⟩ = some (.slice A l.length c) ∧ w1.cell? ⟨w.heap.size, 1, none⟩ = some (.slice A' l'.length c')) := fun w1 hb =>
    ⟨(Below.at_ hb _ (by omega) _).trans e0, (Below.at_ hb _ (by omega) _).trans e1⟩
  have HSS := Lib.hid hS
  clear hS
  have h00 : Below w0.heap.size w0 w0 := Below.refl _ _
  have h01 : Below (w.heap.size + 1) w0 w0 := Below.refl _ _
  have HC3 := Lib.hid (fun (w1 : World) (hb : Below w0.heap.size w0 w1) => (HC1.out w1 (b0.trans (hb.mono (by omega))) (by have := hb.size; omega)).mono fun e w' ⟨g, cap, he, hg, hrow, hb1⟩ => (⟨g, cap, he, hg, hrow, hb1, hb.trans (hb1.mono hb.size)⟩ : ∃ g cap, e = Ending.returned (.slice (some ⟨g, 0, none⟩) l.length cap) ∧ w1.heap.size ≤ g ∧ RowAt w' g cap l ∧ Below w1.heap.size w1 w' ∧ Below w0.heap.size w0 w'))
  have HC4 := Lib.hid (fun (w1 : World) (hb : Below w0.heap.size w0 w1) => (HC2.out w1 (b0.trans (hb.mono (by omega))) (by have := hb.size; omega)).mono fun e w' ⟨g, cap, he, hg, hrow, hb1⟩ => (⟨g, cap, he, hg, hrow, hb1, hb.trans (hb1.mono hb.size)⟩ : ∃ g cap, e = Ending.returned (.slice (some ⟨g, 0, none⟩) l'.length cap) ∧ w1.heap.size ≤ g ∧ RowAt w' g cap l' ∧ Below w1.heap.size w1 w' ∧ Below w0.heap.size w0 w'))
  clear HC1 HC2
  go_region_held3 (fun w1 => w1.cell? ⟨w.heap.size, 0, none⟩ = some (.slice A l.length c) ∧ w1.cell? ⟨w.heap.size, 1, none⟩ = some (.slice A' l'.length c'))
    (first | go_keep | with_reducible exact HSS.out _ h01 | with_reducible exact HSS.out _ h01.drew | with_reducible exact HSS.out _ h11 | with_reducible exact HSS.out _ h11.drew | with_reducible exact HSS.out _ h21 | with_reducible exact HSS.out _ h21.drew | with_reducible exact HSS.out _ ((Below.setCell h21 (Nat.le_refl _) _).setCell (Nat.le_refl _) _) | with_reducible exact HSS.out _ ((Below.setCell h21 (Nat.le_refl _) _).setCell (Nat.le_refl _) _).drew)
    (first
     | (go_at_call 45
        with_reducible refine (HC3.out _ ?_).mono ?_
        · first | with_reducible exact h00.drew | with_reducible exact h00
        rintro e w1 ⟨g, cap, rfl, hg, hrow, hb1, hb1'⟩
        have h11 : Below (w.heap.size + 1) w0 w1 := hb1'.mono (by omega))
     | (go_at_call 45
        with_reducible refine (HC4.out _ ?_).mono ?_
        · first | with_reducible exact hb1'.drew | with_reducible exact hb1'
        rintro e w2 ⟨g', cap', rfl, hg', hrow', hb2, hb2'⟩
        have h21 : Below (w.heap.size + 1) w0 w2 := hb2'.mono (by omega)
        have r2 := (hb2'.block (w.heap.size + 1) (by omega)).trans r0
        have f0 : w2.frozen? ⟨w.heap.size + 1, 0, none⟩ = false := by simp [World.frozen?, r2]
        have f1 : w2.frozen? ⟨w.heap.size + 1, 1, none⟩ = false := by simp [World.frozen?, r2]
        have c0 : w2.cell? ⟨w.heap.size + 1, 0, none⟩ = some (.slice none 0 0) := by simp [World.cell?, r2]
        have c1 : w2.cell? ⟨w.heap.size + 1, 1, none⟩ = some (.slice none 0 0) := by simp [World.cell?, r2]))
  all_goals
    have hz0 : w0.heap.size ≤ w1.heap.size := hb1'.size
    have hgl := hrow.lt
    have hbf : Below w.heap.size w w2 := b0.trans (hb2'.mono (by omega))
    have hgw : w.heap.size + 2 ≤ g := by
      have : w0.heap.size ≤ g := hg
      omega
    go_wp2_with fail
    refine bodyPost_ret (v := .agg #[.slice (some ⟨g, 0, none⟩) l.length cap, .slice (some ⟨g', 0, none⟩) l'.length cap']) (by simp [results, Try.results107, go_sem, c0, c1]) rfl ⟨_, rfl, g, cap, g', cap', rfl, by omega, by omega, ?_, ?_, ?_⟩
    · exact ((hrow.below hb2 hgl).other (by omega)).other (by omega)
    · exact (hrow'.other (by omega)).other (by omega)
    · exact (hbf.setCell (by simp) _).setCell (by simp) _
end Go.Proofs.Yteelepjhlhifhaa
