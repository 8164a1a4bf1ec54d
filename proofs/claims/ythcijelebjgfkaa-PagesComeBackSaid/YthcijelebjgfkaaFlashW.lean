/- words for flashes in memory; the walks of the sizes' checks. -/
import Derived.Test.YthcijelebjgfkaaFlashMath
import Derived.Test.YthcijelebjgfkaaRowAt
import Derived.Deep.RegionHeld3
import Derived.Deep.Cut
import Derived.IntWalk
namespace Go.Proofs.Ythcijelebjgfkaa
open Go.RowKit

/-- a flash as a value -/
def flV (b p s : Int) (D V X : Value) : Value := .agg #[.int .i64 b, .int .i64 p, .int .i64 s, D, V, X]
/-- block P holds a flash -/
def HeldF (w : World) (P : Nat) (b p s : Int) (D V X : Value) : Prop := w.heap[P]? = some (.cells #[.int .i64 b, .int .i64 p, .int .i64 s, D, V, X] 32 (0, 0))
theorem HeldF.lt {w : World} {P : Nat} {b p s : Int} {D V X : Value} (h : HeldF w P b p s D V X) : P < w.heap.size := (Array.getElem?_eq_some_iff.1 h).1
theorem HeldF.cells {w : World} {P : Nat} {b p s : Int} {D V X : Value} (h : HeldF w P b p s D V X) : w.cell? ⟨P, 0, none⟩ = some (.int .i64 b) ∧ w.cell? ⟨P, 1, none⟩ = some (.int .i64 p) ∧ w.cell? ⟨P, 2, none⟩ = some (.int .i64 s) ∧ w.cell? ⟨P, 3, none⟩ = some D ∧ w.cell? ⟨P, 4, none⟩ = some V ∧ w.cell? ⟨P, 5, none⟩ = some X := by
  unfold HeldF at h
  exact ⟨by simp [World.cell?, h], by simp [World.cell?, h], by simp [World.cell?, h], by simp [World.cell?, h], by simp [World.cell?, h], by simp [World.cell?, h]⟩
theorem HeldF.free {w : World} {P : Nat} {b p s : Int} {D V X : Value} (h : HeldF w P b p s D V X) (k : Nat) : w.frozen? ⟨P, k, none⟩ = false := by
  unfold HeldF at h
  simp [World.frozen?, h]
theorem HeldF.below {w w' : World} {P B : Nat} {b p s : Int} {D V X : Value} (h : HeldF w P b p s D V X) (hb : Below B w w') (hp : P < B) : HeldF w' P b p s D V X := (hb.block P hp).trans h
theorem HeldF.other {w : World} {P g k : Nat} {b p s : Int} {D V X u : Value} (h : HeldF w P b p s D V X) (hne : P ≠ g) : HeldF (w.setCell ⟨g, k, none⟩ u) P b p s D V X := (Below.heap_setCell w ⟨g, k, none⟩ u P hne).trans h
theorem heap_new (w : World) (o : Obj) : (w.alloc o).heap[w.heap.size]? = some o := by
  show (w.heap.push _)[w.heap.size]? = _
  simp
theorem HeldF.new (w : World) (b p s : Int) (D V X : Value) : HeldF (w.alloc (.cells #[.int .i64 b, .int .i64 p, .int .i64 s, D, V, X] 32)) w.heap.size b p s D V X := heap_new w _
theorem boxF (w : World) (o : Obj) : Below w.heap.size w (w.alloc o) := (Below.refl _ _).alloc (Nat.le_refl _) _

set_option maxHeartbeats 400000 in
theorem swithin_any (n a b : Int) (w : World) :
    Calls Try.prog 42 #[.int .i64 n, .int .i64 a, .int .i64 b] w fun e w' => e = .returned (.bool (decide (a ≤ n ∧ n ≤ b))) ∧ w = w' := by
  by_cases h1 : a ≤ n
  · by_cases h2 : n ≤ b
    · have hd := Lib.hid (show decide (a ≤ n ∧ n ≤ b) = true by simp [h1, h2])
      go_enter Try.func42, Try.ntmps42
      go_wp2
      go_ret
      exact ⟨ret_bool (by have := hd.out; simp_all), rfl⟩
    · have hd := Lib.hid (show decide (a ≤ n ∧ n ≤ b) = false by simp [h2])
      go_enter Try.func42, Try.ntmps42
      go_wp2
      go_ret
      exact ⟨ret_bool (by have := hd.out; simp_all), rfl⟩
  · have hd := Lib.hid (show decide (a ≤ n ∧ n ≤ b) = false by simp [h1])
    go_enter Try.func42, Try.ntmps42
    go_wp2
    go_ret
    exact ⟨ret_bool (by have := hd.out; simp_all), rfl⟩
set_option maxHeartbeats 400000 in
theorem fwithin_any (n a b : Int) (w : World) :
    Calls Try.prog 46 #[.int .i64 n, .int .i64 a, .int .i64 b] w fun e w' => e = .returned (.bool (decide (a ≤ n ∧ n ≤ b))) ∧ w = w' := by
  by_cases h1 : a ≤ n
  · by_cases h2 : n ≤ b
    · have hd := Lib.hid (show decide (a ≤ n ∧ n ≤ b) = true by simp [h1, h2])
      go_enter Try.func46, Try.ntmps46
      go_wp2
      go_ret
      exact ⟨ret_bool (by have := hd.out; simp_all), rfl⟩
    · have hd := Lib.hid (show decide (a ≤ n ∧ n ≤ b) = false by simp [h2])
      go_enter Try.func46, Try.ntmps46
      go_wp2
      go_ret
      exact ⟨ret_bool (by have := hd.out; simp_all), rfl⟩
  · have hd := Lib.hid (show decide (a ≤ n ∧ n ≤ b) = false by simp [h1])
    go_enter Try.func46, Try.ntmps46
    go_wp2
    go_ret
    exact ⟨ret_bool (by have := hd.out; simp_all), rfl⟩
set_option maxRecDepth 100000 in
set_option maxHeartbeats 1000000 in
theorem pageCount_any (b p s : Int) (D V X : Option Addr) (n n' n'' c c' c'' : Nat) (w : World) (hb : 1 ≤ b ∧ b ≤ 64) (hp : 1 ≤ p ∧ p ≤ 64) :
    Calls Try.prog 55 #[.agg #[.int .i64 b, .int .i64 p, .int .i64 s, .slice D n c, .slice V n' c', .slice X n'' c'']] w fun e w' => e = .returned (.int .i64 (b * p)) ∧ Below w.heap.size w w' := by
  have h := mul_bd hb hp
  have HG : Hid (wrap64 (b * p) = b * p) := Lib.hid (IntWalk.wrap64_in _ ⟨by omega, by omega⟩)
  clear h
  go_enter Try.func55, Try.ntmps55
  go_wp2_with fail
  go_ret
  exact ⟨ret_int HG.out, boxF _ _⟩
set_option maxRecDepth 100000 in
set_option maxHeartbeats 1000000 in
theorem dataSize_any (b p s : Int) (D V X : Option Addr) (n n' n'' c c' c'' : Nat) (w : World) (hb : 1 ≤ b ∧ b ≤ 64) (hp : 1 ≤ p ∧ p ≤ 64) (hs : 64 ≤ s ∧ s ≤ 1024) :
    Calls Try.prog 34 #[.agg #[.int .i64 b, .int .i64 p, .int .i64 s, .slice D n c, .slice V n' c', .slice X n'' c'']] w fun e w' => e = .returned (.int .i64 (b * p * s)) ∧ Below w.heap.size w w' := by
  have h := mul_bd3 hb hp hs
  have HG : Hid (wrap64 (b * p * s) = b * p * s) := Lib.hid (IntWalk.wrap64_in _ ⟨by omega, by omega⟩)
  have HG2 : Hid (IntKind.i64.wrap (b * p * s) = b * p * s) := Lib.hid (IntWalk.i64_in _ ⟨by omega, by omega⟩)
  have HC := Lib.hid (fun w1 => pageCount_any b p s D V X n n' n'' c c' c'' w1 hb hp)
  obtain ⟨w0, hw0⟩ : ∃ w0, w.alloc (.cells #[.int .i64 b, .int .i64 p, .int .i64 s, .slice D n c, .slice V n' c', .slice X n'' c''] 32) = w0 := ⟨_, rfl⟩
  have b0 : Below w.heap.size w w0 := by rw [← hw0]; exact boxF _ _
  have z0 : w0.heap.size = w.heap.size + 1 := by rw [← hw0]; simp
  have h0 : HeldF w0 w.heap.size b p s (.slice D n c) (.slice V n' c') (.slice X n'' c'') := by rw [← hw0]; exact HeldF.new _ _ _ _ _ _ _
  have HW0 := Lib.hid hw0
  clear hw0 h
  obtain ⟨p0, p1, p2, p3, p4, p5⟩ := h0.cells
  have HSS := Lib.hid (fun (w' : World) (hb : Below w0.heap.size w0 w') => (h0.below hb (by omega)).cells)
  have r0 : Below w0.heap.size w0 w0 := Below.refl _ _
  go_enter Try.func34, Try.ntmps34
  go_upto_region 1 with fail
  rw [HW0.out]
  clear HW0
  go_region_held3 (fun w' => w'.cell? ⟨w.heap.size, 0, none⟩ = some (.int .i64 b) ∧ w'.cell? ⟨w.heap.size, 1, none⟩ = some (.int .i64 p) ∧ w'.cell? ⟨w.heap.size, 2, none⟩ = some (.int .i64 s) ∧ w'.cell? ⟨w.heap.size, 3, none⟩ = some (.slice D n c) ∧ w'.cell? ⟨w.heap.size, 4, none⟩ = some (.slice V n' c') ∧ w'.cell? ⟨w.heap.size, 5, none⟩ = some (.slice X n'' c''))
    (first | exact HSS.out _ (by assumption) | exact HSS.out _ (Below.drew (by assumption)) | go_keep)
    (first
     | (go_at_call 55
        refine (HC.out _).mono ?_
        rintro e w3 ⟨rfl, hb3⟩
        have hb3' : Below w0.heap.size w0 w3 := by first | exact hb3 | exact r0.drew.trans hb3))
  all_goals
    have hb4 := b0.trans (hb3'.mono (by omega))
    go_wp2_with fail
    go_ret
    first | exact ⟨ret_int HG.out, hb4⟩ | exact ⟨ret_int HG2.out, hb4⟩
end Go.Proofs.Ythcijelebjgfkaa
