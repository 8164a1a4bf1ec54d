/- Rates of the program. -/
import Derived.Test.YtpccpkjfnmclfaaRLowest
import Derived.Test.YtpccpkjfnmclfaaTimeOf
import Derived.Laws.EntriesVeiled
import Derived.Deep.Cut
import Derived.Deep.DeepCutAuto
namespace Go.Proofs.Ytpccpkjfnmclfaa
open Go.RowKit
attribute [local go_sem] setCell_draws alloc_draws

/-- what the checks of marks for rates say -/
def ckR (l : List Mk) : Int := if ckM l ≠ 0 then ckM l else if l.length = 1 then 11 else 0
/-- what Rates leaves -/
def RatesPost (l : List Mk) (w : World) (e : Ending) (w' : World) : Prop :=
  e = .returned (.tuple #[sv (if ckR l = 0 then lowQ (leastTo l (l.length - 1)) else (0, 0)), sv (if ckR l = 0 then lowQ (mostTo l (l.length - 1)) else (0, 0)), .int .i64 (ckR l)]) ∧ Below w.heap.size w w'
/-- two results' blocks -/
def twoQ (w : World) : World := (w.alloc (.cells #[.int .i64 0, .int .i64 0] 110)).alloc (.cells #[.int .i64 0, .int .i64 0] 110)
/-- a share in a block -/
def HeldQ (w : World) (p : Nat) (x : Nat × Nat) : Prop := w.heap[p]? = some (.cells #[.int .i64 x.1, .int .i64 x.2] 110 (0, 0))
theorem HeldQ.cells {w : World} {p : Nat} {x : Nat × Nat} (h : HeldQ w p x) : w.cell? ⟨p, 0, none⟩ = some (.int .i64 x.1) ∧ w.cell? ⟨p, 1, none⟩ = some (.int .i64 x.2) ∧ p < w.heap.size := by
  have hlt := lt_of_block h
  refine ⟨?_, ?_, hlt⟩
  · unfold HeldQ at h; simp [World.cell?, h]
  · unfold HeldQ at h; simp [World.cell?, h]
theorem HeldQ.free {w : World} {p : Nat} {x : Nat × Nat} (h : HeldQ w p x) (k : Nat) : w.frozen? ⟨p, k, none⟩ = false := by
  unfold HeldQ at h
  simp [World.frozen?, h]
theorem HeldQ.below {w w' : World} {p B : Nat} {x : Nat × Nat} (h : HeldQ w p x) (hb : Below B w w') (hp : p < B) : HeldQ w' p x := (hb.block p hp).trans h
theorem HeldQ.new (w : World) (x : Nat × Nat) : HeldQ (w.alloc (.cells #[.int .i64 x.1, .int .i64 x.2] 110)) w.heap.size x := heap_alloc_new w _
theorem HeldQ.set {w : World} {p : Nat} {x : Nat × Nat} (h : HeldQ w p x) (y : Nat × Nat) : HeldQ ((w.setCell ⟨p, 0, none⟩ (.int .i64 y.1)).setCell ⟨p, 1, none⟩ (.int .i64 y.2)) p y := by
  have hlt := lt_of_block h
  have h' : w.heap[p] = .cells #[.int .i64 x.1, .int .i64 x.2] 110 (0, 0) := by unfold HeldQ at h; simpa [Array.getElem?_eq_getElem hlt] using h
  unfold HeldQ
  simp only [World.setCell]
  rw [Array.getElem?_eq_getElem (by simpa using hlt), Array.getElem_modify_self, Array.getElem_modify_self, h']
  rfl
theorem HeldQ.drew {w : World} {p : Nat} {x : Nat × Nat} (h : HeldQ w p x) : HeldQ w.drew p x := h
theorem HeldQ.other {w : World} {q p k : Nat} {u : Value} {x : Nat × Nat} (h : HeldQ w q x) (hne : ¬ q = p) : HeldQ (w.setCell ⟨p, k, none⟩ u) q x := (Below.heap_setCell w ⟨p, k, none⟩ u q hne).trans h
theorem HeldQ.behind {w1 w3 : World} (x : Nat × Nat) (h : Below ((w1.alloc (.cells #[.int .i64 x.1, .int .i64 x.2] 110)).drew).heap.size ((w1.alloc (.cells #[.int .i64 x.1, .int .i64 x.2] 110)).drew) w3) : HeldQ w3 w1.heap.size x :=
  HeldQ.below (w := (w1.alloc (.cells #[.int .i64 x.1, .int .i64 x.2] 110)).drew) (HeldQ.new w1 x) h (by simp)
theorem carryC {f : FuncId} {args : Array Value} {w' W0 : World} {Q : Ending → Prop} {B : Nat} (h : Calls Try.prog f args w' fun e w'' => Q e ∧ Below w'.heap.size w' w'') (hb : Below B W0 w') (hB : B ≤ w'.heap.size) :
    Calls Try.prog f args w' fun e w'' => Q e ∧ Below B W0 w'' ∧ B ≤ w''.heap.size ∧ Below w'.heap.size w' w'' := h.mono fun _ _ ⟨a, b⟩ => ⟨a, hb.trans (b.mono hB), Nat.le_trans hB b.size, b⟩
/-- the head of the loop of Rates -/
def RatesAt (l : List Mk) (L G B : Nat) (W0 : World) (i : Value) (wr : World) : Prop :=
  ∃ k : Nat, k + 1 ≤ l.length ∧ i = .int .i64 k ∧ HeldQ wr L (leastTo l k) ∧ HeldQ wr G (mostTo l k) ∧ Below B W0 wr
end Go.Proofs.Ytpccpkjfnmclfaa
