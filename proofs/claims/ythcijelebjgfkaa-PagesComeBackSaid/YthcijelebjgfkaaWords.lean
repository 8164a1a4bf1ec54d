/- words for memory: a slice whose cells are a list; bytes. -/
import Derived.Test.YthcijelebjgfkaaProg
import Derived.Below
import Derived.Laws.OwnMore
import Derived.Deep.Draws
namespace Go.Proofs.Ythcijelebjgfkaa
open Go.RowKit

theorem add_block (a : Addr) (n : Nat) : (a.add n).block = a.block := by unfold Addr.add; split <;> rfl
theorem addr_zero (a : Addr) : a.add 0 = a := by simp [Addr.add]
theorem add_twice (a : Addr) (i j : Nat) : (a.add i).add j = a.add (i + j) := by
  unfold Addr.add
  by_cases hi : i = 0 <;> by_cases hj : j = 0 <;> simp [hi, hj, Nat.add_assoc]

theorem below_draws {B : Nat} {a w : World} (h : Below B a w) (n : Nat) : Below B a (w.drewN n) := ⟨h.os, h.tape, h.output, h.size, h.block⟩
/-- at A, below block B, lie the cells xs -/
def Cells (w : World) (B : Nat) (A : Option Addr) (xs : List Value) : Prop :=
  xs = [] ∨ ∃ ad, A = some ad ∧ ad.block < B ∧ ∀ j v, xs[j]? = some v → w.cell? (ad.add j) = some v

theorem Cells.get {w : World} {B : Nat} {A : Option Addr} {xs : List Value} (h : Cells w B A xs) (k : Nat) (hk : k < xs.length) :
    ∃ ad, A = some ad ∧ ad.block < B ∧ w.cell? (ad.add k) = some xs[k] := by
  rcases h with rfl | ⟨ad, e, hb, hc⟩
  · simp at hk
  · exact ⟨ad, e, hb, hc k _ (List.getElem?_eq_getElem hk)⟩
theorem Cells.stay {w w' : World} {B : Nat} {A : Option Addr} {xs : List Value} (h : Cells w B A xs) (hk : ∀ p : Addr, p.block < B → w'.cell? p = w.cell? p) : Cells w' B A xs := by
  rcases h with e | ⟨ad, e, hb, hc⟩
  · exact .inl e
  · exact .inr ⟨ad, e, hb, fun j v hv => (hk _ (by rw [add_block]; exact hb)).trans (hc j v hv)⟩
theorem Cells.below {w w' : World} {B : Nat} {A : Option Addr} {xs : List Value} (h : Cells w B A xs) (hb : Below B w w') : Cells w' B A xs := h.stay fun _ hp => hb.cell hp
theorem Cells.lift {w : World} {B B' : Nat} {A : Option Addr} {xs : List Value} (h : Cells w B A xs) (hb : B ≤ B') : Cells w B' A xs := by
  rcases h with e | ⟨ad, e, hl, hc⟩
  · exact .inl e
  · exact .inr ⟨ad, e, by omega, hc⟩
theorem Cells.tail {w : World} {B : Nat} {A : Option Addr} {xs : List Value} (h : Cells w B A xs) (k : Nat) (hk : k < xs.length) : ∃ ad, A = some ad ∧ Cells w B (some (ad.add k)) (xs.drop k) := by
  rcases h with rfl | ⟨ad, e, hl, hc⟩
  · simp at hk
  · refine ⟨ad, e, .inr ⟨_, rfl, by rw [add_block]; exact hl, fun j v hv => ?_⟩⟩
    rw [add_twice]
    rw [List.getElem?_drop] at hv
    exact hc _ v hv
theorem Cells.front {w : World} {B : Nat} {A : Option Addr} {xs : List Value} (h : Cells w B A xs) (k : Nat) : Cells w B A (xs.take k) := by
  rcases h with rfl | ⟨ad, e, hl, hc⟩
  · exact .inl (by simp)
  · refine .inr ⟨ad, e, hl, fun j v hv => hc j v ?_⟩
    rw [List.getElem?_take] at hv
    split at hv
    · exact hv
    · cases hv

theorem Cells.fresh (w : World) (xs : List Value) (t : TypeId) (z : Nat × Nat) (C : Array Value) (hC : C = xs.toArray) : Cells (w.alloc (.cells C t z)) (w.heap.size + 1) (some ⟨w.heap.size, 0, none⟩) xs := by
  subst hC
  refine .inr ⟨_, rfl, by simp, fun j v hv => ?_⟩
  have e : (w.alloc (.cells xs.toArray t z)).heap[w.heap.size]? = some (.cells xs.toArray t z) := by
    show (w.heap.push _)[w.heap.size]? = _
    simp
  have e2 : (⟨w.heap.size, 0, none⟩ : Addr).add j = ⟨w.heap.size, j, none⟩ := by by_cases h : j = 0 <;> simp [Addr.add, h]
  rw [e2]
  simp only [World.cell?, e]
  simpa using hv

/-- a byte as a cell -/
def bv (c : UInt8) : Value := .int .u8 (c.toNat : Int)
def BR (w : World) (B : Nat) (A : Option Addr) (l : List UInt8) : Prop := Cells w B A (l.map bv)
theorem BR.get {w : World} {B : Nat} {A : Option Addr} {l : List UInt8} (h : BR w B A l) (k : Nat) (hk : k < l.length) :
    ∃ ad, A = some ad ∧ ad.block < B ∧ w.cell? (ad.add k) = some (.int .u8 (l[k].toNat : Int)) := by
  obtain ⟨ad, e, hb, hc⟩ := Cells.get h k (by simpa using hk)
  exact ⟨ad, e, hb, by simpa [bv] using hc⟩
theorem BR.below {w w' : World} {B : Nat} {A : Option Addr} {l : List UInt8} (h : BR w B A l) (hb : Below B w w') : BR w' B A l := Cells.below h hb
theorem BR.lift {w : World} {B B' : Nat} {A : Option Addr} {l : List UInt8} (h : BR w B A l) (hb : B ≤ B') : BR w B' A l := Cells.lift h hb
theorem BR.tail {w : World} {B : Nat} {A : Option Addr} {l : List UInt8} (h : BR w B A l) (k : Nat) (hk : k < l.length) : ∃ ad, A = some ad ∧ BR w B (some (ad.add k)) (l.drop k) := by
  obtain ⟨ad, e, hc⟩ := Cells.tail h k (by simpa using hk)
  exact ⟨ad, e, by simpa [BR] using hc⟩
theorem BR.front {w : World} {B : Nat} {A : Option Addr} {l : List UInt8} (h : BR w B A l) (k : Nat) : BR w B A (l.take k) := by
  have := Cells.front h k
  simpa [BR] using this
theorem ret_int {k : IntKind} {a b : Int} (h : a = b) : Ending.returned (.int k a) = .returned (.int k b) := by rw [h]
theorem ret_bool {a b : Bool} (h : a = b) : Ending.returned (.bool a) = .returned (.bool b) := by rw [h]
theorem Cells.fresh' (w : World) (xs : List Value) (t : TypeId) (z : Nat × Nat) (C : Array Value) (hC : C = xs.toArray) : Cells (w.alloc (.cells C t z)) (w.heap.size + 1) (some ⟨w.heap.size, 0, none⟩) xs := Cells.fresh w xs t z C hC
/-- a number as a cell -/
def iv (z : Int) : Value := .int .i64 z
def IR (w : World) (B : Nat) (A : Option Addr) (l : List Int) : Prop := Cells w B A (l.map iv)
theorem IR.get {w : World} {B : Nat} {A : Option Addr} {l : List Int} (h : IR w B A l) (k : Nat) (hk : k < l.length) :
    ∃ ad, A = some ad ∧ ad.block < B ∧ w.cell? (ad.add k) = some (.int .i64 l[k]) := by
  obtain ⟨ad, e, hb, hc⟩ := Cells.get h k (by simpa using hk)
  exact ⟨ad, e, hb, by simpa [iv] using hc⟩
theorem IR.below {w w' : World} {B : Nat} {A : Option Addr} {l : List Int} (h : IR w B A l) (hb : Below B w w') : IR w' B A l := Cells.below h hb
theorem IR.lift {w : World} {B B' : Nat} {A : Option Addr} {l : List Int} (h : IR w B A l) (hb : B ≤ B') : IR w B' A l := Cells.lift h hb
end Go.Proofs.Ythcijelebjgfkaa
