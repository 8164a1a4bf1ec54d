/- grounds as numbers and bodies. -/
import Derived.Test.YteikggieekhfkaaSRow
import Derived.Test.YteikggieekhfkaaCloneB
namespace Go.Proofs.Yteikggieekhfkaa
open Go.RowKit

/-- where a body lies -/
structure Bd where
  A : Option Addr
  n : Nat
  k : Nat
def Bd.cells (x : Bd) : List Value := [.slice x.A x.n x.k]
theorem Bd.one (x : Bd) : x.cells.length = 1 := rfl
/-- at A, below block B, lie the bodies q -/
def QR (w : World) (B : Nat) (A : Option Addr) (q : List (List UInt8)) : Prop :=
  ∃ ds : List Bd, ds.length = q.length ∧ SR Bd.cells w B A ds ∧ ∀ (i : Nat) (h : i < q.length) (h' : i < ds.length), ds[i].n = q[i].length ∧ BR w B ds[i].A q[i]
theorem QR.below {w w' : World} {B : Nat} {A : Option Addr} {q : List (List UInt8)} (h : QR w B A q) (hb : Below B w w') : QR w' B A q := by
  obtain ⟨ds, h1, h2, h3⟩ := h
  exact ⟨ds, h1, h2.below hb, fun i hi hi' => ⟨(h3 i hi hi').1, (h3 i hi hi').2.below hb⟩⟩
theorem QR.lift {w : World} {B B' : Nat} {A : Option Addr} {q : List (List UInt8)} (h : QR w B A q) (hb : B ≤ B') : QR w B' A q := by
  obtain ⟨ds, h1, h2, h3⟩ := h
  exact ⟨ds, h1, h2.lift hb, fun i hi hi' => ⟨(h3 i hi hi').1, (h3 i hi hi').2.lift hb⟩⟩
theorem QR.nil {w : World} {B : Nat} {A : Option Addr} : QR w B A [] := ⟨[], rfl, .inl rfl, fun i hi => by simp at hi⟩
theorem QR.get {w : World} {B : Nat} {A : Option Addr} {q : List (List UInt8)} (h : QR w B A q) (k : Nat) (hk : k < q.length) :
    ∃ ad X c, A = some ad ∧ ad.block < B ∧ w.cell? (ad.add k) = some (.slice X q[k].length c) ∧ BR w B X q[k] := by
  obtain ⟨ds, h1, h2, h3⟩ := h
  obtain ⟨ad, e, hb, hc⟩ := SR.get Bd.one (by omega) h2 k (by omega)
  obtain ⟨e1, e2⟩ := h3 k hk (by omega)
  refine ⟨ad, ds[k].A, ds[k].k, e, hb, ?_, e2⟩
  have := hc 0 _ rfl
  rw [addr_zero, Nat.mul_one] at this
  rw [this, e1]
theorem rcells_one (ds : List Bd) : rcells Bd.cells ds = ds.map fun x => .slice x.A x.n x.k := by
  induction ds with
  | nil => rfl
  | cons x l ih =>
    simp [rcells, Bd.cells]
    exact ih
theorem QR.drop {w : World} {B : Nat} {ad : Addr} {q : List (List UInt8)} (h : QR w B (some ad) q) (n : Nat) (hn : n < q.length) : QR w B (some (ad.add n)) (q.drop n) := by
  obtain ⟨ds, h1, h2, h3⟩ := h
  refine ⟨ds.drop n, by simp; omega, ?_, fun i hi hi' => ?_⟩
  · obtain ⟨ad', e, h4⟩ := Cells.tail h2 n (by rw [rcells_len Bd.one]; omega)
    obtain rfl : ad = ad' := by injection e
    unfold SR
    rw [rcells_one] at h4 ⊢
    rw [List.map_drop]
    exact h4
  · simp only [List.getElem_drop]
    simp at hi hi'
    exact h3 (n + i) (by omega) (by omega)
/-- a ground as a value -/
def grdV (f s : Int) (Q : Value) (wd : Int) (st : Bool) : Value := .agg #[.int .i64 f, .int .i64 s, Q, .int .i64 wd, .bool st]
def grdC (f s : Int) (Q : Value) (wd : Int) (st : Bool) : Array Value := #[.int .i64 f, .int .i64 s, Q, .int .i64 wd, .bool st]
/-- the fault of bodies -/
def bodsS : List (List UInt8) → Int
  | [] => 0
  | x :: l => if bodS x.length ≠ 0 then bodS x.length else bodsS l
theorem bods_all : ∀ (q : List (List UInt8)), (∀ i (h : i < q.length), bodS q[i].length = 0) → bodsS q = 0
  | [], _ => rfl
  | x :: l, h => by
    have h0 := h 0 (by simp)
    simp only [List.getElem_cons_zero] at h0
    simp only [bodsS, h0, ne_eq, not_true_eq_false, if_false]
    exact bods_all l fun i hi => by have := h (i + 1) (by simp; omega); simpa using this
theorem bods_first : ∀ (q : List (List UInt8)) (k : Nat) (hk : k < q.length), (∀ i (_ : i < k), bodS (q[i]'(by omega)).length = 0) → bodS q[k].length ≠ 0 → bodsS q = bodS q[k].length
  | [], k, hk, _, _ => by simp at hk
  | x :: l, 0, _, _, h => by
    simp only [List.getElem_cons_zero] at h ⊢
    simp only [bodsS, ne_eq, h, not_false_eq_true, if_true]
  | x :: l, k + 1, hk, ha, h => by
    have h0 := ha 0 (by omega)
    simp only [List.getElem_cons_zero] at h0
    simp only [List.getElem_cons_succ] at h ⊢
    simp only [bodsS, h0, ne_eq, not_true_eq_false, if_false]
    exact bods_first l k (by simpa using hk) (fun i hi => by have := ha (i + 1) (by omega); simpa using this) h
theorem bods_ok : ∀ {q : List (List UInt8)}, bodsS q = 0 → ∀ x ∈ q, bodS x.length = 0
  | [], _, x, hx => by simp at hx
  | y :: l, h, x, hx => by
    simp only [bodsS] at h
    by_cases hy : bodS y.length = 0
    · rw [if_neg (by simpa using hy)] at h
      rcases List.mem_cons.1 hx with rfl | hx
      · exact hy
      · exact bods_ok h x hx
    · rw [if_pos (by simpa using hy)] at h
      exact absurd h hy
/-- the fault of a ground -/
def gndS (f s : Int) (q : List (List UInt8)) (wd : Int) : Int :=
  if 0 ≤ f ∧ f ≤ 255 then (if 1 ≤ wd ∧ wd ≤ 127 then (if 500 < q.length then 2 else if bodsS q = 0 then (if 0 ≤ s ∧ s ≤ min wd (q.length : Int) then 0 else 1) else bodsS q) else 1) else 1
structure GndOk (f s : Int) (q : List (List UInt8)) (wd : Int) : Prop where
  f0 : 0 ≤ f
  f1 : f ≤ 255
  w0 : 1 ≤ wd
  w1 : wd ≤ 127
  few : q.length ≤ 500
  bod : ∀ x ∈ q, bodS x.length = 0
  s0 : 0 ≤ s
  s1 : s ≤ wd
  s2 : s ≤ (q.length : Int)
theorem gnd_ok {f s : Int} {q : List (List UInt8)} {wd : Int} (h : gndS f s q wd = 0) : GndOk f s q wd := by
  unfold gndS at h
  by_cases h1 : 0 ≤ f ∧ f ≤ 255
  · rw [if_pos h1] at h
    by_cases h2 : 1 ≤ wd ∧ wd ≤ 127
    · rw [if_pos h2] at h
      by_cases h3 : 500 < q.length
      · rw [if_pos h3] at h; simp at h
      · rw [if_neg h3] at h
        by_cases h4 : bodsS q = 0
        · rw [if_pos h4] at h
          by_cases h5 : 0 ≤ s ∧ s ≤ min wd (q.length : Int)
          · exact ⟨h1.1, h1.2, h2.1, h2.2, by omega, bods_ok h4, h5.1, by omega, by omega⟩
          · rw [if_neg h5] at h; simp at h
        · rw [if_neg h4] at h; exact absurd h h4
    · rw [if_neg h2] at h; simp at h
  · rw [if_neg h1] at h; simp at h
end Go.Proofs.Yteikggieekhfkaa
