/- a ground behind a report. -/
import Derived.Test.YteikggieekhfkaaGndMath
import Derived.Test.YteikggieekhfkaaCodes
namespace Go.Proofs.Yteikggieekhfkaa
open Go.RowKit

structure Gnd where
  f : Int
  s : Int
  q : List (List UInt8)
  wd : Int
  st : Bool
/-- a ground behind a report that is not locked, up to Retry -/
def hearS (g : Gnd) (n : Int) : Gnd := if aft n g.f ≤ g.s then ⟨n, g.s - aft n g.f, g.q.drop (aft n g.f).toNat, g.wd, g.st⟩ else ⟨g.f, g.s, g.q, g.wd, true⟩
/-- a ground behind a report -/
def heardS (g : Gnd) (n : Int) (L R : Bool) : Gnd := if L then ⟨g.f, g.s, g.q, g.wd, true⟩ else if R then ⟨(hearS g n).f, 0, (hearS g n).q, (hearS g n).wd, (hearS g n).st⟩ else hearS g n
theorem QR.rest {w : World} {B : Nat} {ad : Addr} {q : List (List UInt8)} {D c : Nat} (h : QR w B (some ad) q) (hD : D ≤ q.length) (hc : q.length ≤ c) : QR w B (if c = D then some ad else some (ad.add D)) (q.drop D) := by
  by_cases e : D < q.length
  · rw [if_neg (by omega)]
    exact h.drop D e
  · rw [List.drop_of_length_le (by omega)]
    exact QR.nil
theorem five_q {w : World} {g B : Nat} {A : Option Addr} {q : List (List UInt8)} (h : QR w B A q) (hB : B ≤ g) (a : Value) (k : Nat) : QR (w.setCell ⟨g, k, none⟩ a) B A q := h.below ((Below.refl _ _).setCell hB _)
theorem aft_eq (n m : Int) : aft n m = (n - m + 256) % 256 := rfl
/-- what a ground becomes, its bodies where they were -/
def GndPostB (B : Nat) (g : Gnd) (w : World) (e : Ending) (w' : World) : Prop :=
  ∃ A c, e = .returned (grdV g.f g.s (.slice A g.q.length c) g.wd g.st) ∧ QR w' B A g.q ∧ g.q.length ≤ c ∧ (A = none → c = 0) ∧ Below w.heap.size w w'
/-- what a ground becomes -/
def GndPost (g : Gnd) (w : World) (e : Ending) (w' : World) : Prop :=
  ∃ A c, e = .returned (grdV g.f g.s (.slice A g.q.length c) g.wd g.st) ∧ QR w' w'.heap.size A g.q ∧ g.q.length ≤ c ∧ (A = none → c = 0) ∧ Below w.heap.size w w'
end Go.Proofs.Yteikggieekhfkaa
