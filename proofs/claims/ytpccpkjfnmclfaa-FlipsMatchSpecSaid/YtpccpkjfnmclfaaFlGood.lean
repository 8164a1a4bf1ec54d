/- what a flip answers, in the two ways; a bit turned twice. -/
import Derived.Test.YtpccpkjfnmclfaaRFlip
namespace Go.Proofs.Ytpccpkjfnmclfaa
open Go.RowKit

theorem OwnI.nilcap {w : World} {base : Nat} {A : Option Addr} {n k : Nat} {l : List Int} (h : OwnI w base (.slice A n k) l) : A = none → k = 0 := by
  intro hA
  rcases h.2 with ⟨e, _⟩ | ⟨g, cap, cur, e, _⟩
  · injection e with e1 e2 e3
  · injection e with e1 e2 e3
    rw [hA] at e1
    cases e1
theorem turned_twice (d : List UInt8) (T : Nat) : turned (turned d T) T = d := by
  by_cases h : T / 8 < d.length
  · unfold turned
    simp [List.getD, h, UInt8.xor_assoc]
  · have e : ∀ z, d.set (T / 8) z = d := fun z => List.set_eq_of_length_le (by omega)
    unfold turned
    rw [e, e]
theorem FlipPost.good {b p s t : Int} {d : List UInt8} {v x : List Int} {AX : Option Addr} {c'' : Nat} {w w' : World} {e : Ending} (h : FlipPost b p s t d v x (.slice AX x.length c'') w e w') (hC : flipC b p s t d.length v x = 0) (hX : IR w w.heap.size AX x) (hAX : AX = none → c'' = 0) :
    ∃ A1 k1 A2 k2 A3 k3, e = .returned (.tuple #[.agg #[.int .i64 b, .int .i64 p, .int .i64 s, .slice A1 d.length k1, .slice A2 v.length k2, .slice A3 x.length k3], .int .i64 0]) ∧ Below w.heap.size w w' ∧
      BR w' w'.heap.size A1 (turned d t.toNat) ∧ IR w' w'.heap.size A2 v ∧ IR w' w'.heap.size A3 x ∧ (A2 = none → k2 = 0) ∧ (A3 = none → k3 = 0) := by
  obtain ⟨F, he, hb, -, hg⟩ := h
  obtain ⟨vD, vV, vX, rfl, oD, oV, oX⟩ := hg hC
  obtain ⟨A1, k1, rfl, i1⟩ := oD.form
  have nV := oV
  obtain ⟨A2, k2, rfl, i2⟩ := oV.form
  rw [turned_len] at he
  rcases oX with rfl | oX
  · exact ⟨A1, k1, A2, k2, AX, c'', by rw [he, hC]; rfl, hb, i1, i2, (hX.below hb).lift hb.size, nV.nilcap, hAX⟩
  · have nX := oX
    obtain ⟨A3, k3, rfl, i3⟩ := oX.form
    exact ⟨A1, k1, A2, k2, A3, k3, by rw [he, hC]; rfl, hb, i1, i2, i3, nV.nilcap, nX.nilcap⟩
theorem FlipPost.bad {b p s t : Int} {d : List UInt8} {v x : List Int} {X : Value} {w w' : World} {e : Ending} (h : FlipPost b p s t d v x X w e w') (hC : flipC b p s t d.length v x ≠ 0) :
    e = .returned (.tuple #[.agg #[.int .i64 0, .int .i64 0, .int .i64 0, .slice none 0 0, .slice none 0 0, .slice none 0 0], .int .i64 (flipC b p s t d.length v x)]) ∧ Below w.heap.size w w' := by
  obtain ⟨F, he, hb, hF, -⟩ := h
  rw [hF hC] at he
  exact ⟨he, hb⟩
end Go.Proofs.Ytpccpkjfnmclfaa
