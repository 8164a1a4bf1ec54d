/- a row of numbers that lies in a block of its own and is written in place; slices.Clone. -/
import Derived.Test.YthcijelebjgfkaaAppend
import Derived.Test.YthcijelebjgfkaaBankMath
import Derived.WalkSpells
import Derived.RegionTactic
import Derived.Deep.QuietTactic
import Derived.BigQuiet
import Derived.Deep.RegionHeld3
namespace Go.Proofs.Ythcijelebjgfkaa
open Go.RowKit

/-- block g holds the numbers l, with room for some more -/
def RowAt (w : World) (g cap : Nat) (l : List Int) : Prop :=
  ∃ cur, w.heap[g]? = some (.cells cur 3 (0, 0)) ∧ l.length ≤ cap ∧ cap ≤ maxLen ∧ cur.size = cap ∧ cur.toList.take l.length = l.map iv
theorem RowAt.lt {w : World} {g cap : Nat} {l : List Int} (h : RowAt w g cap l) : g < w.heap.size := by
  obtain ⟨cur, h1, _⟩ := h
  exact (Array.getElem?_eq_some_iff.1 h1).1
theorem RowAt.cell {w : World} {g cap : Nat} {l : List Int} (h : RowAt w g cap l) (k : Nat) (hk : k < l.length) : w.cell? ⟨g, k, none⟩ = some (.int .i64 l[k]) := by
  obtain ⟨cur, h1, h2, h3, h4, h5⟩ := h
  simp only [World.cell?, h1]
  have e : (cur.toList.take l.length)[k]? = (l.map iv)[k]? := by rw [h5]
  rw [List.getElem?_take, if_pos hk] at e
  simp [hk] at e
  simpa [iv] using e
theorem RowAt.free {w : World} {g cap : Nat} {l : List Int} (h : RowAt w g cap l) (k : Nat) : w.frozen? ⟨g, k, none⟩ = false := by
  obtain ⟨cur, h1, _⟩ := h
  simp [World.frozen?, h1]
theorem RowAt.below {w w' : World} {B g cap : Nat} {l : List Int} (h : RowAt w g cap l) (hb : Below B w w') (hg : g < B) : RowAt w' g cap l := by
  obtain ⟨cur, h1, h2⟩ := h
  exact ⟨cur, (hb.block g hg).trans h1, h2⟩
theorem RowAt.set {w : World} {g cap : Nat} {l : List Int} (h : RowAt w g cap l) (k : Nat) (z : Int) : RowAt (w.setCell ⟨g, k, none⟩ (.int .i64 z)) g cap (l.set k z) := by
  have hlt := h.lt
  obtain ⟨cur, h1, h2, h3, h4, h5⟩ := h
  refine ⟨cur.setIfInBounds k (.int .i64 z), ?_, by simpa using h2, h3, by simpa using h4, ?_⟩
  · have h' : w.heap[g] = .cells cur 3 (0, 0) := by simpa [Array.getElem?_eq_getElem hlt] using h1
    simp only [World.setCell]
    rw [Array.getElem?_modify, if_pos rfl, Array.getElem?_eq_getElem hlt, h']
    simp
  · rw [Array.toList_setIfInBounds, List.length_set]
    apply List.ext_getElem?
    intro j
    have e : (cur.toList.take l.length)[j]? = (l.map iv)[j]? := by rw [h5]
    rw [List.map_set]
    rw [List.getElem?_take] at e ⊢
    by_cases hj : j < l.length
    · rw [if_pos hj] at e ⊢
      by_cases hkj : k = j
      · subst hkj
        rw [List.getElem?_set_self (by simp; omega), List.getElem?_set_self (by simpa using hj)]
        rfl
      · rw [List.getElem?_set_ne hkj, List.getElem?_set_ne hkj, e]
    · rw [if_neg hj]
      symm
      apply List.getElem?_eq_none
      simp
      omega
theorem RowAt.other {w : World} {g g' cap k : Nat} {l : List Int} {u : Value} (h : RowAt w g cap l) (hne : g ≠ g') : RowAt (w.setCell ⟨g', k, none⟩ u) g cap l := by
  obtain ⟨cur, h1, h2⟩ := h
  exact ⟨cur, (Below.heap_setCell w ⟨g', k, none⟩ u g hne).trans h1, h2⟩
theorem RowAt.drew {w : World} {g cap : Nat} {l : List Int} (h : RowAt w g cap l) : RowAt w.drew g cap l := h
theorem RowAt.drawn {w : World} {g cap : Nat} {l : List Int} (h : RowAt w g cap l) (n : Nat) : RowAt (w.drewN n) g cap l := h
theorem RowAt.ir {w : World} {g cap : Nat} {l : List Int} (h : RowAt w g cap l) : IR w w.heap.size (some ⟨g, 0, none⟩) l := by
  refine .inr ⟨_, rfl, h.lt, fun j v hv => ?_⟩
  have hj : j < l.length := by
    have := (List.getElem?_eq_some_iff.1 hv).1
    simpa using this
  have e2 : (⟨g, 0, none⟩ : Addr).add j = ⟨g, j, none⟩ := by by_cases h : j = 0 <;> simp [Addr.add, h]
  rw [e2, h.cell j hj, ← hv]
  simp [iv, hj]
theorem OwnI.row {w : World} {base : Nat} {v : Value} {l : List Int} (h : OwnI w base v l) (hl : 0 < l.length) : ∃ g cap, v = .slice (some ⟨g, 0, none⟩) l.length cap ∧ base ≤ g ∧ RowAt w g cap l := by
  rcases h.2 with ⟨rfl, hn⟩ | ⟨g, cap, cur, rfl, hb, hg, h1, h2, h3, h4⟩
  · omega
  · refine ⟨g, cap, rfl, hb, cur, hg, h1, h2, ?_, ?_⟩
    · rw [Nat.mul_one] at h3; exact h3
    · rw [Nat.mul_one] at h4; exact h4
theorem RowAt.own {w : World} {g cap : Nat} {l : List Int} (h : RowAt w g cap l) (base : Nat) (hb : base ≤ g) : OwnI w base (.slice (some ⟨g, 0, none⟩) l.length cap) l := by
  obtain ⟨cur, h1, h2, h3, h4, h5⟩ := h
  refine ⟨by simp, .inr ⟨g, cap, cur, rfl, hb, h1, h2, h3, by rw [Nat.mul_one]; exact h4, by rw [Nat.mul_one]; exact h5⟩⟩

theorem run_isnil (A : Option Addr) (n c : Nat) (w : World) : (binOp .eql 30 (.slice A n c) (.slice none 0 0)).run Try.prog w = .ok (.bool A.isNone) w := by
  simp only [binOp]
  simp [Op.equal, Op.maxDepth, Lib.run_equalIn_slice_nil w 9999 30 3 A n c 0 0 Try.underlying30]
set_option maxRecDepth 100000 in
set_option maxHeartbeats 400000 in
/-- slices.Clone of a list that is not empty -/
theorem cloneI_any (A : Option Addr) (c : Nat) (l : List Int) (B : Nat) (w : World) (hl0 : 0 < l.length) (hl : l.length ≤ 2000) (hB : B ≤ w.heap.size) (h : IR w B A l) :
    Calls Try.prog 35 #[.slice A l.length c] w fun e w' => ∃ g cap, e = .returned (.slice (some ⟨g, 0, none⟩) l.length cap) ∧ w.heap.size ≤ g ∧ RowAt w' g cap l ∧ Below w.heap.size w w' := by
  obtain ⟨ad, rfl, had, hc0⟩ := h.get 0 hl0
  have hq := fun (n c : Nat) (w : World) => run_isnil (some ad) n c w
  have h2 : IR (w.alloc (.cells #[] 3)) w.heap.size (some ad) l := (h.lift hB).below ((Below.refl _ _).alloc (Nat.le_refl _) _)
  go_enter Try.func35, Try.ntmps35
  go_wp2_with (first | (at_builtin; refine wpList_app _ rfl (.tmp 5) (.tmp 6) 30 3 1 8 rfl elemI w.heap.size _ 0 [] rfl (World.ownsRow_lit (e := 3) (size := 1) w #[] 0 (Nat.le_refl _) (by simp [maxLen]) rfl) w.heap.size (some ad) l.length c (l.map iv) rfl (by simp) h2 (iv_one _) (by unfold maxLen; omega) (by omega) (by simp) ?_; intro v2 w2 hown2 hgrow2 hat2) | fail)
  go_ret
  have ho : OwnI w2 w.heap.size v2 l := by
    have := OwnI.of (a := []) hown2 rfl
    simpa using this
  obtain ⟨g, cap, rfl, hg, hr⟩ := ho.row hl0
  exact ⟨g, cap, rfl, hg, hr, ((Below.refl _ _).alloc (Nat.le_refl _) _).grown hgrow2 (by simp) (fun k hk => Nat.le_of_eq (by injection hk))⟩
end Go.Proofs.Ythcijelebjgfkaa
