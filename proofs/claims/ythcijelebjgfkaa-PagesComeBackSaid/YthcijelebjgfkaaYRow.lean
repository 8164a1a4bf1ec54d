/- a row of bytes that lies in a block of its own and is written in place; slices.Clone of bytes and of numbers. -/
import Derived.Test.YthcijelebjgfkaaRowAt
import Derived.Test.YthcijelebjgfkaaBigApp
namespace Go.Proofs.Ythcijelebjgfkaa
open Go.RowKit

/-- block g holds the bytes l, with room for some more -/
def RowY (w : World) (g cap : Nat) (l : List UInt8) : Prop :=
  ∃ cur, w.heap[g]? = some (.cells cur 5 (0, 0)) ∧ l.length ≤ cap ∧ cap ≤ maxLen ∧ cur.size = cap ∧ cur.toList.take l.length = l.map bv
theorem RowY.lt {w : World} {g cap : Nat} {l : List UInt8} (h : RowY w g cap l) : g < w.heap.size := by
  obtain ⟨cur, h1, _⟩ := h
  exact (Array.getElem?_eq_some_iff.1 h1).1
theorem RowY.cell {w : World} {g cap : Nat} {l : List UInt8} (h : RowY w g cap l) (k : Nat) (hk : k < l.length) : w.cell? ⟨g, k, none⟩ = some (.int .u8 (l[k].toNat : Int)) := by
  obtain ⟨cur, h1, h2, h3, h4, h5⟩ := h
  simp only [World.cell?, h1]
  have e : (cur.toList.take l.length)[k]? = (l.map bv)[k]? := by rw [h5]
  rw [List.getElem?_take, if_pos hk] at e
  simp [hk] at e
  simpa [bv] using e
theorem RowY.free {w : World} {g cap : Nat} {l : List UInt8} (h : RowY w g cap l) (k : Nat) : w.frozen? ⟨g, k, none⟩ = false := by
  obtain ⟨cur, h1, _⟩ := h
  simp [World.frozen?, h1]
theorem RowY.below {w w' : World} {B g cap : Nat} {l : List UInt8} (h : RowY w g cap l) (hb : Below B w w') (hg : g < B) : RowY w' g cap l := by
  obtain ⟨cur, h1, h2⟩ := h
  exact ⟨cur, (hb.block g hg).trans h1, h2⟩
theorem RowY.set {w : World} {g cap : Nat} {l : List UInt8} (h : RowY w g cap l) (k : Nat) (z : UInt8) : RowY (w.setCell ⟨g, k, none⟩ (.int .u8 (z.toNat : Int))) g cap (l.set k z) := by
  have hlt := h.lt
  obtain ⟨cur, h1, h2, h3, h4, h5⟩ := h
  refine ⟨cur.setIfInBounds k (.int .u8 (z.toNat : Int)), ?_, by simpa using h2, h3, by simpa using h4, ?_⟩
  · have h' : w.heap[g] = .cells cur 5 (0, 0) := by simpa [Array.getElem?_eq_getElem hlt] using h1
    simp only [World.setCell]
    rw [Array.getElem?_modify, if_pos rfl, Array.getElem?_eq_getElem hlt, h']
    simp
  · rw [Array.toList_setIfInBounds, List.length_set]
    apply List.ext_getElem?
    intro j
    have e : (cur.toList.take l.length)[j]? = (l.map bv)[j]? := by rw [h5]
    rw [List.map_set]
    rw [List.getElem?_take] at e ⊢
    by_cases hj : j < l.length
    · rw [if_pos hj] at e ⊢
      by_cases hkj : k = j
      · subst hkj
        rw [List.getElem?_set_self (by simp; omega), List.getElem?_set_self (by simpa using hj)]
        rfl
      · rw [List.getElem?_set_ne hkj, List.getElem?_set_ne hkj, e]
    · rw [if_neg hj]
      symm
      apply List.getElem?_eq_none
      simp
      omega
theorem RowY.other {w : World} {g g' cap k : Nat} {l : List UInt8} {u : Value} (h : RowY w g cap l) (hne : g ≠ g') : RowY (w.setCell ⟨g', k, none⟩ u) g cap l := by
  obtain ⟨cur, h1, h2⟩ := h
  exact ⟨cur, (Below.heap_setCell w ⟨g', k, none⟩ u g hne).trans h1, h2⟩
theorem RowY.drew {w : World} {g cap : Nat} {l : List UInt8} (h : RowY w g cap l) : RowY w.drew g cap l := h
theorem RowY.drawn {w : World} {g cap : Nat} {l : List UInt8} (h : RowY w g cap l) (n : Nat) : RowY (w.drewN n) g cap l := h
theorem RowY.br {w : World} {g cap : Nat} {l : List UInt8} (h : RowY w g cap l) : BR w w.heap.size (some ⟨g, 0, none⟩) l := by
  refine .inr ⟨_, rfl, h.lt, fun j v hv => ?_⟩
  have hj : j < l.length := by
    have := (List.getElem?_eq_some_iff.1 hv).1
    simpa using this
  have e2 : (⟨g, 0, none⟩ : Addr).add j = ⟨g, j, none⟩ := by by_cases h : j = 0 <;> simp [Addr.add, h]
  rw [e2, h.cell j hj, ← hv]
  simp [bv, hj]
theorem Own.row {w : World} {base : Nat} {v : Value} {l : List UInt8} (h : Own w base v l) (hl : 0 < l.length) : ∃ g cap, v = .slice (some ⟨g, 0, none⟩) l.length cap ∧ base ≤ g ∧ RowY w g cap l := by
  rcases h.2 with ⟨rfl, hn⟩ | ⟨g, cap, cur, rfl, hb, hg, h1, h2, h3, h4⟩
  · omega
  · refine ⟨g, cap, rfl, hb, cur, hg, h1, h2, ?_, ?_⟩
    · rw [Nat.mul_one] at h3; exact h3
    · rw [Nat.mul_one] at h4; exact h4
theorem RowY.own {w : World} {g cap : Nat} {l : List UInt8} (h : RowY w g cap l) (base : Nat) (hb : base ≤ g) : Own w base (.slice (some ⟨g, 0, none⟩) l.length cap) l := by
  obtain ⟨cur, h1, h2, h3, h4, h5⟩ := h
  refine ⟨by simp, .inr ⟨g, cap, cur, rfl, hb, h1, h2, h3, by rw [Nat.mul_one]; exact h4, by rw [Nat.mul_one]; exact h5⟩⟩


theorem run_isnilY (A : Option Addr) (n c : Nat) (w : World) : (binOp .eql 22 (.slice A n c) (.slice none 0 0)).run Try.prog w = .ok (.bool A.isNone) w := by
  simp only [binOp]
  simp [Op.equal, Op.maxDepth, Lib.run_equalIn_slice_nil w 9999 22 5 A n c 0 0 Try.underlying22]
set_option maxRecDepth 100000 in
set_option maxHeartbeats 400000 in
/-- slices.Clone of bytes that are not empty -/
theorem cloneY_any (A : Option Addr) (c : Nat) (l : List UInt8) (B : Nat) (w : World) (hl0 : 0 < l.length) (hl : l.length ≤ 300000) (hB : B ≤ w.heap.size) (h : BR w B A l) :
    Calls Try.prog 25 #[.slice A l.length c] w fun e w' => ∃ g cap, e = .returned (.slice (some ⟨g, 0, none⟩) l.length cap) ∧ w.heap.size ≤ g ∧ RowY w' g cap l ∧ Below w.heap.size w w' := by
  obtain ⟨ad, rfl, had, hc0⟩ := h.get 0 hl0
  have hq := fun (n c : Nat) (w : World) => run_isnilY (some ad) n c w
  have h2 : BR (w.alloc (.cells #[] 5)) w.heap.size (some ad) l := (h.lift hB).below ((Below.refl _ _).alloc (Nat.le_refl _) _)
  go_enter Try.func25, Try.ntmps25
  go_wp2_with (first | (at_builtin; refine wpList_app _ rfl (.tmp 5) (.tmp 6) 22 5 1 1 rfl elem8 w.heap.size _ 0 [] rfl (World.ownsRow_lit (e := 5) (size := 1) w #[] 0 (Nat.le_refl _) (by simp [maxLen]) rfl) w.heap.size (some ad) l.length c (l.map bv) rfl (by simp) h2 (bv_one _) (by unfold maxLen; omega) (by omega) (by simp) ?_; intro v2 w2 hown2 hgrow2 hat2) | fail)
  go_ret
  have ho : Own w2 w.heap.size v2 l := by
    have := Own.of (a := []) hown2 rfl
    simpa using this
  obtain ⟨g, cap, rfl, hg, hr⟩ := ho.row hl0
  exact ⟨g, cap, rfl, hg, hr, ((Below.refl _ _).alloc (Nat.le_refl _) _).grown hgrow2 (by simp) (fun k hk => Nat.le_of_eq (by injection hk))⟩
set_option maxRecDepth 100000 in
set_option maxHeartbeats 400000 in
/-- slices.Clone of any numbers -/
theorem cloneO_any (A : Option Addr) (c : Nat) (l : List Int) (B : Nat) (w : World) (hA : A = none → c = 0) (hl : l.length ≤ 2000) (hB : B ≤ w.heap.size) (h : IR w B A l) :
    Calls Try.prog 35 #[.slice A l.length c] w fun e w' => ∃ v, e = .returned v ∧ OwnI w' w.heap.size v l ∧ Below w.heap.size w w' := by
  rcases A with _ | ad
  · have hl0 : l = [] := by
      rcases h with e | ⟨ad, e, _⟩
      · exact List.map_eq_nil_iff.1 e
      · cases e
    subst hl0
    have hq := fun (n c : Nat) (w : World) => run_isnil none n c w
    go_enter Try.func35, Try.ntmps35
    go_wp2
    go_ret
    exact ⟨_, rfl, OwnI.nil _ _, Below.refl _ _⟩
  · have hq := fun (n c : Nat) (w : World) => run_isnil (some ad) n c w
    have h2 : IR (w.alloc (.cells #[] 3)) w.heap.size (some ad) l := (h.lift hB).below ((Below.refl _ _).alloc (Nat.le_refl _) _)
    go_enter Try.func35, Try.ntmps35
    go_wp2_with (first | (at_builtin; refine wpList_app _ rfl (.tmp 5) (.tmp 6) 30 3 1 8 rfl elemI w.heap.size _ 0 [] rfl (World.ownsRow_lit (e := 3) (size := 1) w #[] 0 (Nat.le_refl _) (by simp [maxLen]) rfl) w.heap.size (some ad) l.length c (l.map iv) rfl (by simp) h2 (iv_one _) (by unfold maxLen; omega) (by omega) (by simp) ?_; intro v2 w2 hown2 hgrow2 hat2) | fail)
    go_ret
    have ho : OwnI w2 w.heap.size v2 l := by
      have := OwnI.of (a := []) hown2 rfl
      simpa using this
    exact ⟨_, rfl, ho, ((Below.refl _ _).alloc (Nat.le_refl _) _).grown hgrow2 (by simp) (fun k hk => Nat.le_of_eq (by injection hk))⟩
end Go.Proofs.Ythcijelebjgfkaa
