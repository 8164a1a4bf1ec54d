/- bytes.Clone, and bytes with their capacity. -/
import Derived.Test.YthcijelebjgfkaaPgDec2
namespace Go.Proofs.Ythcijelebjgfkaa
open Go.RowKit

theorem Own.form2 {w : World} {base : Nat} {v : Value} {l : List UInt8} (h : Own w base v l) (hl : 0 < l.length) : ∃ g c, v = .slice (some ⟨g, 0, none⟩) l.length c ∧ l.length ≤ c ∧ c ≤ maxLen ∧ base ≤ g ∧ RowY w g c l := by
  obtain ⟨g, c, e, hb, hr⟩ := h.row hl
  have hr2 := hr
  obtain ⟨cur, h1, h2, h3, h4, h5⟩ := hr
  exact ⟨g, c, e, h2, h3, hb, hr2⟩
set_option maxRecDepth 100000 in
set_option maxHeartbeats 400000 in
/-- bytes.Clone of bytes that are not empty -/
theorem bclone_any (A : Option Addr) (c : Nat) (l : List UInt8) (B : Nat) (w : World) (hl0 : 0 < l.length) (hl : l.length ≤ 300000) (hB : B ≤ w.heap.size) (h : BR w B A l) :
    Calls Try.prog 23 #[.slice A l.length c] w fun e w' => ∃ v, e = .returned v ∧ Own w' w.heap.size v l ∧ Below w.heap.size w w' := by
  obtain ⟨ad, rfl, had, hc0⟩ := h.get 0 hl0
  have hq := fun (n c : Nat) (w : World) => run_isnilY (some ad) n c w
  have h2 : BR (w.alloc (.cells #[] 5)) w.heap.size (some ad) l := (h.lift hB).below ((Below.refl _ _).alloc (Nat.le_refl _) _)
  go_enter Try.func23, Try.ntmps23
  go_wp2_with (first | (at_builtin; refine wpList_app _ rfl (.tmp 5) (.tmp 6) 22 5 1 1 rfl elem8 w.heap.size _ 0 [] rfl (World.ownsRow_lit (e := 5) (size := 1) w #[] 0 (Nat.le_refl _) (by simp [maxLen]) rfl) w.heap.size (some ad) l.length c (l.map bv) rfl (by simp) h2 (bv_one _) (by unfold maxLen; omega) (by omega) (by simp) ?_; intro v2 w2 hown2 hgrow2 hat2) | fail)
  go_ret
  have ho : Own w2 w.heap.size v2 l := by
    have := Own.of (a := []) hown2 rfl
    simpa using this
  exact ⟨_, rfl, ho, ((Below.refl _ _).alloc (Nat.le_refl _) _).grown hgrow2 (by simp) (fun k hk => Nat.le_of_eq (by injection hk))⟩
end Go.Proofs.Ythcijelebjgfkaa
