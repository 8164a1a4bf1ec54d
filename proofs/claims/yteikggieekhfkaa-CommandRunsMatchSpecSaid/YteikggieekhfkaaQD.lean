/- rows of bodies whose outer row is new, the bodies where they were: what a copy of them is. -/
import Derived.Test.YteikggieekhfkaaQRow
namespace Go.Proofs.Yteikggieekhfkaa
open Go.RowKit

theorem QC.next {w w' : World} {B : Nat} {A : Option Addr} {q : List (List UInt8)} (h : QC w w B A q) (hb : Below w.heap.size w w') (hB : B ≤ w.heap.size) : QC w' w' B A q := by
  obtain ⟨ds, h1, h2, h3⟩ := h
  exact ⟨ds, h1, (h2.below hb).lift hb.size, fun i hi hi' => ⟨(h3 i hi hi').1, (h3 i hi hi').2.below (hb.mono hB)⟩⟩
theorem QC.of {w : World} {B : Nat} {A : Option Addr} {q : List (List UInt8)} (h : QR w B A q) (hB : B ≤ w.heap.size) : QC w w B A q := by
  obtain ⟨ds, h1, h2, h3⟩ := h
  exact ⟨ds, h1, h2.lift hB, h3⟩
theorem QC.nil {w w' : World} {B : Nat} {A : Option Addr} : QC w w' B A [] := ⟨[], rfl, .inl rfl, fun i hi => by simp at hi⟩
theorem QC.drop {w : World} {B : Nat} {ad : Addr} {q : List (List UInt8)} (h : QC w w B (some ad) q) (n : Nat) (hn : n < q.length) : QC w w B (some (ad.add n)) (q.drop n) := by
  obtain ⟨ds, h1, h2, h3⟩ := h
  refine ⟨ds.drop n, by simp; omega, ?_, fun i hi hi' => ?_⟩
  · obtain ⟨ad', e, h4⟩ := Cells.tail h2 n (by rw [rcells_len Bd.one]; omega)
    obtain rfl : ad = ad' := by injection e
    unfold SR
    rw [rcells_one] at h4 ⊢
    rw [List.map_drop]
    exact h4
  · simp only [List.getElem_drop]
    simp at hi hi'
    exact h3 (n + i) (by omega) (by omega)
theorem QC.rest {w : World} {B : Nat} {ad : Addr} {q : List (List UInt8)} {D c : Nat} (h : QC w w B (some ad) q) (hD : D ≤ q.length) (hc : q.length ≤ c) : QC w w B (if c = D then some ad else some (ad.add D)) (q.drop D) := by
  by_cases e : D < q.length
  · rw [if_neg (by omega)]
    exact h.drop D e
  · rw [List.drop_of_length_le (by omega)]
    exact QC.nil
set_option maxRecDepth 100000 in
set_option maxHeartbeats 400000 in
theorem cloneQD_any (A : Option Addr) (n c : Nat) (q : List (List UInt8)) (B : Nat) (w : World) (hn : n = q.length) (hl : q.length ≤ 100000) (h : QC w w B A q) :
    Calls Try.prog 93 #[.slice A n c] w fun e w' => ∃ A' c', e = .returned (.slice A' n c') ∧ QC w w' B A' q ∧ n ≤ c' ∧ (A' = none → c' = 0) ∧ (∀ ad, A' = some ad → w.heap.size ≤ ad.block) ∧ Below w.heap.size w w' := by
  cases A with
  | none =>
    have hq0 : q = [] := by
      obtain ⟨ds, h1, h2, -⟩ := h
      rcases h2 with e | ⟨ad, e, _⟩
      · have := rcells_len Bd.one ds
        rw [e] at this
        simp at this
        exact List.eq_nil_of_length_eq_zero (by omega)
      · cases e
    subst hq0
    obtain rfl : n = 0 := hn
    have hq := fun (n c : Nat) (w : World) => run_isnilQ none n c w
    go_enter Try.func93, Try.ntmps93
    go_wp2
    go_ret
    exact ⟨none, 0, rfl, QC.nil, Nat.le_refl _, fun _ => rfl, (fun ad e => by cases e), Below.refl _ _⟩
  | some ad =>
    obtain ⟨ds, h1, h2, h3⟩ := h
    have hq := fun (n c : Nat) (w : World) => run_isnilQ (some ad) n c w
    have hb0 : Below w.heap.size w (w.alloc (.cells #[] 24)) := (Below.refl _ _).alloc (Nat.le_refl _) _
    have g2 : Cells (w.alloc (.cells #[] 24)) w.heap.size (some ad) (rcells Bd.cells ds) := h2.below hb0
    have hnd : n = ds.length := by omega
    have H3 := Lib.hid h3
    clear h2 h3 hn
    have hd : ds.length ≤ 100000 := by omega
    have HN := Lib.hid hnd
    have HQ := Lib.hid h1
    clear hnd h1
    go_enter Try.func93, Try.ntmps93
    go_wp2_with (first | (at_builtin; refine wpList_app _ rfl (.tmp 5) (.tmp 6) 39 24 1 24 rfl elemQ w.heap.size _ 0 [] rfl (World.ownsRow_lit (e := 24) (size := 1) w #[] 0 (Nat.le_refl _) (by simp [maxLen]) rfl) w.heap.size (some ad) n c (rcells Bd.cells ds) rfl (by rw [rcells_len Bd.one, HN.out]) g2 (ds_one _) (by have := HN.out; unfold maxLen; omega) (by have := HN.out; omega) (by simp) ?_; intro v2 w2 hown2 hgrow2 hat2) | fail)
    go_ret
    have hb2 : Below w.heap.size w w2 := hb0.grown hgrow2 (by simp) (fun k hk => Nat.le_of_eq (by injection hk))
    obtain ⟨A', c', rfl, hc, hle, hnone, hfresh⟩ := row_form hown2
    rw [Nat.zero_add] at hle ⊢
    exact ⟨A', c', rfl, ⟨ds, HQ.out, hc, H3.out⟩, hle, hnone, hfresh, hb2⟩
end Go.Proofs.Yteikggieekhfkaa
