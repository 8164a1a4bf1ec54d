/- the closure of spreading: the next number in groups. -/
import Derived.Test.YtdcnpbdkhcdinaaSpC
namespace Go.Proofs.Ytdcnpbdkhcdinaa
open Go.RowKit

theorem row_form {w : World} {base : Nat} {e : TypeId} {size : Nat} {v : Value} {n : Nat} {xs : List Value} (h : w.ownsRow base e size v n xs) :
    ∃ A c, v = .slice A n c ∧ Cells w w.heap.size A xs ∧ n ≤ c ∧ (A = none → c = 0) ∧ ∀ ad, A = some ad → base ≤ ad.block := by
  have hh := h
  have h1 := h.1
  rcases hh.2 with ⟨rfl, hn⟩ | ⟨g, cap, cur, rfl, hb, hg, hnc, _⟩
  · subst hn
    refine ⟨none, 0, rfl, .inl (List.eq_nil_of_length_eq_zero (by simpa using h1)), Nat.le_refl _, fun _ => rfl, fun ad q => by cases q⟩
  · refine ⟨_, cap, rfl, .inr ⟨_, rfl, (h.lt g rfl).2, fun j u hu => World.ownsRow.cells h (g := g) rfl j u hu⟩, hnc, (fun q => by cases q), fun ad q => ?_⟩
    injection q with q
    subst q
    exact hb
/-- bytes of the call's own: where they lie, how much room they have -/
theorem Own.form5 {w : World} {base : Nat} {v : Value} {l : List UInt8} (h : Own w base v l) : ∃ A c, v = .slice A l.length c ∧ BR w w.heap.size A l ∧ (∀ ad, A = some ad → base ≤ ad.block) ∧ l.length ≤ c ∧ c ≤ maxLen := by
  obtain ⟨A, c, hv, hc, hle, hn, hb⟩ := row_form h
  refine ⟨A, c, hv, hc, hb, hle, ?_⟩
  rcases h.2 with ⟨e, -⟩ | ⟨g, cap, cur, e, -, -, -, hm, -⟩
  · rw [hv] at e; injection e with _ _ e; rw [e]; simp [maxLen]
  · rw [hv] at e; injection e with _ _ e; rw [e]; exact hm
theorem heap_newB (w : World) (o : Obj) : (w.alloc o).heap[w.heap.size]? = some o := by
  show (w.heap.push _)[w.heap.size]? = _
  simp
theorem BR.other {w : World} {B g k : Nat} {A : Option Addr} {l : List UInt8} {u : Value} (h : BR w B A l) (hA : ∀ ad, A = some ad → ad.block ≠ g) : BR (w.setCell ⟨g, k, none⟩ u) B A l := by
  rcases h with e | ⟨ad, e, hl, hc⟩
  · exact .inl e
  · refine .inr ⟨ad, e, hl, fun j v hv => ?_⟩
    have hb := hA ad e
    rw [← hc j v hv]
    exact World.cell?_of_block (w := w) (Below.heap_setCell w ⟨g, k, none⟩ u _ (by rw [add_block]; exact hb))
theorem OwnI.form9 {w : World} {base : Nat} {v : Value} {l : List Int} (h : OwnI w base v l) : ∃ A c, v = .slice A l.length c ∧ IR w w.heap.size A l ∧ l.length ≤ c := by
  have hh := h
  rcases hh.2 with ⟨rfl, hn⟩ | ⟨g, cap, cur, rfl, hb, hg, hnc, _⟩
  · have e : l = [] := List.eq_nil_of_length_eq_zero hn
    subst e
    exact ⟨none, 0, rfl, .inl rfl, Nat.le_refl _⟩
  · exact ⟨_, cap, rfl, .inr ⟨_, rfl, (World.ownsRow.lt h g rfl).2, fun j u hu => World.ownsRow.cells h (g := g) rfl j u hu⟩, hnc⟩
theorem OwnI.box {w : World} {base p k : Nat} {v u : Value} {l : List Int} (h : OwnI w base v l) (hp : p < base) : OwnI (w.setCell ⟨p, k, none⟩ u) base v l := by
  refine ⟨h.1, ?_⟩
  rcases h.2 with e | ⟨g, cap, cur, e, hg, hh, r⟩
  · exact .inl e
  · exact .inr ⟨g, cap, cur, e, hg, (Below.heap_setCell w ⟨p, k, none⟩ u g (by show g ≠ p; omega)).trans hh, r⟩
/-- a box with bytes -/
def BoxB (w : World) (P : Nat) (v : Value) : Prop := w.heap[P]? = some (.cells #[v] 23 (0, 0))
theorem BoxB.cell {w : World} {P : Nat} {v : Value} (h : BoxB w P v) : w.cell? ⟨P, 0, none⟩ = some v := by
  unfold BoxB at h
  simp [World.cell?, h]
theorem BoxB.free {w : World} {P : Nat} {v : Value} (h : BoxB w P v) : w.frozen? ⟨P, 0, none⟩ = false := by
  unfold BoxB at h
  simp [World.frozen?, h]
theorem BoxB.lt {w : World} {P : Nat} {v : Value} (h : BoxB w P v) : P < w.heap.size := by
  unfold BoxB at h
  exact (Array.getElem?_eq_some_iff.1 h).1
theorem BoxB.below {w w' : World} {B P : Nat} {v : Value} (h : BoxB w P v) (hb : Below B w w') (hP : P < B) : BoxB w' P v := (hb.block P hP).trans h
theorem BoxB.set {w : World} {P : Nat} {v : Value} (u : Value) (h : BoxB w P v) : BoxB (w.setCell ⟨P, 0, none⟩ u) P u := by
  have hlt := h.lt
  have h' : w.heap[P] = .cells #[v] 23 (0, 0) := by unfold BoxB at h; simpa [Array.getElem?_eq_getElem hlt] using h
  unfold BoxB
  simp only [World.setCell]
  rw [Array.getElem?_eq_getElem (by simpa using hlt), Array.getElem_modify_self, h']
  simp
theorem rest_row {w : World} {B : Nat} {ad : Addr} {b : List UInt8} {c u : Nat} (h : BR w B (some ad) b) (hu : u ≤ b.length) (hc : b.length ≤ c) : BR w B (if c = u then some ad else some (ad.add u)) (b.drop u) := by
  by_cases e : u < b.length
  · rw [if_neg (by omega)]
    obtain ⟨ad', e', h'⟩ := BR.tail h u e
    injection e' with e'
    subst e'
    exact h'
  · rw [List.drop_of_length_le (by omega)]
    exact .inl rfl
set_option maxRecDepth 100000 in
set_option maxHeartbeats 1000000 in
theorem num_any (P : Nat) (ad : Addr) (b : List UInt8) (c B : Nat) (w : World) (hbl : b.length ≤ 9223372036854775807) (hbc : b.length ≤ c) (h : BR w B (some ad) b) (hP : BoxB w P (.slice (some ad) b.length c)) :
    Calls Try.prog 71 #[.pointer (some ⟨P, 0, none⟩)] w fun e w' => e = .returned (.tuple #[.int .i64 ((unG 5 b).1 : Int), .bool (decide (0 < (unG 5 b).2))]) ∧ w' = w.setCell ⟨P, 0, none⟩ (.slice (if c = (unG 5 b).2 then some ad else some (ad.add (unG 5 b).2)) (b.length - (unG 5 b).2) (c - (unG 5 b).2)) := by
  have HR := Lib.hid (readg_any (some ad) b c B w hbl hbc h)
  obtain ⟨h1, h2, h3⟩ := unG_le 5 b
  generalize unG 5 b = p at *
  obtain ⟨n, u⟩ := p
  simp only at HR h1 h2 h3 ⊢
  have c0 := hP.cell
  have f0 := hP.free
  have hl := hP.lt
  have huc : u ≤ c := by omega
  clear h
  go_enter Try.func71, Try.ntmps71
  go_wp2_with fail
  refine HR.out.mono ?_
  rintro e w' ⟨rfl, rfl⟩
  go_wp2_with fail
  all_goals
    go_ret2
    simp_all
end Go.Proofs.Ytdcnpbdkhcdinaa
