/- words for memory of scrubs: rows of what was done, the scrubber's own cells, what is kept. -/
import Derived.Test.YtpccpkjfnmclfaaBase
import Derived.Test.YtpccpkjfnmclfaaWritten
namespace Go.Proofs.Ytpccpkjfnmclfaa
open Go.RowKit

def Scr.cells (x : Scr) : List Value := [.int .i64 (x.t : Int), .int .i64 (x.p : Int), .int .i64 (x.k : Int), .int .i64 (x.b : Int)]
def scells (l : List Scr) : List Value := l.flatMap Scr.cells
theorem scells_len (l : List Scr) : (scells l).length = l.length * 4 := by
  induction l with
  | nil => rfl
  | cons x l ih => simp only [scells, List.flatMap_cons, List.length_append] at ih ⊢; rw [ih]; simp [Scr.cells]; omega
theorem scells_get : ∀ (l : List Scr) (k j : Nat) (hk : k < l.length) (_ : j < 4), (scells l)[k * 4 + j]? = (l[k].cells)[j]?
  | x :: l, 0, j, hk, hj => by
    simp only [scells, List.flatMap_cons, List.getElem_cons_zero, Nat.zero_mul, Nat.zero_add]
    rw [List.getElem?_append_left (by simp [Scr.cells]; omega)]
  | x :: l, k + 1, j, hk, hj => by
    have := scells_get l k j (by simpa using hk) hj
    simp only [scells, List.flatMap_cons, List.getElem_cons_succ] at this ⊢
    rw [List.getElem?_append_right (by simp [Scr.cells]; omega), ← this]
    congr 1
    simp [Scr.cells]
    omega
/-- at A, below block B, lies what was done -/
def SR (w : World) (B : Nat) (A : Option Addr) (l : List Scr) : Prop := Cells w B A (scells l)
theorem SR.below {w w' : World} {B : Nat} {A : Option Addr} {l : List Scr} (h : SR w B A l) (hb : Below B w w') : SR w' B A l := Cells.below h hb
theorem SR.lift {w : World} {B B' : Nat} {A : Option Addr} {l : List Scr} (h : SR w B A l) (hb : B ≤ B') : SR w B' A l := Cells.lift h hb
theorem SR.other {w : World} {B g k : Nat} {A : Option Addr} {l : List Scr} {u : Value} (h : SR w B A l) (hA : ∀ ad, A = some ad → ad.block ≠ g) : SR (w.setCell ⟨g, k, none⟩ u) B A l := by
  rcases h with e | ⟨ad, e, hl, hc⟩
  · exact .inl e
  · refine .inr ⟨ad, e, hl, fun j v hv => ?_⟩
    have hb := hA ad e
    rw [← hc j v hv]
    exact World.cell?_of_block (w := w) (Below.heap_setCell w ⟨g, k, none⟩ u _ (by rw [add_block]; exact hb))
theorem infoS : (Try.prog.info? 126).map (fun i => (i.zero, i.size, i.bytes)) = some (some (.agg #[.int .i64 0, .int .i64 0, .int .i64 0, .int .i64 0]), 4, 32) := by kernel_rfl
theorem elemS : Elem 60 126 4 32 := by
  obtain ⟨i, h1, h2, h3, h4⟩ := info_parts infoS
  exact ⟨Try.underlying60, i, _, h1, h2, h3, h4, rfl, by omega⟩
def OwnS (w : World) (base : Nat) (v : Value) (l : List Scr) : Prop := w.ownsRow base 126 4 v l.length (scells l)
theorem scells_one (l : List Scr) : ∀ u ∈ scells l, u.oneCell' = true := by
  intro u hu
  obtain ⟨m, _, hm⟩ := List.mem_flatMap.1 hu
  simp only [Scr.cells, List.mem_cons, List.not_mem_nil, or_false] at hm
  rcases hm with rfl | rfl | rfl | rfl <;> rfl
theorem OwnS.form {w : World} {base : Nat} {v : Value} {l : List Scr} (h : OwnS w base v l) : ∃ A c, v = .slice A l.length c ∧ SR w w.heap.size A l ∧ ∀ ad, A = some ad → base ≤ ad.block := by
  have hh := h
  rcases hh.2 with ⟨rfl, hn⟩ | ⟨g, cap, cur, rfl, hb, hg, hnc, _⟩
  · rw [hn]
    have e : l = [] := List.eq_nil_of_length_eq_zero hn
    subst e
    exact ⟨none, 0, rfl, .inl rfl, (fun _ q => by cases q)⟩
  · refine ⟨_, cap, rfl, .inr ⟨_, rfl, ?_, fun j u hu => World.ownsRow.cells h (g := g) rfl j u hu⟩, fun ad q => ?_⟩
    · exact (h.lt g rfl).2
    · injection q with q
      subst q
      exact hb
theorem OwnS.nil (w : World) (base : Nat) : OwnS w base (.slice none 0 0) [] := w.ownsRow_nil base 126 4
theorem OwnS.of {w : World} {base m : Nat} {v : Value} {a b : List Scr} (h : w.ownsRow base 126 4 v (a.length + m) (scells a ++ scells b)) (hm : m = b.length) : OwnS w base v (a ++ b) := by
  subst hm
  unfold OwnS
  rw [List.length_append]
  have e : scells (a ++ b) = scells a ++ scells b := by unfold scells; rw [List.flatMap_append]
  rw [e]
  exact h
theorem OwnS.lower {w : World} {base base' : Nat} {v : Value} {l : List Scr} (h : OwnS w base v l) (hb : base' ≤ base) : OwnS w base' v l := by
  refine ⟨h.1, ?_⟩
  rcases h.2 with e | ⟨g, cap, cur, e, hg, r⟩
  · exact .inl e
  · exact .inr ⟨g, cap, cur, e, by omega, r⟩
theorem OwnS.same {w w' : World} {base : Nat} {v : Value} {l : List Scr} (h : OwnS w base v l) (hk : ∀ k, base ≤ k → k < w.heap.size → w'.heap[k]? = w.heap[k]?) : OwnS w' base v l := by
  refine ⟨h.1, ?_⟩
  rcases h.2 with e | ⟨g, cap, cur, e, hg, hh, r⟩
  · exact .inl e
  · exact .inr ⟨g, cap, cur, e, hg, (hk g hg (Array.getElem?_eq_some_iff.1 hh).1).trans hh, r⟩
theorem OwnS.other {w : World} {base p k : Nat} {v u : Value} {l : List Scr} (h : OwnS w base v l) (hp : p < base) : OwnS (w.setCell ⟨p, k, none⟩ u) base v l :=
  h.same fun j hj _ => Below.heap_setCell w ⟨p, k, none⟩ u j (by show j ≠ p; omega)
theorem OwnS.drew {w : World} {base : Nat} {v : Value} {l : List Scr} (h : OwnS w base v l) : OwnS w.drew base v l := h
theorem OwnS.drawn {w : World} {base : Nat} {v : Value} {l : List Scr} (h : OwnS w base v l) (n : Nat) : OwnS (w.drewN n) base v l := h

/-- block P holds a scrubber -/
def HeldS (w : World) (P : Nat) (x y z : Value) : Prop := w.heap[P]? = some (.cells #[x, y, z] 99 (0, 0))
theorem HeldS.lt {w : World} {b : Nat} {x y z : Value} (h : HeldS w b x y z) : b < w.heap.size := (Array.getElem?_eq_some_iff.1 h).1
theorem HeldS.cells {w : World} {b : Nat} {x y z : Value} (h : HeldS w b x y z) : w.cell? ⟨b, 0, none⟩ = some x ∧ w.cell? ⟨b, 1, none⟩ = some y ∧ w.cell? ⟨b, 2, none⟩ = some z := by
  unfold HeldS at h
  exact ⟨by simp [World.cell?, h], by simp [World.cell?, h], by simp [World.cell?, h]⟩
theorem HeldS.free {w : World} {b : Nat} {x y z : Value} (h : HeldS w b x y z) (k : Nat) : w.frozen? ⟨b, k, none⟩ = false := by
  unfold HeldS at h
  simp [World.frozen?, h]
theorem HeldS.below {w w' : World} {b B : Nat} {x y z : Value} (h : HeldS w b x y z) (hb : Below B w w') (hp : b < B) : HeldS w' b x y z := (hb.block b hp).trans h
theorem HeldS.same {w w' : World} {b : Nat} {x y z : Value} (h : HeldS w b x y z) (hb : w'.heap[b]? = w.heap[b]?) : HeldS w' b x y z := hb.trans h
theorem HeldS.other {w : World} {b g k : Nat} {x y z u : Value} (h : HeldS w b x y z) (hne : b ≠ g) : HeldS (w.setCell ⟨g, k, none⟩ u) b x y z := (Below.heap_setCell w ⟨g, k, none⟩ u b hne).trans h
theorem HeldS.drew {w : World} {b : Nat} {x y z : Value} (h : HeldS w b x y z) : HeldS w.drew b x y z := h
theorem HeldS.drawn {w : World} {b : Nat} {x y z : Value} (h : HeldS w b x y z) (n : Nat) : HeldS (w.drewN n) b x y z := h
theorem HeldS.new (w : World) (x y z : Value) : HeldS (w.alloc (.cells #[x, y, z] 99)) w.heap.size x y z := heap_alloc_new w _
theorem HeldS.set1 {w : World} {b : Nat} {x y z : Value} (h : HeldS w b x y z) (u : Value) : HeldS (w.setCell ⟨b, 1, none⟩ u) b x u z := by
  have hlt := h.lt
  have h' : w.heap[b] = .cells #[x, y, z] 99 (0, 0) := by unfold HeldS at h; simpa [Array.getElem?_eq_getElem hlt] using h
  unfold HeldS
  simp only [World.setCell]
  rw [Array.getElem?_eq_getElem (by simpa using hlt), Array.getElem_modify_self, h']
  rfl
theorem HeldS.set2 {w : World} {b : Nat} {x y z : Value} (h : HeldS w b x y z) (u : Value) : HeldS (w.setCell ⟨b, 2, none⟩ u) b x y u := by
  have hlt := h.lt
  have h' : w.heap[b] = .cells #[x, y, z] 99 (0, 0) := by unfold HeldS at h; simpa [Array.getElem?_eq_getElem hlt] using h
  unfold HeldS
  simp only [World.setCell]
  rw [Array.getElem?_eq_getElem (by simpa using hlt), Array.getElem_modify_self, h']
  rfl

/-- below block B all but block g is as it was -/
structure Kept (B g : Nat) (w w' : World) : Prop where
  os : w'.os = w.os
  tape : w'.tape = w.tape
  output : w'.output = w.output
  size : w.heap.size ≤ w'.heap.size
  block : ∀ k, k < B → k ≠ g → w'.heap[k]? = w.heap[k]?
theorem Kept.refl (B g : Nat) (w : World) : Kept B g w w := ⟨rfl, rfl, rfl, Nat.le_refl _, fun _ _ _ => rfl⟩
theorem Kept.trans {B g : Nat} {w w' w'' : World} (h : Kept B g w w') (h' : Kept B g w' w'') : Kept B g w w'' :=
  ⟨h'.os.trans h.os, h'.tape.trans h.tape, h'.output.trans h.output, Nat.le_trans h.size h'.size, fun k hk hg => (h'.block k hk hg).trans (h.block k hk hg)⟩
theorem Kept.mono {B B' g : Nat} {w w' : World} (h : Kept B g w w') (hB : B' ≤ B) : Kept B' g w w' := ⟨h.os, h.tape, h.output, h.size, fun k hk hg => h.block k (by omega) hg⟩
theorem Kept.of {B g : Nat} {w w' : World} (h : Below B w w') : Kept B g w w' := ⟨h.os, h.tape, h.output, h.size, fun k hk _ => h.block k hk⟩
theorem Kept.setG {B g k : Nat} {w w' : World} {u : Value} (h : Kept B g w w') : Kept B g w (w'.setCell ⟨g, k, none⟩ u) :=
  h.trans ⟨rfl, rfl, rfl, by simp [World.setCell], fun j _ hj => Below.heap_setCell _ _ _ _ hj⟩
theorem Kept.setHigh {B g p k : Nat} {w w' : World} {u : Value} (h : Kept B g w w') (hp : B ≤ p) : Kept B g w (w'.setCell ⟨p, k, none⟩ u) :=
  h.trans ⟨rfl, rfl, rfl, by simp [World.setCell], fun j hj _ => Below.heap_setCell _ _ _ _ (by show j ≠ p; omega)⟩
theorem Kept.drew {B g : Nat} {w w' : World} (h : Kept B g w w') : Kept B g w w'.drew := ⟨h.os, h.tape, h.output, h.size, h.block⟩
theorem Kept.drawn {B g : Nat} {w w' : World} (h : Kept B g w w') (n : Nat) : Kept B g w (w'.drewN n) := ⟨h.os, h.tape, h.output, h.size, h.block⟩
theorem Kept.alloc {B g : Nat} {w w' : World} (h : Kept B g w w') (hB : B ≤ w'.heap.size) (o : Obj) : Kept B g w (w'.alloc o) := h.trans (Kept.of (((Below.refl _ _).alloc (Nat.le_refl _) o).mono hB))
theorem Kept.grown {B g : Nat} {w w' w'' : World} {row : Option Nat} (h : Kept B g w w') (hg : w'.grownBy w'' row) (hB : B ≤ w'.heap.size) (hr : ∀ k, row = some k → B ≤ k) : Kept B g w w'' :=
  h.trans (Kept.of ((Below.refl B w').grown hg hB hr))
theorem Kept.to {B g : Nat} {w w' : World} (h : Kept B g w w') (hg : g ≤ B) : Below g w w' := ⟨h.os, h.tape, h.output, h.size, fun k hk => h.block k (by omega) (by omega)⟩
theorem Kept.row {B g g2 cap : Nat} {l : List Int} {w w' : World} (h : Kept B g w w') (hr : RowAt w g2 cap l) (h1 : g2 < B) (h2 : g2 ≠ g) : RowAt w' g2 cap l := by
  obtain ⟨cur, a, b⟩ := hr
  exact ⟨cur, (h.block g2 h1 h2).trans a, b⟩
theorem Kept.heldB {B g b : Nat} {x y : Value} {w w' : World} (h : Kept B g w w') (hr : HeldB w b x y) (h1 : b < B) (h2 : b ≠ g) : HeldB w' b x y := (h.block b h1 h2).trans hr
theorem Kept.heldS {B g b : Nat} {x y z : Value} {w w' : World} (h : Kept B g w w') (hr : HeldS w b x y z) (h1 : b < B) (h2 : b ≠ g) : HeldS w' b x y z := (h.block b h1 h2).trans hr
theorem OwnS.next {w w' : World} {g cap : Nat} {v : Value} {l : List Int} (hr : RowAt w g cap l) (hg : w.grownBy w' v.ownBlock) (hv : v.ownBlock ≠ some g) : RowAt w' g cap l := by
  have hlt := hr.lt
  obtain ⟨cur, a, b⟩ := hr
  exact ⟨cur, (hg.block g hlt (fun e => hv e.symm)).trans a, b⟩
end Go.Proofs.Ytpccpkjfnmclfaa
