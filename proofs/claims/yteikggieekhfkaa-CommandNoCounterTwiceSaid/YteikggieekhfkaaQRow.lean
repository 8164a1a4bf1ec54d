/- rows of bodies of the call's own; slices.Clone of bodies. -/
import Derived.Test.YteikggieekhfkaaHrdMath
import Derived.WalkSpells
namespace Go.Proofs.Yteikggieekhfkaa
open Go.RowKit

/-- a copy's outer row, the bodies where they were -/
def QC (w w' : World) (B : Nat) (A : Option Addr) (q : List (List UInt8)) : Prop :=
  ∃ ds : List Bd, ds.length = q.length ∧ SR Bd.cells w' w'.heap.size A ds ∧ ∀ (i : Nat) (h : i < q.length) (h' : i < ds.length), ds[i].n = q[i].length ∧ BR w B ds[i].A q[i]
theorem QC.qr {w w' : World} {B : Nat} {A : Option Addr} {q : List (List UInt8)} (h : QC w w' B A q) (hb : Below B w w') (hB : B ≤ w'.heap.size) : QR w' w'.heap.size A q := by
  obtain ⟨ds, h1, h2, h3⟩ := h
  exact ⟨ds, h1, h2, fun i hi hi' => ⟨(h3 i hi hi').1, ((h3 i hi hi').2.below hb).lift hB⟩⟩
theorem SR.other {α : Type} {f : α → List Value} {w : World} {B g k : Nat} {A : Option Addr} {l : List α} {u : Value} (h : SR f w B A l) (hA : ∀ ad, A = some ad → ad.block ≠ g) : SR f (w.setCell ⟨g, k, none⟩ u) B A l := by
  rcases h with e | ⟨ad, e, hl, hc⟩
  · exact .inl e
  · refine .inr ⟨ad, e, hl, fun j v hv => ?_⟩
    have hb := hA ad e
    rw [← hc j v hv]
    exact World.cell?_of_block (w := w) (Below.heap_setCell w ⟨g, k, none⟩ u _ (by rw [add_block]; exact hb))
theorem QC.other {w w' : World} {B g k : Nat} {A : Option Addr} {q : List (List UInt8)} {u : Value} (h : QC w w' B A q) (hA : ∀ ad, A = some ad → ad.block ≠ g) : QC w (w'.setCell ⟨g, k, none⟩ u) B A q := by
  obtain ⟨ds, h1, h2, h3⟩ := h
  exact ⟨ds, h1, (h2.other hA).lift (by simp), h3⟩
theorem row_form {w : World} {base : Nat} {e : TypeId} {size : Nat} {v : Value} {n : Nat} {xs : List Value} (h : w.ownsRow base e size v n xs) :
    ∃ A c, v = .slice A n c ∧ Cells w w.heap.size A xs ∧ n ≤ c ∧ (A = none → c = 0) ∧ ∀ ad, A = some ad → base ≤ ad.block := by
  have hh := h
  have h1 := h.1
  rcases hh.2 with ⟨rfl, hn⟩ | ⟨g, cap, cur, rfl, hb, hg, hnc, _⟩
  · subst hn
    refine ⟨none, 0, rfl, .inl (List.eq_nil_of_length_eq_zero (by simpa using h1)), Nat.le_refl _, fun _ => rfl, fun ad q => by cases q⟩
  · refine ⟨_, cap, rfl, .inr ⟨_, rfl, (h.lt g rfl).2, fun j u hu => World.ownsRow.cells h (g := g) rfl j u hu⟩, hnc, (fun q => by cases q), fun ad q => ?_⟩
    injection q with q
    subst q
    exact hb
theorem info24 : (Try.prog.info? 24).map (fun i => (i.zero, i.size, i.bytes)) = some (some (.slice none 0 0), 1, 24) := by kernel_rfl
theorem elemQ : Elem 39 24 1 24 := by
  obtain ⟨i, h1, h2, h3, h4⟩ := info_parts info24
  exact ⟨Try.underlying39, i, _, h1, h2, h3, h4, rfl, by omega⟩
theorem ds_one (ds : List Bd) : ∀ u ∈ rcells Bd.cells ds, u.oneCell' = true := by
  rw [rcells_one]
  intro u hu
  obtain ⟨x, _, rfl⟩ := List.mem_map.1 hu
  rfl
theorem run_isnilQ (A : Option Addr) (n c : Nat) (w : World) : (binOp .eql 39 (.slice A n c) (.slice none 0 0)).run Try.prog w = .ok (.bool A.isNone) w := by
  simp only [binOp]
  simp [Op.equal, Op.maxDepth, Lib.run_equalIn_slice_nil w 9999 39 24 A n c 0 0 Try.underlying39]
set_option maxRecDepth 100000 in
set_option maxHeartbeats 400000 in
theorem cloneQ_any (A : Option Addr) (n c : Nat) (q : List (List UInt8)) (B : Nat) (w : World) (hn : n = q.length) (hl : q.length ≤ 100000) (hB : B ≤ w.heap.size) (h : QR w B A q) :
    Calls Try.prog 93 #[.slice A n c] w fun e w' => ∃ A' c', e = .returned (.slice A' n c') ∧ QC w w' B A' q ∧ n ≤ c' ∧ (A' = none → c' = 0) ∧ (∀ ad, A' = some ad → w.heap.size ≤ ad.block) ∧ Below w.heap.size w w' := by
  cases A with
  | none =>
    have hq0 : q = [] := by
      obtain ⟨ds, h1, h2, -⟩ := h
      rcases h2 with e | ⟨ad, e, _⟩
      · have := rcells_len Bd.one ds
        rw [e] at this
        simp at this
        exact List.eq_nil_of_length_eq_zero (by omega)
      · cases e
    subst hq0
    obtain rfl : n = 0 := hn
    have hq := fun (n c : Nat) (w : World) => run_isnilQ none n c w
    go_enter Try.func93, Try.ntmps93
    go_wp2
    go_ret
    exact ⟨none, 0, rfl, ⟨[], rfl, .inl rfl, fun i hi => by simp at hi⟩, Nat.le_refl _, fun _ => rfl, (fun ad e => by cases e), Below.refl _ _⟩
  | some ad =>
    obtain ⟨ds, h1, h2, h3⟩ := h
    have hq := fun (n c : Nat) (w : World) => run_isnilQ (some ad) n c w
    have hb0 : Below w.heap.size w (w.alloc (.cells #[] 24)) := (Below.refl _ _).alloc (Nat.le_refl _) _
    have g2 : Cells (w.alloc (.cells #[] 24)) w.heap.size (some ad) (rcells Bd.cells ds) := (h2.lift hB).below hb0
    have hnd : n = ds.length := by omega
    have H3 := Lib.hid h3
    clear h2 h3 hn
    have hd : ds.length ≤ 100000 := by omega
    have HN := Lib.hid hnd
    have HQ := Lib.hid h1
    clear hnd h1
    go_enter Try.func93, Try.ntmps93
    go_wp2_with (first | (at_builtin; refine wpList_app _ rfl (.tmp 5) (.tmp 6) 39 24 1 24 rfl elemQ w.heap.size _ 0 [] rfl (World.ownsRow_lit (e := 24) (size := 1) w #[] 0 (Nat.le_refl _) (by simp [maxLen]) rfl) w.heap.size (some ad) n c (rcells Bd.cells ds) rfl (by rw [rcells_len Bd.one, HN.out]) g2 (ds_one _) (by have := HN.out; unfold maxLen; omega) (by have := HN.out; omega) (by simp) ?_; intro v2 w2 hown2 hgrow2 hat2) | fail)
    go_ret
    have hb2 : Below w.heap.size w w2 := hb0.grown hgrow2 (by simp) (fun k hk => Nat.le_of_eq (by injection hk))
    obtain ⟨A', c', rfl, hc, hle, hnone, hfresh⟩ := row_form hown2
    rw [Nat.zero_add] at hle ⊢
    exact ⟨A', c', rfl, ⟨ds, HQ.out, hc, H3.out⟩, hle, hnone, hfresh, hb2⟩
end Go.Proofs.Yteikggieekhfkaa
