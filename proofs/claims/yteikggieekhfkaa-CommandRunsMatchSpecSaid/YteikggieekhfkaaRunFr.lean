/- both sides in two blocks, what was taken in a row of the call's own: what stays when other memory changes. -/
import Derived.Test.YteikggieekhfkaaRunMath2
import Derived.Test.YteikggieekhfkaaClBods
import Derived.Test.YteikggieekhfkaaRHrd
namespace Go.Proofs.Yteikggieekhfkaa
open Go.RowKit

theorem OwnC.lt {w : World} {base : Nat} {v : Value} {q : List (List UInt8)} (h : OwnC w base v q) (g : Nat) (hg : v.ownBlock = some g) : base ≤ g ∧ g < w.heap.size := by
  obtain ⟨ds, h1, h2, h3⟩ := h
  exact World.ownsRow.lt h2 g hg
theorem OwnC.frame {w w' : World} {base : Nat} {v : Value} {q : List (List UInt8)} (h : OwnC w base v q) (hk : ∀ g, g < w.heap.size → base ≤ g → w'.heap[g]? = w.heap[g]?) (hz : w.heap.size ≤ w'.heap.size) : OwnC w' base v q := by
  have hlt := fun g => h.lt g
  obtain ⟨ds, h1, h2, h3⟩ := h
  refine ⟨ds, h1, ⟨h2.1, ?_⟩, fun i hi hi' => ?_⟩
  · rcases h2.2 with e | ⟨g, cap, cur, e, hg, hh, r⟩
    · exact .inl e
    · have := hlt g (by rw [e]; rfl)
      exact .inr ⟨g, cap, cur, e, hg, (hk g this.2 hg).trans hh, r⟩
  · obtain ⟨a, b, c⟩ := h3 i hi hi'
    refine ⟨a, ?_, c⟩
    by_cases he : q[i] = []
    · exact .inl (by simp [he])
    · rcases b with e1 | ⟨ad', e1, hl', hc'⟩
      · exact absurd (by simpa using e1) he
      · have b' : BR w w.heap.size ds[i].A q[i] := .inr ⟨ad', e1, hl', hc'⟩
        refine b'.keep (fun ad e => ?_) hz
        rw [e1] at e
        injection e with e
        subst e
        exact hk _ hl' (c he _ e1).2
theorem OwnC.snoc2 {w w3 : World} {base : Nat} {v v' : Value} {q : List (List UInt8)} {l : List UInt8} {x : Bd} {ds : List Bd} (h1 : ds.length = q.length)
    (h3 : ∀ (i : Nat) (h : i < q.length) (h' : i < ds.length), ds[i].n = q[i].length ∧ BR w w.heap.size ds[i].A q[i] ∧ (q[i] ≠ [] → ∀ ad, ds[i].A = some ad → v.ownBlock ≠ some ad.block ∧ base ≤ ad.block))
    (hx : x.n = l.length) (hl : BR w w.heap.size x.A l) (hf : ∀ ad, x.A = some ad → v.ownBlock ≠ some ad.block ∧ base ≤ ad.block) {w2 : World} (hb2 : Below w.heap.size w w2)
    (hown : w3.ownsRow base 24 1 v' (q.length + 1) (rcells Bd.cells ds ++ rcells Bd.cells [x])) (hg : w2.grownBy w3 v.ownBlock) (ha : v'.ownBlock = v.ownBlock ∨ v'.ownBlock = some w2.heap.size) :
    OwnC w3 base v' (q ++ [l]) := by
  have z2 := hb2.size
  have z3 := hg.size
  have hfresh : ∀ ad : Addr, ad.block < w2.heap.size → v.ownBlock ≠ some ad.block → v'.ownBlock ≠ some ad.block := fun ad hlt hne => by
    rcases ha with e | e
    · rw [e]; exact hne
    · rw [e]; intro q; injection q with q; omega
  have one : ∀ {A : Option Addr} {y : List UInt8}, BR w w.heap.size A y → (y ≠ [] → ∀ ad, A = some ad → v.ownBlock ≠ some ad.block ∧ base ≤ ad.block) → BR w3 w3.heap.size A y ∧ (y ≠ [] → ∀ ad, A = some ad → v'.ownBlock ≠ some ad.block ∧ base ≤ ad.block) := by
    intro A y b c
    by_cases he : y = []
    · exact ⟨.inl (by simp [he]), fun hne => absurd he hne⟩
    · rcases b with e1 | ⟨ad', e1, hl', hc'⟩
      · exact absurd (by simpa using e1) he
      · have b' : BR w w.heap.size A y := .inr ⟨ad', e1, hl', hc'⟩
        refine ⟨b'.keep (fun ad e => ?_) (by omega), fun hne ad e => ?_⟩
        · rw [e1] at e
          injection e with e
          subst e
          exact (hg.block _ (by omega) (fun e => (c he _ e1).1 e.symm)).trans (hb2.block _ (by omega))
        · have e' := e1
          rw [e] at e'
          injection e' with e'
          subst e'
          exact ⟨hfresh ad (by omega) (c hne ad e).1, (c hne ad e).2⟩
  refine ⟨ds ++ [x], by simp [h1], ?_, fun i hi hi' => ?_⟩
  · have e : rcells Bd.cells (ds ++ [x]) = rcells Bd.cells ds ++ rcells Bd.cells [x] := by simp [rcells]
    rw [e, List.length_append]
    exact hown
  · by_cases hlt : i < ds.length
    · rw [List.getElem_append_left hlt, List.getElem_append_left (by omega)]
      obtain ⟨a, b, c⟩ := h3 i (by omega) hlt
      obtain ⟨b', c'⟩ := one b c
      exact ⟨a, b', c'⟩
    · have hi2 : i = ds.length := by simp at hi'; omega
      subst hi2
      rw [List.getElem_append_right (Nat.le_refl _), List.getElem_append_right (by omega)]
      simp only [h1, Nat.sub_self, List.getElem_cons_zero]
      obtain ⟨b', c'⟩ := one hl (fun _ => hf)
      exact ⟨hx, b', c'⟩
theorem QC.frame {w w' : World} {B : Nat} {A : Option Addr} {q : List (List UInt8)} (h : QC w w B A q) (hB : ∀ g, g < B → w'.heap[g]? = w.heap[g]?) (hA : q ≠ [] → ∀ ad, A = some ad → ad.block < w.heap.size → w'.heap[ad.block]? = w.heap[ad.block]?) (hz : w.heap.size ≤ w'.heap.size) : QC w' w' B A q := by
  by_cases hq : q = []
  · subst hq; exact QC.nil
  obtain ⟨ds, h1, h2, h3⟩ := h
  refine ⟨ds, h1, ?_, fun i hi hi' => ⟨(h3 i hi hi').1, ?_⟩⟩
  · rcases h2 with e | ⟨ad, e, hl, hc⟩
    · exact .inl e
    · refine .inr ⟨ad, e, by omega, fun j v hv => ?_⟩
      rw [← hc j v hv]
      exact World.cell?_of_block (w := w) (by rw [add_block]; exact hA hq ad e hl)
  · rcases (h3 i hi hi').2 with e | ⟨ad, e, hl, hc⟩
    · exact .inl e
    · refine .inr ⟨ad, e, hl, fun j v hv => ?_⟩
      rw [← hc j v hv]
      exact World.cell?_of_block (w := w) (by rw [add_block]; exact hB _ hl)
theorem QC.dr {w : World} {B : Nat} {A : Option Addr} {q : List (List UInt8)} (h : QC w w B A q) : QC w.drew w.drew B A q := h
/-- all old blocks but two are as they were -/
structure Frg (g1 g2 : Nat) (w w' : World) : Prop where
  size : w.heap.size ≤ w'.heap.size
  block : ∀ g, g < w.heap.size → g ≠ g1 → g ≠ g2 → w'.heap[g]? = w.heap[g]?
theorem Frg.refl (g1 g2 : Nat) (w : World) : Frg g1 g2 w w := ⟨Nat.le_refl _, fun _ _ _ _ => rfl⟩
theorem Frg.step {g1 g2 : Nat} {w w1 w2 : World} (h : Frg g1 g2 w w1) (hb : Below w1.heap.size w1 w2) : Frg g1 g2 w w2 :=
  ⟨Nat.le_trans h.size hb.size, fun g hg h1 h2 => (hb.block g (Nat.lt_of_lt_of_le hg h.size)).trans (h.block g hg h1 h2)⟩
theorem Frg.of {g1 g2 : Nat} {w w1 : World} (hb : Below w.heap.size w w1) : Frg g1 g2 w w1 := (Frg.refl g1 g2 w).step hb
theorem Frg.set {g1 g2 p k : Nat} {u : Value} {w w1 : World} (h : Frg g1 g2 w w1) (hp : p = g1 ∨ p = g2 ∨ w.heap.size ≤ p) : Frg g1 g2 w (w1.setCell ⟨p, k, none⟩ u) :=
  ⟨by simpa using h.size, fun g hg h1 h2 => (Below.heap_setCell w1 ⟨p, k, none⟩ u g (by show g ≠ p; omega)).trans (h.block g hg h1 h2)⟩
theorem Frg.drew {g1 g2 : Nat} {w w1 : World} (h : Frg g1 g2 w w1) : Frg g1 g2 w w1.drew := ⟨h.size, h.block⟩
theorem Frg.six {g1 g2 p : Nat} {w w1 : World} (h : Frg g1 g2 w w1) (hp : p = g1 ∨ p = g2 ∨ w.heap.size ≤ p) (a0 a1 a2 a3 a4 a5 : Value) :
    Frg g1 g2 w ((((((w1.setCell ⟨p, 0, none⟩ a0).setCell ⟨p, 1, none⟩ a1).setCell ⟨p, 2, none⟩ a2).setCell ⟨p, 3, none⟩ a3).setCell ⟨p, 4, none⟩ a4).setCell ⟨p, 5, none⟩ a5) := (((((h.set hp).set hp).set hp).set hp).set hp).set hp
theorem Frg.five {g1 g2 p : Nat} {w w1 : World} (h : Frg g1 g2 w w1) (hp : p = g1 ∨ p = g2 ∨ w.heap.size ≤ p) (a0 a1 a2 a3 a4 : Value) :
    Frg g1 g2 w (((((w1.setCell ⟨p, 0, none⟩ a0).setCell ⟨p, 1, none⟩ a1).setCell ⟨p, 2, none⟩ a2).setCell ⟨p, 3, none⟩ a3).setCell ⟨p, 4, none⟩ a4) := ((((h.set hp).set hp).set hp).set hp).set hp
theorem Frg.three {g1 g2 p : Nat} {w w1 : World} (h : Frg g1 g2 w w1) (hp : p = g1 ∨ p = g2 ∨ w.heap.size ≤ p) (a0 a1 a2 : Value) :
    Frg g1 g2 w (((w1.setCell ⟨p, 0, none⟩ a0).setCell ⟨p, 1, none⟩ a1).setCell ⟨p, 2, none⟩ a2) := ((h.set hp).set hp).set hp
/-- the queue in memory, what was taken: all but the two blocks -/
def QT (w : World) (B gb base : Nat) (A0 : Option Addr) (A : Option Addr) (q tk : List (List UInt8)) (c : Nat) (TV : Value) : Prop :=
  QC w w B A q ∧ (q ≠ [] → ∀ ad, A = some ad → ad.block < gb ∨ (base ≤ ad.block ∧ TV.ownBlock ≠ some ad.block)) ∧ q.length ≤ c ∧ (A = none → c = 0) ∧ (A = A0 ∨ ∀ ad, A = some ad → base ≤ ad.block) ∧ OwnC w base TV tk
theorem QT.frame {w w' : World} {B gb g1 g2 base : Nat} {A0 A : Option Addr} {q tk : List (List UInt8)} {c : Nat} {TV : Value} (h : QT w B gb base A0 A q tk c TV) (hf : Frg g1 g2 w w') (hB : B ≤ gb) (h1 : gb ≤ g1) (h1' : g1 < base) (h2 : gb ≤ g2) (h2' : g2 < base) (h3 : base ≤ w.heap.size) : QT w' B gb base A0 A q tk c TV := by
  obtain ⟨a, b, c1, d, e, f⟩ := h
  refine ⟨a.frame (fun g hg => hf.block g (by omega) (by omega) (by omega)) (fun hq ad e1 hl => ?_) hf.size, b, c1, d, e, f.frame (fun g hg hg2 => hf.block g hg (by omega) (by omega)) hf.size⟩
  rcases b hq ad e1 with h | ⟨h, -⟩
  · exact hf.block _ hl (by omega) (by omega)
  · exact hf.block _ hl (by omega) (by omega)
/-- the queue anew -/
theorem QT.anew {w w' : World} {B gb g1 g2 base : Nat} {A0 A A' : Option Addr} {q q' tk : List (List UInt8)} {c c' : Nat} {TV : Value} (h : QT w B gb base A0 A q tk c TV) (hf : Frg g1 g2 w w') (h1' : g1 < base) (h2' : g2 < base) (h3 : base ≤ w.heap.size)
    (hq : QC w' w' B A' q') (hc : q'.length ≤ c') (hn : A' = none → c' = 0) (hA : A' = A ∨ ∀ ad, A' = some ad → w.heap.size ≤ ad.block) (hqq : q' ≠ [] → q ≠ []) : QT w' B gb base A0 A' q' tk c' TV := by
  obtain ⟨a, b, c1, d, e, f⟩ := h
  refine ⟨hq, fun hne ad e1 => ?_, hc, hn, ?_, f.frame (fun g hg hg2 => hf.block g hg (by omega) (by omega)) hf.size⟩
  · rcases hA with rfl | hA
    · exact b (hqq hne) ad e1
    · have := hA ad e1
      refine .inr ⟨by omega, fun e2 => ?_⟩
      have := (f.lt _ e2).2
      omega
  · rcases hA with rfl | hA
    · exact e
    · exact .inr fun ad e1 => by have := hA ad e1; omega
/-- one more is taken -/
theorem QT.snoc {w w2 w3 : World} {B gb base : Nat} {A0 A : Option Addr} {q tk : List (List UInt8)} {c : Nat} {TV v' : Value} {l : List UInt8} {x : Bd} (h : QT w B gb base A0 A q tk c TV) (hB : B ≤ base) (hgb : gb ≤ base) (h3 : base ≤ w.heap.size)
    {ds : List Bd} (d1 : ds.length = tk.length)
    (d3 : ∀ (i : Nat) (h : i < tk.length) (h' : i < ds.length), ds[i].n = tk[i].length ∧ BR w w.heap.size ds[i].A tk[i] ∧ (tk[i] ≠ [] → ∀ ad, ds[i].A = some ad → TV.ownBlock ≠ some ad.block ∧ base ≤ ad.block))
    (hx : x.n = l.length) (hl : BR w w.heap.size x.A l) (hf : ∀ ad, x.A = some ad → TV.ownBlock ≠ some ad.block ∧ base ≤ ad.block) (hb2 : Below w.heap.size w w2)
    (hown : w3.ownsRow base 24 1 v' (tk.length + 1) (rcells Bd.cells ds ++ rcells Bd.cells [x])) (hg : w2.grownBy w3 TV.ownBlock) (ha : v'.ownBlock = TV.ownBlock ∨ v'.ownBlock = some w2.heap.size) : QT w3 B gb base A0 A q (tk ++ [l]) c v' := by
  obtain ⟨a, b, c1, d, e, f⟩ := h
  have hlt := fun g => f.lt g
  have z2 := hb2.size
  have z3 := hg.size
  refine ⟨a.frame (fun g hg' => ?_) (fun hq ad e1 hl' => ?_) (by omega), fun hq ad e1 => ?_, c1, d, e, OwnC.snoc2 d1 d3 hx hl hf hb2 hown hg ha⟩
  · by_cases hgs : g < w.heap.size
    · exact (hg.block g (by omega) (fun e => by have := (hlt g e.symm).1; omega)).trans (hb2.block g hgs)
    · omega
  · refine (hg.block _ (by omega) (fun e2 => ?_)).trans (hb2.block _ hl')
    rcases b hq ad e1 with h | ⟨-, h⟩
    · have := (hlt _ e2.symm).1; omega
    · exact h e2.symm
  · rcases b hq ad e1 with h | ⟨h, h'⟩
    · exact .inl h
    · refine .inr ⟨h, ?_⟩
      rcases ha with e2 | e2
      · rw [e2]; exact h'
      · rw [e2]
        intro q2
        injection q2 with q2
        have hs : ad.block < w.heap.size := by
          obtain ⟨ds', y1, y2, -⟩ := a
          rcases y2 with y | ⟨ad', y, hl', -⟩
          · have := rcells_len Bd.one ds'
            rw [y] at this
            simp at this
            exact absurd (List.eq_nil_of_length_eq_zero (by omega)) hq
          · rw [e1] at y
            injection y with y
            subst y
            exact hl'
        omega
theorem Blk.oth3 {w : World} {g p : Nat} {C : Array Value} {t : TypeId} (h : Blk w g C t) (hp : p ≠ g) (a0 a1 a2 : Value) : Blk (((w.setCell ⟨p, 0, none⟩ a0).setCell ⟨p, 1, none⟩ a1).setCell ⟨p, 2, none⟩ a2) g C t := ((h.other hp).other hp).other hp
theorem Blk.oth5 {w : World} {g p : Nat} {C : Array Value} {t : TypeId} (h : Blk w g C t) (hp : p ≠ g) (a0 a1 a2 a3 a4 : Value) : Blk (((((w.setCell ⟨p, 0, none⟩ a0).setCell ⟨p, 1, none⟩ a1).setCell ⟨p, 2, none⟩ a2).setCell ⟨p, 3, none⟩ a3).setCell ⟨p, 4, none⟩ a4) g C t := ((((h.other hp).other hp).other hp).other hp).other hp
theorem Blk.oth6 {w : World} {g p : Nat} {C : Array Value} {t : TypeId} (h : Blk w g C t) (hp : p ≠ g) (a0 a1 a2 a3 a4 a5 : Value) : Blk ((((((w.setCell ⟨p, 0, none⟩ a0).setCell ⟨p, 1, none⟩ a1).setCell ⟨p, 2, none⟩ a2).setCell ⟨p, 3, none⟩ a3).setCell ⟨p, 4, none⟩ a4).setCell ⟨p, 5, none⟩ a5) g C t := (((((h.other hp).other hp).other hp).other hp).other hp).other hp
theorem Blk.grd5 {w : World} {g : Nat} {f s : Int} {Q : Value} {wd : Int} {st : Bool} {t : TypeId} (h : Blk w g (grdC f s Q wd st) t) (f' s' : Int) (Q' : Value) (wd' : Int) (st' : Bool) :
    Blk (((((w.setCell ⟨g, 0, none⟩ (.int .i64 f')).setCell ⟨g, 1, none⟩ (.int .i64 s')).setCell ⟨g, 2, none⟩ Q').setCell ⟨g, 3, none⟩ (.int .i64 wd')).setCell ⟨g, 4, none⟩ (.bool st')) g (grdC f' s' Q' wd' st') t := ((((h.set1 0 _).set1 1 _).set1 2 _).set1 3 _).set1 4 _
theorem Blk.ord3 {w : World} {g : Nat} {c m : Int} {A : Option Addr} {n k : Nat} {t : TypeId} (h : Blk w g (ordC c m A n k) t) (c' m' : Int) (A' : Option Addr) (n' k' : Nat) :
    Blk (((w.setCell ⟨g, 0, none⟩ (.int .i64 c')).setCell ⟨g, 1, none⟩ (.int .i64 m')).setCell ⟨g, 2, none⟩ (.slice A' n' k')) g (ordC c' m' A' n' k') t := ((h.set1 0 _).set1 1 _).set1 2 _
theorem QC.put5 {w : World} {B p : Nat} {A : Option Addr} {q : List (List UInt8)} (h : QC w w B A q) (hB : B ≤ p) (hBw : B ≤ w.heap.size) (hA : q ≠ [] → ∀ ad, A = some ad → ad.block ≠ p) (a0 a1 a2 a3 a4 : Value) :
    QC (((((w.setCell ⟨p, 0, none⟩ a0).setCell ⟨p, 1, none⟩ a1).setCell ⟨p, 2, none⟩ a2).setCell ⟨p, 3, none⟩ a3).setCell ⟨p, 4, none⟩ a4) (((((w.setCell ⟨p, 0, none⟩ a0).setCell ⟨p, 1, none⟩ a1).setCell ⟨p, 2, none⟩ a2).setCell ⟨p, 3, none⟩ a3).setCell ⟨p, 4, none⟩ a4) B A q :=
  have hf := (Frg.refl p p w).five (.inl rfl) a0 a1 a2 a3 a4
  h.frame (fun g hg => hf.block g (by omega) (by omega) (by omega)) (fun hq ad e hl => hf.block _ hl (hA hq ad e) (hA hq ad e)) hf.size
theorem heard_ne {g : Gnd} {n : Int} {L R : Bool} (h : (heardS g n L R).q ≠ []) : g.q ≠ [] := by
  intro e
  apply h
  unfold heardS hearS
  split
  · exact e
  · split <;> split <;> simp [e]
/-- both sides in their blocks, zero results, the queue and what was taken -/
def RS (W : World) (gb B base : Nat) (A0 : Option Addr) (x : LS) (TV : Value) (w : World) : Prop :=
  ∃ A c, Blk w gb (uplC x.b.n x.b.v x.b.L x.b.R x.b.T x.b.k) 23 ∧ Blk w (gb + 1) (grdC x.f (x.s : Int) (.slice A x.q.length c) x.wd x.st) 41 ∧ Blk w (gb + 1 + 1) (uplC 0 0 false false false 0) 23 ∧ Blk w (gb + 1 + 1 + 1) (grdC 0 0 (.slice none 0 0) 0 false) 41 ∧
    QT w B gb base A0 A x.q x.tk c TV ∧ Below gb W w ∧ base ≤ w.heap.size
theorem RS.drew {W w : World} {gb B base : Nat} {A0 : Option Addr} {x : LS} {TV : Value} (h : RS W gb B base A0 x TV w) (hB : B ≤ gb) (hb : gb + 1 < base) : RS W gb B base A0 x TV w.drew := by
  obtain ⟨A, c, a, b, d, e, f, g, i⟩ := h
  exact ⟨A, c, a, b, d, e, f.frame (Frg.refl gb (gb + 1) w).drew hB (Nat.le_refl _) (by omega) (by omega) hb i, g.drew, i⟩
/-- what a beat's sending left -/
def AFT (x : LS) (t : Bt) (y : LS) : Prop := (t.send = true → sendS x t.lost = (y, 0)) ∧ (t.send = false → y = x)
theorem aft_beat {x y : LS} {t : Bt} (h : AFT x t y) : beatS x t = (restS y t, 0) := by
  unfold beatS
  by_cases hs : t.send = true
  · rw [if_pos hs, h.1 hs, if_neg (by simp)]
  · rw [if_neg hs, h.2 (by simpa using hs)]
theorem aft_ok {x y : LS} {t : Bt} (h : AFT x t y) (hx : LOk x) : LOk y := by
  by_cases hs : t.send = true
  · have e := h.1 hs
    have := send_ok (lost := t.lost) hx (by rw [e])
    rw [e] at this
    exact this
  · rw [h.2 (by simpa using hs)]; exact hx
theorem aft_tk {x y : LS} {t : Bt} (h : AFT x t y) : y.tk.length ≤ x.tk.length + 1 := by
  by_cases hs : t.send = true
  · have e := h.1 hs
    have : (sendS x t.lost).1.tk.length ≤ x.tk.length + 1 := by
      unfold sendS
      split
      · exact Nat.le_succ _
      · split
        · exact Nat.le_succ _
        · split
          · exact Nat.le_succ _
          · simp only
            split
            · simp
            · exact Nat.le_succ _
    rw [e] at this
    exact this
  · rw [h.2 (by simpa using hs)]; exact Nat.le_succ _
/-- what the reference's run answers, in memory -/
def RunPostR (B : Nat) (A0 : Option Addr) (x : LS) (F : Int) (w : World) (e : Ending) (w' : World) : Prop :=
  ∃ A c A' c', e = .returned (.tuple #[x.b.val, grdV x.f (x.s : Int) (.slice A x.q.length c) x.wd x.st, .slice A' x.tk.length c', .int .i64 F]) ∧ QC w' w' B A x.q ∧ x.q.length ≤ c ∧ (A = none → c = 0) ∧ (A = A0 ∨ ∀ ad, A = some ad → w.heap.size ≤ ad.block) ∧ QR w' w'.heap.size A' x.tk ∧ Below w.heap.size w w'
end Go.Proofs.Yteikggieekhfkaa
