/- opening signed commands one behind the other: what comes of it, and what a loop keeps in memory. -/
import Derived.Test.YteikggieekhfkaaPOpd
import Derived.Test.YteikggieekhfkaaClBods
namespace Go.Proofs.Yteikggieekhfkaa
open Go.RowKit

/-- keys, bodies and faults so far -/
structure OA where
  least : Int
  seen : List Int
  bodies : List (List UInt8)
  faults : List Int
def oaStep (key : Int) (s : OA) (b : List UInt8) : OA :=
  if openC key s.least s.seen b = 0 then ⟨(seenS s.least s.seen (openN key s.least s.seen b)).1, (seenS s.least s.seen (openN key s.least s.seen b)).2, s.bodies ++ [openB key s.least s.seen b], s.faults ++ [0]⟩
  else ⟨s.least, s.seen, s.bodies, s.faults ++ [openC key s.least s.seen b]⟩
def oaAll (key least : Int) (l : List Int) (L : List (List UInt8)) : OA := L.foldl (oaStep key) ⟨least, l, [], []⟩
theorem oa_zero (key least : Int) (l : List Int) (L : List (List UInt8)) : oaAll key least l (L.take 0) = ⟨least, l, [], []⟩ := rfl
theorem oa_next (key least : Int) (l : List Int) (L : List (List UInt8)) (j : Nat) (hj : j < L.length) : oaAll key least l (L.take (j + 1)) = oaStep key (oaAll key least l (L.take j)) L[j] := by
  unfold oaAll
  rw [List.take_succ_eq_append_getElem hj, List.foldl_append]
  rfl
theorem oa_good {key : Int} {s : OA} {b : List UInt8} (h : openC key s.least s.seen b = 0) : oaStep key s b = ⟨(seenS s.least s.seen (openN key s.least s.seen b)).1, (seenS s.least s.seen (openN key s.least s.seen b)).2, s.bodies ++ [openB key s.least s.seen b], s.faults ++ [0]⟩ := by
  unfold oaStep
  rw [if_pos h]
theorem oa_bad {key : Int} {s : OA} {b : List UInt8} (h : openC key s.least s.seen b ≠ 0) : oaStep key s b = ⟨s.least, s.seen, s.bodies, s.faults ++ [openC key s.least s.seen b]⟩ := by
  unfold oaStep
  rw [if_neg h]
theorem openC_zero {key least : Int} {l : List Int} {b : List UInt8} (h : openC key least l b = 0) : least ≤ openN key least l b ∧ openN key least l b ≤ least + 64 ∧ openN key least l b ≤ 1000000000 ∧ openN key least l b ∉ l ∧ (openB key least l b).length ≤ 200 := by
  have hN : openN key least l b = (bigN (b.take 8) : Int) := by unfold openN; rw [if_pos h]
  have hB : openB key least l b = (b.take (b.length - 8)).drop 8 := by unfold openB; rw [if_pos h]
  rw [hN, hB]
  unfold openC at h
  by_cases h1 : b.length ≤ 16
  · rw [if_pos h1] at h; simp at h
  · rw [if_neg h1] at h
    by_cases h2 : 216 < b.length
    · rw [if_pos h2] at h; simp at h
    · rw [if_neg h2] at h
      split at h
      · split at h
        · split at h
          · simp at h
          · rename_i h5
            split at h
            · simp at h
            · rename_i h4 h6
              rw [not_or] at h5
              refine ⟨by omega, by omega, by omega, h5.2, by simp; omega⟩
        · simp at h
      · simp at h
/-- how the steps keep what is right -/
def OA.Ok (s : OA) (j : Nat) : Prop := Right s.least s.seen ∧ s.faults.length = j ∧ s.bodies.length ≤ j ∧ ∀ x ∈ s.bodies, x.length ≤ 200
theorem oa_step_ok {key : Int} {s : OA} {b : List UInt8} {j : Nat} (h : s.Ok j) : (oaStep key s b).Ok (j + 1) := by
  obtain ⟨h1, h2, h3, h4⟩ := h
  by_cases hc : openC key s.least s.seen b = 0
  · rw [oa_good hc]
    obtain ⟨a, b, c, d, e⟩ := openC_zero hc
    refine ⟨seen_right h1 a b c d, by simp; omega, by simp; omega, fun x hx => ?_⟩
    rcases List.mem_append.1 hx with hx | hx
    · exact h4 x hx
    · obtain rfl := List.mem_singleton.1 hx; exact e
  · rw [oa_bad hc]
    exact ⟨h1, by simp; omega, by show s.bodies.length ≤ j + 1; omega, h4⟩
theorem oa_ok (key least : Int) (l : List Int) (hr : Right least l) (L : List (List UInt8)) : ∀ j, j ≤ L.length → (oaAll key least l (L.take j)).Ok j
  | 0, _ => by rw [oa_zero]; exact ⟨hr, rfl, Nat.le_refl _, fun x hx => by simp at hx⟩
  | j + 1, hj => by
    rw [oa_next key least l L j (by omega)]
    exact oa_step_ok (oa_ok key least l hr L j (by omega))
/-- what OpenedAll tells -/
def oallF (key least : Int) (l : List Int) (n : Nat) : Int := if keysS key least l = 0 then (if 2000 < n then 2 else 0) else keysS key least l
def oallR (key least : Int) (l : List Int) (L : List (List UInt8)) : Int × OA := if oallF key least l L.length = 0 then (key, oaAll key least l L) else (0, ⟨0, [], [], []⟩)
/-- what OpenedAll answers, in memory -/
def AllPost (R : Int × OA) (F : Int) (w : World) (e : Ending) (w' : World) : Prop :=
  ∃ A c AB cB AF cF, e = .returned (.tuple #[kyV R.1 R.2.least (.slice A R.2.seen.length c), .slice AB R.2.bodies.length cB, .slice AF R.2.faults.length cF, .int .i64 F]) ∧ IR w' w'.heap.size A R.2.seen ∧ QR w' w'.heap.size AB R.2.bodies ∧ IR w' w'.heap.size AF R.2.faults ∧ Below w.heap.size w w'

/-- bytes of the call's own: where they lie, how much room they have -/
theorem Own.form5 {w : World} {base : Nat} {v : Value} {l : List UInt8} (h : Own w base v l) : ∃ A c, v = .slice A l.length c ∧ BR w w.heap.size A l ∧ (∀ ad, A = some ad → base ≤ ad.block) ∧ l.length ≤ c ∧ c ≤ maxLen := by
  obtain ⟨A, c, hv, hc, hle, hn, hb⟩ := row_form h
  refine ⟨A, c, hv, hc, hb, hle, ?_⟩
  rcases h.2 with ⟨e, -⟩ | ⟨g, cap, cur, e, -, -, -, hm, -⟩
  · rw [hv] at e; injection e with _ _ e; rw [e]; simp [maxLen]
  · rw [hv] at e; injection e with _ _ e; rw [e]; exact hm
/-- bodies that came in, each with its room -/
def KR (w : World) (B : Nat) (A : Option Addr) (q : List (List UInt8)) : Prop :=
  ∃ ds : List Bd, ds.length = q.length ∧ SR Bd.cells w B A ds ∧ ∀ (i : Nat) (h : i < q.length) (h' : i < ds.length), ds[i].n = q[i].length ∧ BR w B ds[i].A q[i] ∧ q[i].length ≤ ds[i].k ∧ ds[i].k ≤ maxLen
theorem KR.below {w w' : World} {B : Nat} {A : Option Addr} {q : List (List UInt8)} (h : KR w B A q) (hb : Below B w w') : KR w' B A q := by
  obtain ⟨ds, h1, h2, h3⟩ := h
  exact ⟨ds, h1, h2.below hb, fun i hi hi' => ⟨(h3 i hi hi').1, (h3 i hi hi').2.1.below hb, (h3 i hi hi').2.2⟩⟩
theorem KR.lift {w : World} {B B' : Nat} {A : Option Addr} {q : List (List UInt8)} (h : KR w B A q) (hb : B ≤ B') : KR w B' A q := by
  obtain ⟨ds, h1, h2, h3⟩ := h
  exact ⟨ds, h1, h2.lift hb, fun i hi hi' => ⟨(h3 i hi hi').1, (h3 i hi hi').2.1.lift hb, (h3 i hi hi').2.2⟩⟩
theorem KR.get {w : World} {B : Nat} {A : Option Addr} {q : List (List UInt8)} (h : KR w B A q) (k : Nat) (hk : k < q.length) :
    ∃ ad X c, A = some ad ∧ ad.block < B ∧ w.cell? (ad.add k) = some (.slice X q[k].length c) ∧ BR w B X q[k] ∧ q[k].length ≤ c ∧ c ≤ maxLen := by
  obtain ⟨ds, h1, h2, h3⟩ := h
  obtain ⟨ad, e, hb, hc⟩ := SR.get Bd.one (by omega) h2 k (by omega)
  obtain ⟨e1, e2, e3, e4⟩ := h3 k hk (by omega)
  refine ⟨ad, ds[k].A, ds[k].k, e, hb, ?_, e2, e3, e4⟩
  have := hc 0 _ rfl
  rw [addr_zero, Nat.mul_one] at this
  rw [this, e1]
/-- a row's block, if it has elements -/
theorem cells_lt {w : World} {B : Nat} {A : Option Addr} {xs : List Value} (h : Cells w B A xs) (hn : xs ≠ []) (ad : Addr) (e : A = some ad) : ad.block < B := by
  rcases h with h | ⟨ad', e', hl, -⟩
  · exact absurd h hn
  · rw [e] at e'; injection e' with e'; subst e'; exact hl
theorem cells_keep {w w' : World} {B B' : Nat} {A : Option Addr} {xs : List Value} (h : Cells w B A xs) (hk : ∀ ad, A = some ad → ad.block < B → w'.heap[ad.block]? = w.heap[ad.block]?) (hB : B ≤ B') (hn : xs ≠ []) : Cells w' B' A xs := by
  rcases h with e | ⟨ad, e, hl, hc⟩
  · exact absurd e hn
  · refine .inr ⟨ad, e, by omega, fun j v hv => ?_⟩
    rw [← hc j v hv]
    exact World.cell?_of_block (w := w) (by rw [add_block]; exact hk ad e hl)
/-- how the loop's memory stands: from g up to P the call's own words, from P on its rows -/
structure AllAt (g P : Nat) (X : World) (SA : Option Addr) (l : List Int) (vB : Value) (q : List (List UInt8)) (vF : Value) (fs : List Int) : Prop where
  gP : g < P
  base : P ≤ X.heap.size
  seen : IR X X.heap.size SA l
  seenne : l ≠ [] → ∀ ad, SA = some ad → (ad.block < g ∨ P ≤ ad.block) ∧ vB.ownBlock ≠ some ad.block ∧ vF.ownBlock ≠ some ad.block
  bods : ∃ ds : List Bd, ds.length = q.length ∧ X.ownsRow P 24 1 vB q.length (rcells Bd.cells ds) ∧
    ∀ (i : Nat) (h : i < q.length) (h' : i < ds.length), ds[i].n = q[i].length ∧ BR X X.heap.size ds[i].A q[i] ∧ (q[i] ≠ [] → ∀ ad, ds[i].A = some ad → P ≤ ad.block ∧ vB.ownBlock ≠ some ad.block ∧ vF.ownBlock ≠ some ad.block) ∧ q[i].length ≤ ds[i].k ∧ ds[i].k ≤ maxLen
  faults : OwnI X P vF fs
  ne : ∀ b, vB.ownBlock = some b → vF.ownBlock ≠ some b
theorem AllAt.start {g P : Nat} {X : World} {SA : Option Addr} {l : List Int} (hg : g < P) (hP : P ≤ X.heap.size) (hs : IR X X.heap.size SA l) (hn : l ≠ [] → ∀ ad, SA = some ad → ad.block < g ∨ P ≤ ad.block) : AllAt g P X SA l (.slice none 0 0) [] (.slice none 0 0) [] :=
  ⟨hg, hP, hs, fun h ad e => ⟨hn h ad e, by simp [Value.ownBlock], by simp [Value.ownBlock]⟩, ⟨[], rfl, X.ownsRow_nil P 24 1, fun i h => by simp at h⟩, OwnI.nil _ _, fun b h => by simp [Value.ownBlock] at h⟩
theorem AllAt.after {g P : Nat} {X X' : World} {SA : Option Addr} {l : List Int} {vB : Value} {q : List (List UInt8)} {vF : Value} {fs : List Int} (h : AllAt g P X SA l vB q vF fs) (hb : Below X.heap.size X X') : AllAt g P X' SA l vB q vF fs := by
  obtain ⟨ds, h1, h2, h3⟩ := h.bods
  have hg : ∀ row, X.grownBy X' row := fun row => ⟨hb.os, hb.tape, hb.output, hb.size, fun k hk _ => hb.block k hk⟩
  have hk : ∀ (v : Value), v.ownBlock = none ∨ v.ownBlock ≠ none := fun v => by cases v.ownBlock <;> simp
  exact ⟨h.gP, Nat.le_trans h.base hb.size, (h.seen.below hb).lift hb.size, h.seenne, ⟨ds, h1, World.ownsRow.kept (row := none) h2 (hg _) (hk _), fun i hi hi' => ⟨(h3 i hi hi').1, ((h3 i hi hi').2.1.below hb).lift hb.size, (h3 i hi hi').2.2⟩⟩, World.ownsRow.kept (row := none) h.faults (hg _) (hk _), h.ne⟩
theorem AllAt.drew {g P n : Nat} {X : World} {SA : Option Addr} {l : List Int} {vB : Value} {q : List (List UInt8)} {vF : Value} {fs : List Int} (h : AllAt g P X SA l vB q vF fs) : AllAt g P (X.drewN n) SA l vB q vF fs :=
  h.after (below_draws (Below.refl _ _) n)
/-- all that stands stays, if the blocks of it do -/
theorem AllAt.frame {g P : Nat} {X X' : World} {SA : Option Addr} {l : List Int} {vB : Value} {q : List (List UInt8)} {vF : Value} {fs : List Int} (h : AllAt g P X SA l vB q vF fs) (hz : X.heap.size ≤ X'.heap.size)
    (hk : ∀ k, k < X.heap.size → k < g ∨ P ≤ k → X'.heap[k]? = X.heap[k]?) : AllAt g P X' SA l vB q vF fs := by
  obtain ⟨ds, h1, h2, h3⟩ := h.bods
  have hgP := h.gP
  have row : ∀ {e : TypeId} {size n : Nat} {v : Value} {xs : List Value}, X.ownsRow P e size v n xs → X'.ownsRow P e size v n xs := by
    intro e size n v xs hr
    refine ⟨hr.1, ?_⟩
    rcases hr.2 with e1 | ⟨b, cap, cur, e1, hb, hh, r⟩
    · exact .inl e1
    · have hlt := (Array.getElem?_eq_some_iff.1 hh).1
      exact .inr ⟨b, cap, cur, e1, hb, (hk b hlt (by omega)).trans hh, r⟩
  refine ⟨h.gP, Nat.le_trans h.base hz, ?_, h.seenne, ⟨ds, h1, row h2, fun i hi hi' => ⟨(h3 i hi hi').1, ?_, (h3 i hi hi').2.2⟩⟩, row h.faults, h.ne⟩
  · by_cases he : l = []
    · exact .inl (by simp [he])
    · exact cells_keep h.seen (fun ad e hl => hk _ hl (h.seenne he ad e).1) hz (by simpa using he)
  · by_cases he : q[i] = []
    · exact .inl (by simp [he])
    · exact cells_keep (h3 i hi hi').2.1 (fun ad e hl => hk _ hl (by have := ((h3 i hi hi').2.2.1 he ad e).1; omega)) hz (by simpa using he)
theorem AllAt.set {g P p k : Nat} {X : World} {SA : Option Addr} {l : List Int} {vB : Value} {q : List (List UInt8)} {vF : Value} {fs : List Int} {u : Value} (h : AllAt g P X SA l vB q vF fs) (h1 : g ≤ p) (h2 : p < P) : AllAt g P (X.setCell ⟨p, k, none⟩ u) SA l vB q vF fs :=
  h.frame (by simp) fun j _ hj => Below.heap_setCell X ⟨p, k, none⟩ u j (by show j ≠ p; omega)
/-- new keys -/
theorem AllAt.keys {g P : Nat} {X X' : World} {SA SA' : Option Addr} {l l' : List Int} {vB : Value} {q : List (List UInt8)} {vF : Value} {fs : List Int} (h : AllAt g P X SA l vB q vF fs) (hb : Below X.heap.size X X') (hr : IR X' X'.heap.size SA' l') (hf : ∀ ad, SA' = some ad → X.heap.size ≤ ad.block) : AllAt g P X' SA' l' vB q vF fs := by
  have h' := h.after hb
  obtain ⟨ds, h1, h2, h3⟩ := h.bods
  have lb := World.ownsRow.lt h2
  have lf := World.ownsRow.lt h.faults
  have hgP := h.gP
  have hP := h.base
  exact ⟨h.gP, h'.base, hr, fun _ ad e => by
    have := hf ad e
    exact ⟨by omega, fun q => by have := (lb _ q).2; omega, fun q => by have := (lf _ q).2; omega⟩, h'.bods, h'.faults, h.ne⟩
/-- a fault more -/
theorem AllAt.fault {g P : Nat} {X X' : World} {SA : Option Addr} {l : List Int} {vB : Value} {q : List (List UInt8)} {vF vF' : Value} {fs fs' : List Int} (h : AllAt g P X SA l vB q vF fs) (ho : OwnI X' P vF' fs') (hg : X.grownBy X' vF.ownBlock) (ha : vF'.ownBlock = vF.ownBlock ∨ vF'.ownBlock = some X.heap.size) : AllAt g P X' SA l vB q vF' fs' := by
  obtain ⟨ds, h1, h2, h3⟩ := h.bods
  have lb := World.ownsRow.lt h2
  have hz := hg.size
  have hne : ∀ b, b < X.heap.size → vF.ownBlock ≠ some b → vF'.ownBlock ≠ some b := fun b hb hv e => by
    rcases ha with r | r
    · exact hv (r ▸ e)
    · rw [r] at e; injection e with e; omega
  refine ⟨h.gP, Nat.le_trans h.base hz, ?_, fun he ad e => ?_, ⟨ds, h1, World.ownsRow.kept h2 hg ?_, fun i hi hi' => ⟨(h3 i hi hi').1, ?_, fun he ad e => ?_, (h3 i hi hi').2.2.2⟩⟩, ho, fun b hb => hne b (lb b hb).2 (h.ne b hb)⟩
  · by_cases he : l = []
    · exact .inl (by simp [he])
    · exact cells_keep h.seen (fun ad e hl => hg.block _ hl fun q => (h.seenne he ad e).2.2 q.symm) hz (by simpa using he)
  · obtain ⟨a, b, c⟩ := h.seenne he ad e
    exact ⟨a, b, hne _ (cells_lt h.seen (by simpa using he) ad e) c⟩
  · rcases hq : vB.ownBlock with _ | b
    · exact .inl rfl
    · exact .inr fun e => h.ne b hq e.symm
  · by_cases he : q[i] = []
    · exact .inl (by simp [he])
    · exact cells_keep (h3 i hi hi').2.1 (fun ad e hl => hg.block _ hl fun q => ((h3 i hi hi').2.2.1 he ad e).2.2 q.symm) hz (by simpa using he)
  · obtain ⟨a, b, c⟩ := (h3 i hi hi').2.2.1 he ad e
    exact ⟨a, b, hne _ (cells_lt (h3 i hi hi').2.1 (by simpa using he) ad e) c⟩
/-- a body more -/
theorem AllAt.body {g P : Nat} {X X' : World} {SA : Option Addr} {l : List Int} {vB vB' : Value} {q : List (List UInt8)} {vF : Value} {fs : List Int} {ds : List Bd} {x : Bd} {b : List UInt8} (h : AllAt g P X SA l vB q vF fs) (h1 : ds.length = q.length) (h2 : X.ownsRow P 24 1 vB q.length (rcells Bd.cells ds))
    (h3 : ∀ (i : Nat) (h : i < q.length) (h' : i < ds.length), ds[i].n = q[i].length ∧ BR X X.heap.size ds[i].A q[i] ∧ (q[i] ≠ [] → ∀ ad, ds[i].A = some ad → P ≤ ad.block ∧ vB.ownBlock ≠ some ad.block ∧ vF.ownBlock ≠ some ad.block) ∧ q[i].length ≤ ds[i].k ∧ ds[i].k ≤ maxLen)
    (ho : X'.ownsRow P 24 1 vB' (q.length + 1) (rcells Bd.cells ds ++ rcells Bd.cells [x])) (hx : x.n = b.length) (hk : b.length ≤ x.k ∧ x.k ≤ maxLen) (hl : BR X X.heap.size x.A b) (hf : b ≠ [] → ∀ ad, x.A = some ad → P ≤ ad.block ∧ vB.ownBlock ≠ some ad.block ∧ vF.ownBlock ≠ some ad.block)
    (hg : X.grownBy X' vB.ownBlock) (ha : vB'.ownBlock = vB.ownBlock ∨ vB'.ownBlock = some X.heap.size) : AllAt g P X' SA l vB' (q ++ [b]) vF fs := by
  have lf := World.ownsRow.lt h.faults
  have hz := hg.size
  have hne : ∀ b, b < X.heap.size → vB.ownBlock ≠ some b → vB'.ownBlock ≠ some b := fun b hb hv e => by
    rcases ha with r | r
    · exact hv (r ▸ e)
    · rw [r] at e; injection e with e; omega
  have body : ∀ (A : Option Addr) (y : List UInt8), BR X X.heap.size A y → (y ≠ [] → ∀ ad, A = some ad → P ≤ ad.block ∧ vB.ownBlock ≠ some ad.block ∧ vF.ownBlock ≠ some ad.block) → BR X' X'.heap.size A y ∧ (y ≠ [] → ∀ ad, A = some ad → P ≤ ad.block ∧ vB'.ownBlock ≠ some ad.block ∧ vF.ownBlock ≠ some ad.block) := by
    intro A y hr hy
    by_cases he : y = []
    · exact ⟨.inl (by simp [he]), fun h => absurd he h⟩
    · refine ⟨cells_keep hr (fun ad e hl => hg.block _ hl fun q => (hy he ad e).2.1 q.symm) hz (by simpa using he), fun _ ad e => ?_⟩
      obtain ⟨a, b, c⟩ := hy he ad e
      exact ⟨a, hne _ (cells_lt hr (by simpa using he) ad e) b, c⟩
  refine ⟨h.gP, Nat.le_trans h.base hz, ?_, fun he ad e => ?_, ⟨ds ++ [x], by simp [h1], ?_, fun i hi hi' => ?_⟩, World.ownsRow.kept h.faults hg ?_, fun b hb e => ?_⟩
  · by_cases he : l = []
    · exact .inl (by simp [he])
    · exact cells_keep h.seen (fun ad e hl => hg.block _ hl fun q => (h.seenne he ad e).2.1 q.symm) hz (by simpa using he)
  · obtain ⟨a, b, c⟩ := h.seenne he ad e
    exact ⟨a, hne _ (cells_lt h.seen (by simpa using he) ad e) b, c⟩
  · have e : rcells Bd.cells (ds ++ [x]) = rcells Bd.cells ds ++ rcells Bd.cells [x] := by simp [rcells]
    rw [e, List.length_append]
    exact ho
  · by_cases hlt : i < ds.length
    · rw [List.getElem_append_left hlt, List.getElem_append_left (by omega)]
      obtain ⟨a, b, c, d⟩ := h3 i (by omega) hlt
      exact ⟨a, (body _ _ b c).1, (body _ _ b c).2, d⟩
    · have hi2 : i = ds.length := by simp at hi'; omega
      subst hi2
      rw [List.getElem_append_right (Nat.le_refl _), List.getElem_append_right (by omega)]
      simp only [h1, Nat.sub_self, List.getElem_cons_zero]
      exact ⟨hx, (body _ _ hl hf).1, (body _ _ hl hf).2, hk⟩
  · rcases hq : vF.ownBlock with _ | b
    · exact .inl rfl
    · exact .inr fun e => h.ne b e.symm hq
  · rcases ha with r | r
    · exact h.ne b (r ▸ hb) e
    · rw [r] at hb; injection hb with hb; have := (lf b e).2; omega
theorem AllAt.post {g P : Nat} {X : World} {SA : Option Addr} {l : List Int} {vB : Value} {q : List (List UInt8)} {vF : Value} {fs : List Int} (h : AllAt g P X SA l vB q vF fs) : ∃ AB cB AF cF, vB = .slice AB q.length cB ∧ vF = .slice AF fs.length cF ∧ QR X X.heap.size AB q ∧ IR X X.heap.size AF fs ∧ q.length ≤ cB ∧ fs.length ≤ cF := by
  obtain ⟨ds, h1, h2, h3⟩ := h.bods
  obtain ⟨AB, cB, rfl, hc, hle, -, -⟩ := row_form h2
  obtain ⟨AF, cF, rfl, hr, hf, -, -⟩ := h.faults.form2
  exact ⟨AB, cB, AF, cF, rfl, rfl, ⟨ds, h1, hc, fun i hi hi' => ⟨(h3 i hi hi').1, (h3 i hi hi').2.1⟩⟩, hr, hle, hf⟩
theorem AllAt.kr {g P : Nat} {X : World} {SA : Option Addr} {l : List Int} {vB : Value} {q : List (List UInt8)} {vF : Value} {fs : List Int} (h : AllAt g P X SA l vB q vF fs) : ∃ AB cB, vB = .slice AB q.length cB ∧ KR X X.heap.size AB q := by
  obtain ⟨ds, h1, h2, h3⟩ := h.bods
  obtain ⟨AB, cB, rfl, hc, hle, -, -⟩ := row_form h2
  exact ⟨AB, cB, rfl, ds, h1, hc, fun i hi hi' => ⟨(h3 i hi hi').1, (h3 i hi hi').2.1, (h3 i hi hi').2.2.2⟩⟩
theorem AllPost.full {key : Int} {S : OA} {SA : Option Addr} {sc : Nat} {vB vF : Value} {w w2 : World} {u0 u1 u2 : Value} (hA : AllAt w.heap.size (w.heap.size + 2) w2 SA S.seen vB S.bodies vF S.faults) (hb : Below w.heap.size w w2) :
    AllPost (key, S) 0 w (.returned (.tuple #[.agg #[.int .i64 key, .int .i64 S.least, .slice SA S.seen.length sc], vB, vF, .int .i64 0])) (((w2.setCell ⟨w.heap.size + 1, 0, none⟩ u0).setCell ⟨w.heap.size + 1, 1, none⟩ u1).setCell ⟨w.heap.size + 1, 2, none⟩ u2) := by
  have hA' := (((hA.set (p := w.heap.size + 1) (k := 0) (u := u0) (by omega) (by omega)).set (p := w.heap.size + 1) (k := 1) (u := u1) (by omega) (by omega)).set (p := w.heap.size + 1) (k := 2) (u := u2) (by omega) (by omega))
  obtain ⟨AB, cB, AF, cF, rfl, rfl, hq, hf, -, -⟩ := hA'.post
  exact ⟨SA, sc, AB, cB, AF, cF, rfl, hA'.seen, hq, hf, ((hb.setCell (Nat.le_succ _) _).setCell (Nat.le_succ _) _).setCell (Nat.le_succ _) _⟩
theorem AllPost.zero {F : Int} {w w2 : World} {u0 u1 u2 : Value} (hb : Below w.heap.size w w2) :
    AllPost (0, ⟨0, [], [], []⟩) F w (.returned (.tuple #[.agg #[.int .i64 0, .int .i64 0, .slice none 0 0], .slice none 0 0, .slice none 0 0, .int .i64 F])) (((w2.setCell ⟨w.heap.size + 1, 0, none⟩ u0).setCell ⟨w.heap.size + 1, 1, none⟩ u1).setCell ⟨w.heap.size + 1, 2, none⟩ u2) :=
  ⟨none, 0, none, 0, none, 0, rfl, .inl rfl, QR.nil, .inl rfl, ((hb.setCell (Nat.le_succ _) _).setCell (Nat.le_succ _) _).setCell (Nat.le_succ _) _⟩
theorem grown_below {P : Nat} {X X' : World} {r : Option Nat} (hg : X.grownBy X' r) (h : ∀ k, r = some k → P ≤ k) (hP : P ≤ X.heap.size) : Below P X X' :=
  ⟨hg.os, hg.tape, hg.output, hg.size, fun k hk => hg.block k (by omega) fun e => by have := h k e.symm; omega⟩
/-- an append of a body, in a loop's memory -/
theorem oper_allB {o : Oper} {a : Act} {K : Act → World → Prop} {Q : Exit → Act → World → Prop} {g P : Nat} {X : World} {SA : Option Addr} {l : List Int} {vB : Value} {q : List (List UInt8)} {vF : Value} {fs : List Int} (s x : Operand)
    (ho : o.op = .call { callee := .builtin .append, args := #[s, x], argTypes := #[39, 39] }) (h : AllAt g P X SA l vB q vF fs) (hs : a.eval s = vB) (B : Nat) (A : Option Addr) (c : Nat) (A1 : Option Addr) (b : List UInt8) (c1 : Nat)
    (hx : a.eval x = .slice A 1 c) (hc : Cells X B A [.slice A1 b.length c1]) (hk : b.length ≤ c1 ∧ c1 ≤ maxLen) (hl : BR X X.heap.size A1 b) (hf : b ≠ [] → ∀ ad, A1 = some ad → P ≤ ad.block ∧ vB.ownBlock ≠ some ad.block ∧ vF.ownBlock ≠ some ad.block) (hq : q.length ≤ 100000)
    (hK : ∀ v' w', AllAt g P w' SA l v' (q ++ [b]) vF fs → Below P X w' → X.grownBy w' vB.ownBlock → (v'.ownBlock = vB.ownBlock ∨ v'.ownBlock = some X.heap.size) → K (a.put o.dst v') w') : o.wp Try.prog a X K Q := by
  obtain ⟨ds, h1, h2, h3⟩ := h.bods
  refine oper_app X s x 39 24 1 24 ho elemQ P vB q.length (rcells Bd.cells ds) hs h2 B A 1 c (rcells Bd.cells [⟨A1, b.length, c1⟩]) hx rfl hc (ds_one _) (by unfold maxLen; omega) (by omega) h.base fun v' w' a1 a2 a3 => hK v' w' (h.body h1 h2 h3 a1 rfl hk hl hf a2 a3) (grown_below a2 (fun k e => (World.ownsRow.lt h2 k e).1) h.base) a2 a3
/-- an append of a fault, in a loop's memory -/
theorem oper_allF {o : Oper} {a : Act} {K : Act → World → Prop} {Q : Exit → Act → World → Prop} {g P : Nat} {X : World} {SA : Option Addr} {l : List Int} {vB : Value} {q : List (List UInt8)} {vF : Value} {fs : List Int} (s x : Operand)
    (ho : o.op = .call { callee := .builtin .append, args := #[s, x], argTypes := #[56, 56] }) (h : AllAt g P X SA l vB q vF fs) (hs : a.eval s = vF) (B : Nat) (A : Option Addr) (c : Nat) (f : Int)
    (hx : a.eval x = .slice A 1 c) (hc : Cells X B A [.int .i64 f]) (hq : fs.length ≤ 100000)
    (hK : ∀ v' w', AllAt g P w' SA l vB q v' (fs ++ [f]) → Below P X w' → X.grownBy w' vF.ownBlock → (v'.ownBlock = vF.ownBlock ∨ v'.ownBlock = some X.heap.size) → K (a.put o.dst v') w') : o.wp Try.prog a X K Q := by
  have h2 := h.faults
  refine oper_app X s x 56 3 1 8 ho elemI P vF fs.length (fs.map iv) hs h2 B A 1 c ([f].map iv) hx rfl hc (iv_one _) (by unfold maxLen; omega) (by omega) h.base fun v' w' a1 a2 a3 => hK v' w' (h.fault (OwnI.of a1 rfl) a2 a3) (grown_below a2 (fun k e => (World.ownsRow.lt h2 k e).1) h.base) a2 a3
theorem wpList_allB {ops : Array Oper} {rest : List Oper} {o : Oper} {a : Act} {Q : Exit → Act → World → Prop} {g P : Nat} {X : World} {SA : Option Addr} {l : List Int} {vB : Value} {q : List (List UInt8)} {vF : Value} {fs : List Int} (hgd : o.guard = none) (s x : Operand)
    (ho : o.op = .call { callee := .builtin .append, args := #[s, x], argTypes := #[39, 39] }) (h : AllAt g P X SA l vB q vF fs) (hs : a.eval s = vB) (B : Nat) (A : Option Addr) (c : Nat) (A1 : Option Addr) (b : List UInt8) (c1 : Nat)
    (hx : a.eval x = .slice A 1 c) (hc : Cells X B A [.slice A1 b.length c1]) (hk : b.length ≤ c1 ∧ c1 ≤ maxLen) (hl : BR X X.heap.size A1 b) (hf : b ≠ [] → ∀ ad, A1 = some ad → P ≤ ad.block ∧ vB.ownBlock ≠ some ad.block ∧ vF.ownBlock ≠ some ad.block) (hq : q.length ≤ 100000)
    (hK : ∀ v' w', AllAt g P w' SA l v' (q ++ [b]) vF fs → Below P X w' → X.grownBy w' vB.ownBlock → (v'.ownBlock = vB.ownBlock ∨ v'.ownBlock = some X.heap.size) → wpList Try.prog ops Q rest (a.put o.dst v') w') : wpList Try.prog ops Q (o :: rest) a X :=
  wpList_plain hgd fun K hKK => oper_allB s x ho h hs B A c A1 b c1 hx hc hk hl hf hq fun v' w' a1 a2 a3 a4 => hKK _ _ (hK v' w' a1 a2 a3 a4)
theorem wpList_allF {ops : Array Oper} {rest : List Oper} {o : Oper} {a : Act} {Q : Exit → Act → World → Prop} {g P : Nat} {X : World} {SA : Option Addr} {l : List Int} {vB : Value} {q : List (List UInt8)} {vF : Value} {fs : List Int} (hgd : o.guard = none) (s x : Operand)
    (ho : o.op = .call { callee := .builtin .append, args := #[s, x], argTypes := #[56, 56] }) (h : AllAt g P X SA l vB q vF fs) (hs : a.eval s = vF) (B : Nat) (A : Option Addr) (c : Nat) (f : Int)
    (hx : a.eval x = .slice A 1 c) (hc : Cells X B A [.int .i64 f]) (hq : fs.length ≤ 100000)
    (hK : ∀ v' w', AllAt g P w' SA l vB q v' (fs ++ [f]) → Below P X w' → X.grownBy w' vF.ownBlock → (v'.ownBlock = vF.ownBlock ∨ v'.ownBlock = some X.heap.size) → wpList Try.prog ops Q rest (a.put o.dst v') w') : wpList Try.prog ops Q (o :: rest) a X :=
  wpList_plain hgd fun K hKK => oper_allF s x ho h hs B A c f hx hc hq fun v' w' a1 a2 a3 a4 => hKK _ _ (hK v' w' a1 a2 a3 a4)
/-- what stands while the reference takes over new keys and a body: K the keys' block, N the new keys' -/
structure RA (K N : Nat) (W X : World) (SA : Option Addr) (l : List Int) (vB : Value) (q : List (List UInt8)) (vF : Value) (fs : List Int) (A1 : Option Addr) (b : List UInt8) (CN : Array Value) : Prop where
  all : AllAt K (K + 2) X SA l vB q vF fs
  body : BR X X.heap.size A1 b
  bodyne : b ≠ [] → ∀ ad, A1 = some ad → K + 2 ≤ ad.block ∧ vB.ownBlock ≠ some ad.block ∧ vF.ownBlock ≠ some ad.block
  n : Blk X N CN 58
  z : Blk X (K + 1) (kyC 0 0 (.slice none 0 0)) 58
  nP : K + 2 ≤ N
  nB : vB.ownBlock ≠ some N
  below : Below K W X
theorem RA.drew {K N : Nat} {W X : World} {SA : Option Addr} {l : List Int} {vB : Value} {q : List (List UInt8)} {vF : Value} {fs : List Int} {A1 : Option Addr} {b : List UInt8} {CN : Array Value} (h : RA K N W X SA l vB q vF fs A1 b CN) : RA K N W X.drew SA l vB q vF fs A1 b CN :=
  ⟨h.all.after (Below.refl _ _).drew, h.body, h.bodyne, h.n, h.z, h.nP, h.nB, h.below.drew⟩
theorem RA.alloc {K N : Nat} {W X : World} {SA : Option Addr} {l : List Int} {vB : Value} {q : List (List UInt8)} {vF : Value} {fs : List Int} {A1 : Option Addr} {b : List UInt8} {CN : Array Value} (h : RA K N W X SA l vB q vF fs A1 b CN) (o : Obj) : RA K N W (X.alloc o) SA l vB q vF fs A1 b CN := by
  have hb : Below X.heap.size X (X.alloc o) := (Below.refl _ _).alloc (Nat.le_refl _) o
  exact ⟨h.all.after hb, (h.body.below hb).lift hb.size, h.bodyne, h.n.alloc o, h.z.alloc o, h.nP, h.nB, h.below.alloc (by have := h.all.base; omega) o⟩
theorem RA.set {K N k : Nat} {W X : World} {SA : Option Addr} {l : List Int} {vB : Value} {q : List (List UInt8)} {vF : Value} {fs : List Int} {A1 : Option Addr} {b : List UInt8} {CN : Array Value} {u : Value} (h : RA K N W X SA l vB q vF fs A1 b CN) : RA K N W (X.setCell ⟨K, k, none⟩ u) SA l vB q vF fs A1 b CN := by
  have := h.nP
  exact ⟨h.all.set (Nat.le_refl _) (by omega), (by
    by_cases he : b = []
    · exact .inl (by simp [he])
    · exact (h.body.other (fun ad e => by have := (h.bodyne he ad e).1; omega)).lift (by simp)), h.bodyne, h.n.other (by omega), h.z.other (by omega), h.nP, h.nB, h.below.setCell (Nat.le_refl _) _⟩
theorem RA.set3 {K N : Nat} {W X : World} {SA : Option Addr} {l : List Int} {vB : Value} {q : List (List UInt8)} {vF : Value} {fs : List Int} {A1 : Option Addr} {b : List UInt8} {CN : Array Value} {u0 u1 u2 : Value} (h : RA K N W X SA l vB q vF fs A1 b CN) : RA K N W (((X.setCell ⟨K, 0, none⟩ u0).setCell ⟨K, 1, none⟩ u1).setCell ⟨K, 2, none⟩ u2) SA l vB q vF fs A1 b CN :=
  h.set.set.set
/-- the body is in its row -/
theorem RA.app {K N : Nat} {W X X' : World} {SA : Option Addr} {l : List Int} {vB vB' : Value} {q q' : List (List UInt8)} {vF : Value} {fs : List Int} {A1 : Option Addr} {b : List UInt8} {CN : Array Value} (h : RA K N W X SA l vB q vF fs A1 b CN) (ha : AllAt K (K + 2) X' SA l vB' q' vF fs) (hb : Below (K + 2) X X') (hg : X.grownBy X' vB.ownBlock) (hn : vB'.ownBlock = vB.ownBlock ∨ vB'.ownBlock = some X.heap.size) : RA K N W X' SA l vB' q' vF fs none [] CN := by
  have hP := h.nP
  have hNl := h.n.lt
  exact ⟨ha, .inl rfl, (fun _ ad e => by cases e), (hg.block N hNl fun e => h.nB e.symm).trans h.n, h.z.below hb (by omega), hP, (fun e => by
    rcases hn with r | r
    · exact h.nB (r ▸ e)
    · rw [r] at e; injection e with e; omega), h.below.trans (hb.mono (by omega))⟩
theorem oper_allR {o : Oper} {a : Act} {K' : Act → World → Prop} {Q : Exit → Act → World → Prop} {K N : Nat} {W X : World} {SA : Option Addr} {l : List Int} {vB : Value} {q : List (List UInt8)} {vF : Value} {fs : List Int} {A1 : Option Addr} {b : List UInt8} {CN : Array Value} (s x : Operand)
    (ho : o.op = .call { callee := .builtin .append, args := #[s, x], argTypes := #[39, 39] }) (h : RA K N W X SA l vB q vF fs A1 b CN) (hs : a.eval s = vB) (B : Nat) (A : Option Addr) (c : Nat) (c1 : Nat)
    (hx : a.eval x = .slice A 1 c) (hc : Cells X B A [.slice A1 b.length c1]) (hk : b.length ≤ c1 ∧ c1 ≤ maxLen) (hq : q.length ≤ 100000)
    (hK : ∀ v' w', RA K N W w' SA l v' (q ++ [b]) vF fs none [] CN → Below (K + 2) X w' → K' (a.put o.dst v') w') : o.wp Try.prog a X K' Q :=
  oper_allB s x ho h.all hs B A c A1 b c1 hx hc hk h.body h.bodyne hq fun v' w' h1 h2 h3 h4 => hK v' w' (h.app h1 h2 h3 h4) h2
end Go.Proofs.Yteikggieekhfkaa
