/- the first texts of this proof, put together: words for memory, plain mathematics. -/
import Derived.Test.YteikggieekhfkaaProg
import Derived.Below
import Derived.Laws.OwnMore
import Derived.Deep.Draws
import Derived.Test.YteikggieekhfkaaRows
import Derived.ProofKit
import Derived.WalkKit
import Derived.Outline
import Derived.OwnWalk
import Derived.Maps.AppendAt
import Derived.Lib.Hide
import Derived.KernelRfl
import Derived.OpenShut
import Derived.Deep.Fields
import Derived.RegionTactic
import Derived.Deep.QuietTactic
import Derived.BigQuiet
import Derived.Deep.Slices
import Derived.Deep.Strs
import Derived.SizedLaws
/- words for memory: a slice whose cells are a list; bytes. -/
namespace Go.Proofs.Yteikggieekhfkaa
open Go.RowKit

theorem add_block (a : Addr) (n : Nat) : (a.add n).block = a.block := by unfold Addr.add; split <;> rfl
theorem addr_zero (a : Addr) : a.add 0 = a := by simp [Addr.add]
theorem add_twice (a : Addr) (i j : Nat) : (a.add i).add j = a.add (i + j) := by
  unfold Addr.add
  by_cases hi : i = 0 <;> by_cases hj : j = 0 <;> simp [hi, hj, Nat.add_assoc]

theorem below_draws {B : Nat} {a w : World} (h : Below B a w) (n : Nat) : Below B a (w.drewN n) := ⟨h.os, h.tape, h.output, h.size, h.block⟩
/-- at A, below block B, lie the cells xs -/
def Cells (w : World) (B : Nat) (A : Option Addr) (xs : List Value) : Prop :=
  xs = [] ∨ ∃ ad, A = some ad ∧ ad.block < B ∧ ∀ j v, xs[j]? = some v → w.cell? (ad.add j) = some v

theorem Cells.get {w : World} {B : Nat} {A : Option Addr} {xs : List Value} (h : Cells w B A xs) (k : Nat) (hk : k < xs.length) :
    ∃ ad, A = some ad ∧ ad.block < B ∧ w.cell? (ad.add k) = some xs[k] := by
  rcases h with rfl | ⟨ad, e, hb, hc⟩
  · simp at hk
  · exact ⟨ad, e, hb, hc k _ (List.getElem?_eq_getElem hk)⟩
theorem Cells.stay {w w' : World} {B : Nat} {A : Option Addr} {xs : List Value} (h : Cells w B A xs) (hk : ∀ p : Addr, p.block < B → w'.cell? p = w.cell? p) : Cells w' B A xs := by
  rcases h with e | ⟨ad, e, hb, hc⟩
  · exact .inl e
  · exact .inr ⟨ad, e, hb, fun j v hv => (hk _ (by rw [add_block]; exact hb)).trans (hc j v hv)⟩
theorem Cells.below {w w' : World} {B : Nat} {A : Option Addr} {xs : List Value} (h : Cells w B A xs) (hb : Below B w w') : Cells w' B A xs := h.stay fun _ hp => hb.cell hp
theorem Cells.lift {w : World} {B B' : Nat} {A : Option Addr} {xs : List Value} (h : Cells w B A xs) (hb : B ≤ B') : Cells w B' A xs := by
  rcases h with e | ⟨ad, e, hl, hc⟩
  · exact .inl e
  · exact .inr ⟨ad, e, by omega, hc⟩
theorem Cells.tail {w : World} {B : Nat} {A : Option Addr} {xs : List Value} (h : Cells w B A xs) (k : Nat) (hk : k < xs.length) : ∃ ad, A = some ad ∧ Cells w B (some (ad.add k)) (xs.drop k) := by
  rcases h with rfl | ⟨ad, e, hl, hc⟩
  · simp at hk
  · refine ⟨ad, e, .inr ⟨_, rfl, by rw [add_block]; exact hl, fun j v hv => ?_⟩⟩
    rw [add_twice]
    rw [List.getElem?_drop] at hv
    exact hc _ v hv
theorem Cells.front {w : World} {B : Nat} {A : Option Addr} {xs : List Value} (h : Cells w B A xs) (k : Nat) : Cells w B A (xs.take k) := by
  rcases h with rfl | ⟨ad, e, hl, hc⟩
  · exact .inl (by simp)
  · refine .inr ⟨ad, e, hl, fun j v hv => hc j v ?_⟩
    rw [List.getElem?_take] at hv
    split at hv
    · exact hv
    · cases hv

theorem Cells.fresh (w : World) (xs : List Value) (t : TypeId) (z : Nat × Nat) (C : Array Value) (hC : C = xs.toArray) : Cells (w.alloc (.cells C t z)) (w.heap.size + 1) (some ⟨w.heap.size, 0, none⟩) xs := by
  subst hC
  refine .inr ⟨_, rfl, by simp, fun j v hv => ?_⟩
  have e : (w.alloc (.cells xs.toArray t z)).heap[w.heap.size]? = some (.cells xs.toArray t z) := by
    show (w.heap.push _)[w.heap.size]? = _
    simp
  have e2 : (⟨w.heap.size, 0, none⟩ : Addr).add j = ⟨w.heap.size, j, none⟩ := by by_cases h : j = 0 <;> simp [Addr.add, h]
  rw [e2]
  simp only [World.cell?, e]
  simpa using hv

/-- a byte as a cell -/
def bv (c : UInt8) : Value := .int .u8 (c.toNat : Int)
def BR (w : World) (B : Nat) (A : Option Addr) (l : List UInt8) : Prop := Cells w B A (l.map bv)
theorem BR.get {w : World} {B : Nat} {A : Option Addr} {l : List UInt8} (h : BR w B A l) (k : Nat) (hk : k < l.length) :
    ∃ ad, A = some ad ∧ ad.block < B ∧ w.cell? (ad.add k) = some (.int .u8 (l[k].toNat : Int)) := by
  obtain ⟨ad, e, hb, hc⟩ := Cells.get h k (by simpa using hk)
  exact ⟨ad, e, hb, by simpa [bv] using hc⟩
theorem BR.below {w w' : World} {B : Nat} {A : Option Addr} {l : List UInt8} (h : BR w B A l) (hb : Below B w w') : BR w' B A l := Cells.below h hb
theorem BR.lift {w : World} {B B' : Nat} {A : Option Addr} {l : List UInt8} (h : BR w B A l) (hb : B ≤ B') : BR w B' A l := Cells.lift h hb
theorem BR.tail {w : World} {B : Nat} {A : Option Addr} {l : List UInt8} (h : BR w B A l) (k : Nat) (hk : k < l.length) : ∃ ad, A = some ad ∧ BR w B (some (ad.add k)) (l.drop k) := by
  obtain ⟨ad, e, hc⟩ := Cells.tail h k (by simpa using hk)
  exact ⟨ad, e, by simpa [BR] using hc⟩
theorem BR.front {w : World} {B : Nat} {A : Option Addr} {l : List UInt8} (h : BR w B A l) (k : Nat) : BR w B A (l.take k) := by
  have := Cells.front h k
  simpa [BR] using this
theorem ret_int {k : IntKind} {a b : Int} (h : a = b) : Ending.returned (.int k a) = .returned (.int k b) := by rw [h]
theorem ret_bool {a b : Bool} (h : a = b) : Ending.returned (.bool a) = .returned (.bool b) := by rw [h]
theorem Cells.fresh' (w : World) (xs : List Value) (t : TypeId) (z : Nat × Nat) (C : Array Value) (hC : C = xs.toArray) : Cells (w.alloc (.cells C t z)) (w.heap.size + 1) (some ⟨w.heap.size, 0, none⟩) xs := Cells.fresh w xs t z C hC
/-- a number as a cell -/
def iv (z : Int) : Value := .int .i64 z
def IR (w : World) (B : Nat) (A : Option Addr) (l : List Int) : Prop := Cells w B A (l.map iv)
theorem IR.get {w : World} {B : Nat} {A : Option Addr} {l : List Int} (h : IR w B A l) (k : Nat) (hk : k < l.length) :
    ∃ ad, A = some ad ∧ ad.block < B ∧ w.cell? (ad.add k) = some (.int .i64 l[k]) := by
  obtain ⟨ad, e, hb, hc⟩ := Cells.get h k (by simpa using hk)
  exact ⟨ad, e, hb, by simpa [iv] using hc⟩
theorem IR.below {w w' : World} {B : Nat} {A : Option Addr} {l : List Int} (h : IR w B A l) (hb : Below B w w') : IR w' B A l := Cells.below h hb
theorem IR.lift {w : World} {B B' : Nat} {A : Option Addr} {l : List Int} (h : IR w B A l) (hb : B ≤ B') : IR w B' A l := Cells.lift h hb
end Go.Proofs.Yteikggieekhfkaa

/- closed facts of the program that every row asks, each a declaration of its own. -/
namespace Go.Proofs.Yteikggieekhfkaa
theorem laidOut : laidOutB Try.prog = true := by kernel_rfl
theorem pMaps : mapsRowed Try.prog = true := by kernel_rfl
theorem pStops : (Try.prog.stops == []) = true := by kernel_rfl
theorem pKnobs : (Try.prog.stopKnobs == []) = true := by kernel_rfl
theorem pHeard : Try.prog.stopsHeard = true := by kernel_rfl
theorem pKeys : (Rows.commandTakesMatchSpecRow.plainKeys == Try.prog.plainKeys) = true := by kernel_rfl
theorem pEnter : Try.prog.mayEnter = true := by kernel_rfl
theorem pLifts : (Rows.commandTakesMatchSpecRow.lifted == Try.prog.liftsFinal) = true := by kernel_rfl
theorem pMake : (Try.prog.make == some Rows.commandTakesMatchSpecRow.make) = true := by kernel_rfl
theorem both {a b : Bool} (ha : a = true) (hb : b = true) : (a && b) = true := by rw [ha, hb]; rfl
end Go.Proofs.Yteikggieekhfkaa

/- appending onto a row of the call's own; rows of bytes. -/
namespace Go.Proofs.Yteikggieekhfkaa
open Go.RowKit

/-- t is the slice type of e, whose values take some cells and bytes -/
def Elem (t e : TypeId) (size bytes : Nat) : Prop :=
  Try.prog.underlying t = some (.slice e) ∧ ∃ i z, Try.prog.info? e = some i ∧ i.zero = some z ∧ i.size = size ∧ i.bytes = bytes ∧ z.cells.size = size ∧ 0 < size
theorem info3 : (Try.prog.info? 3).map (fun i => (i.zero, i.size, i.bytes)) = some (some (.int .i64 0), 1, 8) := by kernel_rfl
theorem elemI : Elem 56 3 1 8 := by
  obtain ⟨i, h1, h2, h3, h4⟩ := info_parts info3
  exact ⟨Try.underlying56, i, _, h1, h2, h3, h4, rfl, by omega⟩

theorem run_app {t e : TypeId} {size bytes : Nat} (hE : Elem t e size bytes) (w : World) (base : Nat) (ty : TypeId) (v : Value) (n : Nat) (xs : List Value) (hown : w.ownsRow base e size v n xs)
    (B : Nat) (A : Option Addr) (m c : Nat) (news : List Value) (hl : news.length = m * size) (hc : Cells w B A news) (h1 : ∀ u ∈ news, u.oneCell' = true)
    (h63 : n + m ≤ maxLen) (hb : (n + m) * bytes ≤ 140737488355328) (hbase : base ≤ w.heap.size) :
    ∃ v' w', (Builtin.append_ #[t, t] ty #[v, .slice A m c]).run Try.prog w = .ok v' w' ∧ w'.ownsRow base e size v' (n + m) (xs ++ news) ∧ w.grownBy w' v.ownBlock ∧
      (v'.ownBlock = v.ownBlock ∨ v'.ownBlock = some w.heap.size) := by
  obtain ⟨ht, i, z, hi, hz, hs, hby, hzs, hsz⟩ := hE
  cases A with
  | none =>
    have hn : news = [] := by
      rcases hc with e | ⟨ad, e, _⟩
      · exact e
      · cases e
    subst hn
    have hm : m = 0 := by
      rcases Nat.eq_zero_or_pos m with h | h
      · exact h
      · have := Nat.mul_pos h hsz
        simp at hl
        omega
    subst hm
    refine ⟨v, w, ?_, by simpa using hown, World.grownBy.refl w _, .inl rfl⟩
    rcases hown.2 with ⟨rfl, rfl⟩ | ⟨g, cap, cur, rfl, _, _, hnc, _⟩
    · simp [Builtin.append_, run_underlying ht, sizeOf, typeInfo, hi, Builtin.lenOf, Builtin.firstCells]
    · simp [Builtin.append_, run_underlying ht, sizeOf, typeInfo, hi, Builtin.lenOf, Builtin.firstCells, hnc, storeCells]
  | some ad =>
    have hnews : ∀ j u, news[j]? = some u → w.cell? (ad.add j) = some u := by
      rcases hc with e | ⟨ad', e, _, h⟩
      · subst e
        intro j u hu
        simp at hu
      · obtain rfl : ad = ad' := by injection e
        exact h
    obtain ⟨v', w', hrun, a1, a2, _, a3⟩ := run_append_own_at (P := Try.prog) w base t ty e i z size bytes ht hi hz hs hby hzs hsz v n xs hown ad m c news hl hnews h1 h63 hb hbase
    exact ⟨v', w', hrun, a1, a2, a3⟩

theorem wpList_app {ops : Array Oper} {rest : List Oper} {o : Oper} {a : Act} {Q : Exit → Act → World → Prop} (w : World) (hgd : o.guard = none) (s x : Operand) (t e : TypeId) (size bytes : Nat)
    (ho : o.op = .call { callee := .builtin .append, args := #[s, x], argTypes := #[t, t] }) (hE : Elem t e size bytes) (base : Nat)
    (v : Value) (n : Nat) (xs : List Value) (hs : a.eval s = v) (hown : w.ownsRow base e size v n xs) (B : Nat) (A : Option Addr) (m c : Nat) (news : List Value)
    (hx : a.eval x = .slice A m c) (hl : news.length = m * size) (hc : Cells w B A news) (h1 : ∀ u ∈ news, u.oneCell' = true)
    (h63 : n + m ≤ maxLen) (hb : (n + m) * bytes ≤ 140737488355328) (hbase : base ≤ w.heap.size)
    (h : ∀ v' w', w'.ownsRow base e size v' (n + m) (xs ++ news) → w.grownBy w' v.ownBlock → (v'.ownBlock = v.ownBlock ∨ v'.ownBlock = some w.heap.size) → wpList Try.prog ops Q rest (a.put o.dst v') w') :
    wpList Try.prog ops Q (o :: rest) a w := by
  refine wpList_plain hgd fun K hK => ?_
  obtain ⟨v', w', hrun, a1, a2, a3⟩ := run_app hE w base o.type v n xs hown B A m c news hl hc h1 h63 hb hbase
  unfold Oper.wp execOp
  simp only [ho, resolve, invoke, builtin, Sem.run_bind, Sem.run_pure, Result.andThen_ok, List.map_toArray, List.map_cons, List.map_nil, hs, hx, hrun]
  exact hK _ _ (h v' w' a1 a2 a3)

/-- a row of bytes of the call's own -/
def Own (w : World) (base : Nat) (v : Value) (l : List UInt8) : Prop := w.ownsRow base 5 1 v l.length (l.map bv)
theorem bv_one (l : List UInt8) : ∀ u ∈ l.map bv, u.oneCell' = true := by
  intro u hu
  obtain ⟨c, _, rfl⟩ := List.mem_map.1 hu
  rfl
theorem Own.form {w : World} {base : Nat} {v : Value} {l : List UInt8} (h : Own w base v l) : ∃ A c, v = .slice A l.length c ∧ BR w w.heap.size A l := by
  have hh := h
  rcases hh.2 with ⟨rfl, hn⟩ | ⟨g, cap, cur, rfl, hb, hg, hnc, _⟩
  · rw [hn]
    exact ⟨none, 0, rfl, .inl (by simp [List.eq_nil_of_length_eq_zero hn])⟩
  · refine ⟨_, cap, rfl, .inr ⟨_, rfl, ?_, fun j u hu => World.ownsRow.cells h (g := g) rfl j u hu⟩⟩
    exact (h.lt g rfl).2
theorem Own.read {w : World} {base n c : Nat} {A : Option Addr} {l : List UInt8} (h : Own w base (.slice A n c) l) : n = l.length ∧ BR w w.heap.size A l := by
  obtain ⟨A', c', e, hB⟩ := h.form
  injection e with e1 e2
  subst e1
  exact ⟨e2, hB⟩
theorem Own.after {w w' : World} {base B : Nat} {v : Value} {l : List UInt8} (h : Own w base v l) (hb : Below B w w') (hB : w.heap.size ≤ B) : Own w' base v l :=
  World.ownsRow.kept (row := none) h ⟨hb.os, hb.tape, hb.output, hb.size, fun k hk _ => hb.block k (by omega)⟩ (by
    rcases h' : v.ownBlock with _ | g
    · exact .inl rfl
    · exact .inr (by simp))
theorem Own.nil (w : World) (base : Nat) : Own w base (.slice none 0 0) [] := w.ownsRow_nil base 5 1
theorem Own.of {w : World} {base m : Nat} {v : Value} {a b : List UInt8} (h : w.ownsRow base 5 1 v (a.length + m) (a.map bv ++ b.map bv)) (hm : m = b.length) : Own w base v (a ++ b) := by
  subst hm
  unfold Own
  rw [List.length_append, List.map_append]
  exact h
/-- what an append leaves, said of bytes -/
def Next (w w' : World) (v v' : Value) : Prop := w.grownBy w' v.ownBlock ∧ (v'.ownBlock = v.ownBlock ∨ ∃ g, v'.ownBlock = some g ∧ w.heap.size ≤ g)
theorem Next.below {w w0 w' : World} {v v' : Value} {base : Nat} {l : List UInt8} (h : Next w w' v v') (ho : Own w base v l) (hb : Below base w0 w) (hz : base ≤ w.heap.size) : Below base w0 w' :=
  hb.grown h.1 hz fun k hk => (ho.lt k hk).1

theorem Own.lower {w : World} {base base' : Nat} {v : Value} {l : List UInt8} (h : Own w base v l) (hb : base' ≤ base) : Own w base' v l := by
  refine ⟨h.1, ?_⟩
  rcases h.2 with e | ⟨g, cap, cur, e, hg, r⟩
  · exact .inl e
  · exact .inr ⟨g, cap, cur, e, by omega, r⟩
/-- below a row's base all is as it was -/
theorem Below.at_ {B : Nat} {a w : World} (h : Below B a w) (b : Nat) (hb : b < B) (k : Nat) : w.cell? ⟨b, k, none⟩ = a.cell? ⟨b, k, none⟩ := h.cell (p := ⟨b, k, none⟩) hb

/-- a row of numbers of the call's own -/
def OwnI (w : World) (base : Nat) (v : Value) (l : List Int) : Prop := w.ownsRow base 3 1 v l.length (l.map iv)
theorem iv_one (l : List Int) : ∀ u ∈ l.map iv, u.oneCell' = true := by
  intro u hu
  obtain ⟨c, _, rfl⟩ := List.mem_map.1 hu
  rfl
theorem OwnI.form {w : World} {base : Nat} {v : Value} {l : List Int} (h : OwnI w base v l) : ∃ A c, v = .slice A l.length c ∧ IR w w.heap.size A l := by
  have hh := h
  rcases hh.2 with ⟨rfl, hn⟩ | ⟨g, cap, cur, rfl, hb, hg, hnc, _⟩
  · rw [hn]
    exact ⟨none, 0, rfl, .inl (by simp [List.eq_nil_of_length_eq_zero hn])⟩
  · refine ⟨_, cap, rfl, .inr ⟨_, rfl, ?_, fun j u hu => World.ownsRow.cells h (g := g) rfl j u hu⟩⟩
    exact (h.lt g rfl).2
theorem OwnI.read {w : World} {base n c : Nat} {A : Option Addr} {l : List Int} (h : OwnI w base (.slice A n c) l) : n = l.length ∧ IR w w.heap.size A l := by
  obtain ⟨A', c', e, hB⟩ := h.form
  injection e with e1 e2
  subst e1
  exact ⟨e2, hB⟩
theorem OwnI.after {w w' : World} {base B : Nat} {v : Value} {l : List Int} (h : OwnI w base v l) (hb : Below B w w') (hB : w.heap.size ≤ B) : OwnI w' base v l :=
  World.ownsRow.kept (row := none) h ⟨hb.os, hb.tape, hb.output, hb.size, fun k hk _ => hb.block k (by omega)⟩ (by
    rcases h' : v.ownBlock with _ | g
    · exact .inl rfl
    · exact .inr (by simp))
theorem OwnI.nil (w : World) (base : Nat) : OwnI w base (.slice none 0 0) [] := w.ownsRow_nil base 3 1
theorem OwnI.of {w : World} {base m : Nat} {v : Value} {a b : List Int} (h : w.ownsRow base 3 1 v (a.length + m) (a.map iv ++ b.map iv)) (hm : m = b.length) : OwnI w base v (a ++ b) := by
  subst hm
  unfold OwnI
  rw [List.length_append, List.map_append]
  exact h
theorem OwnI.lower {w : World} {base base' : Nat} {v : Value} {l : List Int} (h : OwnI w base v l) (hb : base' ≤ base) : OwnI w base' v l := by
  refine ⟨h.1, ?_⟩
  rcases h.2 with e | ⟨g, cap, cur, e, hg, r⟩
  · exact .inl e
  · exact .inr ⟨g, cap, cur, e, by omega, r⟩
end Go.Proofs.Yteikggieekhfkaa

/- from a walk to a row: every argument reads behind the call as it did; the answer is true. -/
namespace Go.Proofs.Yteikggieekhfkaa
open Go.ChangeShapes Go.WideShapes Go.ChangeAt Go.RowKit

theorem own : ownKnob Try.prog.godebug = none := by kernel_rfl

theorem cells3 : Try.prog.cellsOf 3 = 1 := by kernel_rfl

theorem carried {H : Type} {enc : TypeId × Value → H} {W W' : World} (hb : Below W.heap.size W W') :
    ∀ {ts : List TypeId} {vs : List Value} {ds : List (DataW H)} {ps : List MemPlace}, (∀ t ∈ ts, Try.prog.readableRec t = true ∧ t < Try.prog.types.size) →
      DataW.TrodAll enc Try.prog W 0 (fun _ => true) true ts vs ds ps → (∀ x ∈ ps, x.block < W.heap.size) →
      DataW.TrodAll enc Try.prog W' 0 (fun b => decide (b < W.heap.size)) true ts vs ds ps
  | [], vs, ds, ps, _, h, _ => by
    obtain ⟨rfl, rfl, rfl⟩ := trodAll_nil h
    exact trodAll_mk0
  | t :: ts, vs, ds, ps, hr, h, hlt => by
    obtain ⟨v, vs1, d, ds1, a, b, rfl, rfl, rfl, h1, h2⟩ := trodAll_cons h
    have ht := hr t (by simp)
    exact trodAll_cons_mk (Below.trod laidOut ht.1 ht.2 h1 hb (fun x hx => hlt x (List.mem_append.2 (.inl hx))))
      (carried hb (fun u hu => hr u (by simp [hu])) h2 (fun x hx => hlt x (List.mem_append.2 (.inr hx))))

/-- The row's last step, for a law that answers true and makes new memory alone. -/
theorem law_post {H : Type} {enc : TypeId × Value → H} {f : Func} {s : ChangeSpec} {W W' : World} {args : Array Value} {ds gs : List (DataW H)} {before : List MemPlace}
    (hr : ∀ t ∈ f.params.toList, Try.prog.readableRec t = true ∧ t < Try.prog.types.size) (hres : f.resultTypes = #[4]) (hv : s.vars = [])
    (hW : DataW.Whole enc Try.prog f.params.toList s.vars false W args.toList ds gs before) (hf : s.fn H ds = { results := [.lit (.bool true)], args := ds }) (hb : Below W.heap.size W W') :
    s.post enc Try.prog f false true false false W args (.bool true) W' := by
  have hW' := hW
  have hlt : ∀ x ∈ before, x.block < W.heap.size := fun x hx => by simpa using hW'.lt x hx
  obtain ⟨p, q, hA, hV, hp, _, _⟩ := hW
  rw [hv] at hV
  obtain ⟨rfl, rfl⟩ := trodVars_none hV
  obtain rfl : before = p := by simpa using hp
  have hA' := carried hb hr hA hlt
  refine ⟨ds, [], before, [], before, [], hW', ?_, ?_, ?_, hb.frame _, fun h => by cases h⟩
  · rw [List.append_nil, hf, hres]
    exact trodAll_mk1 (shut_bool Try.underlying4 _)
  · rw [List.append_nil, hf]
    exact hA'
  · rw [List.append_nil, hf, hv]
    rfl

theorem u8_bd {z : Int} (h : (Lit.int .u8 z).wf = true) : 0 ≤ z ∧ z ≤ 255 := by
  simp only [Lit.wf, Bool.and_eq_true, decide_eq_true_eq] at h
  exact h
theorem row_head (a : Addr) (n : Nat) (h : 0 < n) : MemPlace.cell a.block a.off ∈ MemPlace.row a n :=
  List.mem_map.2 ⟨0, by simpa using h, by simp⟩

theorem i64_bd {z : Int} (h : (Lit.int .i64 z).wf = true) : -9223372036854775808 ≤ z ∧ z ≤ 9223372036854775807 := by
  simp only [Lit.wf, Bool.and_eq_true, decide_eq_true_eq] at h
  exact h
/-- A number slice that came in. -/
theorem open_is {H : Type} {enc : TypeId × Value → H} {W : World} {sp : Nat → Bool} {held : Bool} {n : Nat} {v : Value} {y : DataW H × List MemPlace}
    (hlt : ∀ x ∈ y.2, x.block < W.heap.size) (h : DataW.trod enc Try.prog W 0 sp held n 56 [v] = some y) :
    ∃ (A : Option Addr) (c : Nat) (l : List Int), v = .slice A l.length c ∧ l.length ≤ c ∧ c ≤ maxLen ∧ IR W W.heap.size A l ∧ ∀ z ∈ l, -9223372036854775808 ≤ z ∧ z ≤ 9223372036854775807 := by
  rcases open_ints Try.underlying56 Try.underlying3 cells3 h with ⟨hcs, hx⟩ | ⟨a, len, cap, zs, hcs, _, hl, hm, hz, hx, hcell, hwz⟩
  · refine ⟨none, 0, [], by simpa using hcs, by simp, by simp [maxLen], .inl rfl, by simp⟩
  · have hlen : (zs.take len).length = len := by
      simp
      split at hz <;> omega
    refine ⟨some a, cap, zs.take len, ?_, by omega, hm, ?_, fun z hz' => i64_bd (hwz z (List.mem_of_mem_take hz'))⟩
    · rw [hlen]
      simpa using hcs
    rcases Nat.eq_zero_or_pos len with h0 | hpos
    · subst h0
      exact .inl (by simp)
    have hzl : len ≤ zs.length := by split at hz <;> omega
    refine .inr ⟨a, rfl, ?_, fun j u hu => ?_⟩
    · have := hlt (MemPlace.cell a.block a.off) (by rw [hx]; exact row_head a zs.length (by omega))
      exact this
    · have hj : j < len := by
        have := (List.getElem?_eq_some_iff.1 hu).1
        simp at this
        omega
      have hb := hcell j (by omega)
      rw [hb]
      have hzj : zs[j]? = some (zs[j]'(by omega)) := List.getElem?_eq_getElem (by omega)
      rw [← hu]
      simp [iv, hj, hzj, List.getD]
set_option maxRecDepth 100000 in
theorem open_fields {H : Type} {enc : TypeId × Value → H} {W : World} {r : Reach} {b0 : Nat} {sp : Nat → Bool} {held : Bool} {t : TypeId} {fs : Array Field} {v : Value} {d : DataW H} {p : List MemPlace}
    (hs : Try.prog.underlying t = some (.struct fs)) (hone : Go.Deep.oneCellFields Try.prog fs = true) (hC : Try.prog.cellsOf t = fs.size)
    (hv : Value.okWide Try.prog W r b0 t v) (h : DataW.Trod enc Try.prog W 0 sp held t v d p) :
    ∃ (cs : List Value) (ys : List (DataW H × List MemPlace)) (n : Nat), v = .agg cs.toArray ∧ cs.length = fs.size ∧ p = ys.flatMap (·.2) ∧ ys.length = fs.size ∧
      ∀ (i : Nat) (f : Field), fs[i]? = some f → ∃ c y, cs[i]? = some c ∧ ys[i]? = some y ∧ DataW.trod enc Try.prog W 0 sp held n f.type [c] = some y := by
  obtain ⟨cs, rfl, hsz⟩ := okWide_struct hs hv
  obtain ⟨l⟩ := cs
  have hl : l.length = fs.size := hsz.trans hC
  obtain ⟨fuel, hf⟩ := h
  obtain ⟨xs, n, _, hx, _, hlen, hg⟩ := DataW.trod_struct hs hf
  simp only [Prod.mk.injEq] at hx
  refine ⟨l, xs, n, rfl, hl, hx.2, hlen, fun i f hi => ?_⟩
  have hlt : i < fs.size := (Array.getElem?_eq_some_iff.1 hi).1
  obtain ⟨ho, hk⟩ := Go.Deep.hone_of hone i f hi
  have hgi := hg i f hi
  rw [ho, hk] at hgi
  have e : ((Value.agg l.toArray).cells.toList.drop i).take 1 = [l[i]'(by omega)] := by
    show (l.drop i).take 1 = _
    rw [List.drop_eq_getElem_cons (by omega)]
    rfl
  rw [show (List.take 1 (List.drop i (Value.agg l.toArray).cells.toList)) = [l[i]'(by omega)] from e] at hgi
  exact ⟨_, _, List.getElem?_eq_getElem (by omega), List.getElem?_eq_getElem (by omega), hgi.trans (List.getElem?_eq_getElem (by omega))⟩

end Go.Proofs.Yteikggieekhfkaa

/- boards and commands as numbers: what a board becomes by a command. -/
namespace Go.Proofs.Yteikggieekhfkaa
open Go.RowKit

structure Upl where
  n : Int
  v : Int
  L : Bool
  R : Bool
  T : Bool
  k : Int
/-- a board as a value -/
def uplV (n v : Int) (L R T : Bool) (k : Int) : Value := .agg #[.int .i64 n, .int .i64 v, .bool L, .bool R, .bool T, .int .i64 k]
def Upl.val (b : Upl) : Value := uplV b.n b.v b.L b.R b.T b.k
/-- the fault of a board -/
def brdS (n v k : Int) : Int := if 0 ≤ n ∧ n ≤ 255 then (if v.tmod 2 = 0 then (if 2 ≤ v ∧ v ≤ 254 then (if 0 ≤ k ∧ k ≤ 1000000 then 0 else 1) else 1) else 1) else 1
structure BrdOk (n v k : Int) : Prop where
  n0 : 0 ≤ n
  n1 : n ≤ 255
  v0 : 2 ≤ v
  v1 : v ≤ 254
  ev : v.tmod 2 = 0
  k0 : 0 ≤ k
  k1 : k ≤ 1000000
theorem brd_ok {n v k : Int} (h : brdS n v k = 0) : BrdOk n v k := by
  unfold brdS at h
  repeat' split at h
  all_goals first | (simp at h; done) | skip
  rename_i a b c d
  exact ⟨a.1, a.2, c.1, c.2, b, d.1, d.2⟩
/-- has a kind a number, a body -/
def numK (c : Int) : Bool := decide (c = 1) || decide (c = 4)
def bodK (c : Int) : Bool := decide (c = 1) || decide (c = 2)
/-- the fault of a body -/
def bodS (n : Nat) : Int := if n = 0 then 9 else if 200 < n then 2 else 0
/-- the fault of a command -/
def ordS (c m : Int) (n : Nat) : Int :=
  if 1 ≤ c ∧ c ≤ 5 then (if 0 ≤ m ∧ m ≤ 255 then (if m ≠ 0 ∧ numK c = false then 1 else if bodK c = true then bodS n else if 0 < n then 3 else 0) else 1) else 4
/-- how far a number is after another one -/
def aft (n m : Int) : Int := (n - m + 256) % 256
/-- a board behind a plain command -/
def plainS (b : Upl) (m : Int) : Upl × Int :=
  if b.L = true then (b, 5)
  else if m = b.n then (if b.T = true then (⟨b.n, b.v, b.L, true, b.T, b.k⟩, 6) else (⟨(b.n + 1) % 256, b.v, b.L, false, b.T, b.k + 1⟩, 1))
  else if aft m b.n < b.v / 2 then (⟨b.n, b.v, b.L, true, b.T, b.k⟩, 2)
  else if aft b.n m ≤ b.v / 2 then (b, 3)
  else (⟨b.n, b.v, true, b.R, b.T, b.k⟩, 4)
/-- a board behind a right command -/
def tookS (b : Upl) (c m : Int) : Upl × Int :=
  if c = 1 then plainS b m
  else if c = 2 then (⟨b.n, b.v, b.L, b.R, b.T, b.k + 1⟩, 1)
  else if c = 3 then (⟨b.n, b.v, false, false, false, b.k⟩, 7)
  else if c = 4 then (if b.L = true then (b, 5) else (⟨m, b.v, b.L, false, b.T, b.k⟩, 7))
  else if c = 5 then (⟨b.n, b.v, b.L, b.R, true, b.k⟩, 7)
  else (b, 7)
def zeroU : Upl := ⟨0, 0, false, false, false, 0⟩
/-- what Take answers: the board, what became, the fault -/
def takeS (b : Upl) (c m : Int) (n : Nat) : Upl × Int × Int :=
  if brdS b.n b.v b.k ≠ 0 then (zeroU, 0, brdS b.n b.v b.k)
  else if ordS c m n ≠ 0 then (zeroU, 0, ordS c m n)
  else if 1000000 < (tookS b c m).1.k then (zeroU, 0, 16)
  else ((tookS b c m).1, (tookS b c m).2, 0)
end Go.Proofs.Yteikggieekhfkaa

/- the walks of both CheckBoard, and of the checks of a command. -/
namespace Go.Proofs.Yteikggieekhfkaa
open Go.RowKit

set_option maxRecDepth 100000 in
set_option maxHeartbeats 400000 in
theorem p_within_any (n a b : Int) (w : World) :
    Calls Try.prog 55 #[.int .i64 n, .int .i64 a, .int .i64 b] w fun e w' => e = .returned (.bool (decide (a ≤ n ∧ n ≤ b))) ∧ w = w' := by
  by_cases h1 : a ≤ n
  · by_cases h2 : n ≤ b
    · have hd := Lib.hid (show decide (a ≤ n ∧ n ≤ b) = true by simp [h1, h2])
      go_enter Try.func55, Try.ntmps55
      go_wp2
      go_ret
      exact ⟨ret_bool (by have := hd.out; simp_all), rfl⟩
    · have hd := Lib.hid (show decide (a ≤ n ∧ n ≤ b) = false by simp [h2])
      go_enter Try.func55, Try.ntmps55
      go_wp2
      go_ret
      exact ⟨ret_bool (by have := hd.out; simp_all), rfl⟩
  · have hd := Lib.hid (show decide (a ≤ n ∧ n ≤ b) = false by simp [h1])
    go_enter Try.func55, Try.ntmps55
    go_wp2
    go_ret
    exact ⟨ret_bool (by have := hd.out; simp_all), rfl⟩
set_option maxRecDepth 100000 in
set_option maxHeartbeats 400000 in
theorem p_after_any (n m : Int) (w : World) (h1 : 0 ≤ n) (h2 : n ≤ 255) (h3 : 0 ≤ m) (h4 : m ≤ 255) :
    Calls Try.prog 103 #[.int .i64 n, .int .i64 m] w fun e w' => e = .returned (.int .i64 (aft n m)) ∧ w = w' := by
  go_enter Try.func103, Try.ntmps103
  go_wp2
  go_ret
  exact ⟨rfl, rfl⟩
set_option maxRecDepth 100000 in
set_option maxHeartbeats 400000 in
theorem r_within_any (n a b : Int) (w : World) :
    Calls Try.prog 56 #[.int .i64 n, .int .i64 a, .int .i64 b] w fun e w' => e = .returned (.bool (decide (a ≤ n ∧ n ≤ b))) ∧ w = w' := by
  by_cases h1 : a ≤ n
  · by_cases h2 : n ≤ b
    · have hd := Lib.hid (show decide (a ≤ n ∧ n ≤ b) = true by simp [h1, h2])
      go_enter Try.func56, Try.ntmps56
      go_wp2
      go_ret
      exact ⟨ret_bool (by have := hd.out; simp_all), rfl⟩
    · have hd := Lib.hid (show decide (a ≤ n ∧ n ≤ b) = false by simp [h2])
      go_enter Try.func56, Try.ntmps56
      go_wp2
      go_ret
      exact ⟨ret_bool (by have := hd.out; simp_all), rfl⟩
  · have hd := Lib.hid (show decide (a ≤ n ∧ n ≤ b) = false by simp [h1])
    go_enter Try.func56, Try.ntmps56
    go_wp2
    go_ret
    exact ⟨ret_bool (by have := hd.out; simp_all), rfl⟩
set_option maxRecDepth 100000 in
set_option maxHeartbeats 400000 in
theorem r_after_any (n m : Int) (w : World) (h1 : 0 ≤ n) (h2 : n ≤ 255) (h3 : 0 ≤ m) (h4 : m ≤ 255) :
    Calls Try.prog 92 #[.int .i64 n, .int .i64 m] w fun e w' => e = .returned (.int .i64 (aft n m)) ∧ w = w' := by
  go_enter Try.func92, Try.ntmps92
  go_wp2
  go_ret
  exact ⟨rfl, rfl⟩
set_option maxRecDepth 100000 in
set_option maxHeartbeats 400000 in
theorem p_isNumber_any (n : Int) (w : World) :
    Calls Try.prog 54 #[.int .i64 n] w fun e w' => e = .returned (.bool (decide (0 ≤ n ∧ n ≤ 255))) ∧ w = w' := by
  have HC := Lib.hid (p_within_any n 0 255)
  obtain ⟨d, hd⟩ : ∃ d, decide (0 ≤ n ∧ n ≤ 255) = d := ⟨_, rfl⟩
  rw [hd] at HC ⊢
  clear hd
  go_enter Try.func54, Try.ntmps54
  go_wp2_with (first | (go_at_call 55; refine (HC.out _).mono ?_; rintro e w' ⟨rfl, rfl⟩) | fail)
  go_ret
  exact ⟨rfl, rfl⟩
set_option maxRecDepth 100000 in
set_option maxHeartbeats 400000 in
theorem p_further_any (n m : Int) (w : World) (h1 : 0 ≤ n) (h2 : n ≤ 255) (h3 : 0 ≤ m) (h4 : m ≤ 255) :
    Calls Try.prog 102 #[.int .i64 n, .int .i64 m] w fun e w' => e = .returned (.int .i64 ((n + m) % 256)) ∧ w = w' := by
  go_enter Try.func102, Try.ntmps102
  go_wp2
  go_ret
  exact ⟨rfl, rfl⟩
set_option maxRecDepth 100000 in
set_option maxHeartbeats 1000000 in
theorem p_checkBoard_any (n v : Int) (L R T : Bool) (k : Int) (w : World) :
    Calls Try.prog 17 #[uplV n v L R T k] w fun e w' => e = .returned (.int .i64 (brdS n v k)) ∧ Below w.heap.size w w' := by
  have HE := Lib.hid (show brdS n v k = if 0 ≤ n ∧ n ≤ 255 then (if v.tmod 2 = 0 then (if 2 ≤ v ∧ v ≤ 254 then (if 0 ≤ k ∧ k ≤ 1000000 then 0 else 1) else 1) else 1) else 1 from rfl)
  generalize brdS n v k = X at *
  unfold uplV
  by_cases h1 : 0 ≤ n ∧ n ≤ 255
  · have d1 : decide (0 ≤ n ∧ n ≤ 255) = true := decide_eq_true h1
    by_cases h2 : v.tmod 2 = 0
    · have d2 : (v.tmod 2 != 0) = false := by simpa using h2
      by_cases h3 : 2 ≤ v ∧ v ≤ 254
      · have d3 : decide (2 ≤ v ∧ v ≤ 254) = true := decide_eq_true h3
        by_cases h4 : 0 ≤ k ∧ k ≤ 1000000
        · have d4 : decide (0 ≤ k ∧ k ≤ 1000000) = true := decide_eq_true h4
          have HR : Hid (X = 0) := Lib.hid (by rw [HE.out, if_pos h1, if_pos h2, if_pos h3, if_pos h4])
          clear HE h1 h2 h3 h4
          go_enter Try.func17, Try.ntmps17
          go_wp2_with (first | (go_at_call 55; refine (p_within_any _ _ _ _).mono ?_; rintro e w' ⟨rfl, rfl⟩) | (go_at_call 54; refine (p_isNumber_any _ _).mono ?_; rintro e w' ⟨rfl, rfl⟩) | fail)
          go_ret
          exact ⟨ret_int HR.out.symm, (Below.refl _ _).alloc (Nat.le_refl _) _⟩
        · have d4 : decide (0 ≤ k ∧ k ≤ 1000000) = false := decide_eq_false h4
          have HR : Hid (X = 1) := Lib.hid (by rw [HE.out, if_pos h1, if_pos h2, if_pos h3, if_neg h4])
          clear HE h1 h2 h3 h4
          go_enter Try.func17, Try.ntmps17
          go_wp2_with (first | (go_at_call 55; refine (p_within_any _ _ _ _).mono ?_; rintro e w' ⟨rfl, rfl⟩) | (go_at_call 54; refine (p_isNumber_any _ _).mono ?_; rintro e w' ⟨rfl, rfl⟩) | fail)
          go_ret
          exact ⟨ret_int HR.out.symm, (Below.refl _ _).alloc (Nat.le_refl _) _⟩
      · have d3 : decide (2 ≤ v ∧ v ≤ 254) = false := decide_eq_false h3
        have HR : Hid (X = 1) := Lib.hid (by rw [HE.out, if_pos h1, if_pos h2, if_neg h3])
        clear HE h1 h2 h3
        go_enter Try.func17, Try.ntmps17
        go_wp2_with (first | (go_at_call 55; refine (p_within_any _ _ _ _).mono ?_; rintro e w' ⟨rfl, rfl⟩) | (go_at_call 54; refine (p_isNumber_any _ _).mono ?_; rintro e w' ⟨rfl, rfl⟩) | fail)
        go_ret
        exact ⟨ret_int HR.out.symm, (Below.refl _ _).alloc (Nat.le_refl _) _⟩
    · have d2 : (v.tmod 2 != 0) = true := by simpa using h2
      have HR : Hid (X = 1) := Lib.hid (by rw [HE.out, if_pos h1, if_neg h2])
      clear HE h1 h2
      go_enter Try.func17, Try.ntmps17
      go_wp2_with (first | (go_at_call 55; refine (p_within_any _ _ _ _).mono ?_; rintro e w' ⟨rfl, rfl⟩) | (go_at_call 54; refine (p_isNumber_any _ _).mono ?_; rintro e w' ⟨rfl, rfl⟩) | fail)
      go_ret
      exact ⟨ret_int HR.out.symm, (Below.refl _ _).alloc (Nat.le_refl _) _⟩
  · have d1 : decide (0 ≤ n ∧ n ≤ 255) = false := decide_eq_false h1
    have HR : Hid (X = 1) := Lib.hid (by rw [HE.out, if_neg h1])
    clear HE h1
    go_enter Try.func17, Try.ntmps17
    go_wp2_with (first | (go_at_call 55; refine (p_within_any _ _ _ _).mono ?_; rintro e w' ⟨rfl, rfl⟩) | (go_at_call 54; refine (p_isNumber_any _ _).mono ?_; rintro e w' ⟨rfl, rfl⟩) | fail)
    go_ret
    exact ⟨ret_int HR.out.symm, (Below.refl _ _).alloc (Nat.le_refl _) _⟩
set_option maxRecDepth 100000 in
set_option maxHeartbeats 400000 in
theorem p_hasNumber_any (c : Int) (w : World) :
    Calls Try.prog 84 #[.int .i64 c] w fun e w' => e = .returned (.bool (numK c)) ∧ w = w' := by
  have HE := Lib.hid (show numK c = (decide (c = 1) || decide (c = 4)) from rfl)
  generalize numK c = X at *
  by_cases h1 : c = 1
  · have HR : Hid (X = true) := Lib.hid (by rw [HE.out]; simp [h1])
    have d1 : (c == 1) = true := by simpa using h1
    clear HE h1
    go_enter Try.func84, Try.ntmps84
    go_wp2
    go_ret
    exact ⟨ret_bool (by rw [HR.out]), rfl⟩
  · have d1 : (c == 1) = false := by simpa using h1
    by_cases h2 : c = 4
    · have HR : Hid (X = true) := Lib.hid (by rw [HE.out]; simp [h2])
      have d2 : (c == 4) = true := by simpa using h2
      clear HE h1 h2
      go_enter Try.func84, Try.ntmps84
      go_wp2
      go_ret
      exact ⟨ret_bool (by rw [HR.out]), rfl⟩
    · have HR : Hid (X = false) := Lib.hid (by rw [HE.out]; simp [h1, h2])
      have d2 : (c == 4) = false := by simpa using h2
      clear HE h1 h2
      go_enter Try.func84, Try.ntmps84
      go_wp2
      go_ret
      exact ⟨ret_bool (by rw [HR.out]), rfl⟩
set_option maxRecDepth 100000 in
set_option maxHeartbeats 400000 in
theorem p_hasBody_any (c : Int) (w : World) :
    Calls Try.prog 85 #[.int .i64 c] w fun e w' => e = .returned (.bool (bodK c)) ∧ w = w' := by
  have HE := Lib.hid (show bodK c = (decide (c = 1) || decide (c = 2)) from rfl)
  generalize bodK c = X at *
  by_cases h1 : c = 1
  · have HR : Hid (X = true) := Lib.hid (by rw [HE.out]; simp [h1])
    have d1 : (c == 1) = true := by simpa using h1
    clear HE h1
    go_enter Try.func85, Try.ntmps85
    go_wp2
    go_ret
    exact ⟨ret_bool (by rw [HR.out]), rfl⟩
  · have d1 : (c == 1) = false := by simpa using h1
    by_cases h2 : c = 2
    · have HR : Hid (X = true) := Lib.hid (by rw [HE.out]; simp [h2])
      have d2 : (c == 2) = true := by simpa using h2
      clear HE h1 h2
      go_enter Try.func85, Try.ntmps85
      go_wp2
      go_ret
      exact ⟨ret_bool (by rw [HR.out]), rfl⟩
    · have HR : Hid (X = false) := Lib.hid (by rw [HE.out]; simp [h1, h2])
      have d2 : (c == 2) = false := by simpa using h2
      clear HE h1 h2
      go_enter Try.func85, Try.ntmps85
      go_wp2
      go_ret
      exact ⟨ret_bool (by rw [HR.out]), rfl⟩
set_option maxRecDepth 100000 in
set_option maxHeartbeats 400000 in
theorem p_checkBody_any (A : Option Addr) (n c : Nat) (w : World) :
    Calls Try.prog 69 #[.slice A n c] w fun e w' => e = .returned (.int .i64 (bodS n)) ∧ w = w' := by
  have HE := Lib.hid (show bodS n = if n = 0 then 9 else if 200 < n then 2 else 0 from rfl)
  generalize bodS n = X at *
  by_cases h1 : n = 0
  · have HR : Hid (X = 9) := Lib.hid (by rw [HE.out, if_pos h1])
    have d1 : ((n : Int) == 0) = true := beq_iff_eq.2 (by omega)
    clear HE h1
    go_enter Try.func69, Try.ntmps69
    go_wp2
    go_ret
    exact ⟨ret_int HR.out.symm, rfl⟩
  · have d1 : ((n : Int) == 0) = false := beq_eq_false_iff_ne.2 (by omega)
    by_cases h2 : 200 < n
    · have HR : Hid (X = 2) := Lib.hid (by rw [HE.out, if_neg h1, if_pos h2])
      clear HE h1
      go_enter Try.func69, Try.ntmps69
      go_wp2
      go_ret
      exact ⟨ret_int HR.out.symm, rfl⟩
    · have HR : Hid (X = 0) := Lib.hid (by rw [HE.out, if_neg h1, if_neg h2])
      clear HE h1
      go_enter Try.func69, Try.ntmps69
      go_wp2
      go_ret
      exact ⟨ret_int HR.out.symm, rfl⟩

set_option maxRecDepth 100000 in
set_option maxHeartbeats 1000000 in
theorem r_checkBoard_any (n v : Int) (L R T : Bool) (k : Int) (w : World) :
    Calls Try.prog 18 #[uplV n v L R T k] w fun e w' => e = .returned (.int .i64 (brdS n v k)) ∧ Below w.heap.size w w' := by
  have HE := Lib.hid (show brdS n v k = if 0 ≤ n ∧ n ≤ 255 then (if v.tmod 2 = 0 then (if 2 ≤ v ∧ v ≤ 254 then (if 0 ≤ k ∧ k ≤ 1000000 then 0 else 1) else 1) else 1) else 1 from rfl)
  generalize brdS n v k = X at *
  unfold uplV
  by_cases h1 : 0 ≤ n ∧ n ≤ 255
  · have d1 : decide (0 ≤ n ∧ n ≤ 255) = true := decide_eq_true h1
    by_cases h2 : v.tmod 2 = 0
    · have d2 : (v.tmod 2 != 0) = false := by simpa using h2
      by_cases h3 : 2 ≤ v ∧ v ≤ 254
      · have d3 : decide (2 ≤ v ∧ v ≤ 254) = true := decide_eq_true h3
        by_cases h4 : 0 ≤ k ∧ k ≤ 1000000
        · have d4 : decide (0 ≤ k ∧ k ≤ 1000000) = true := decide_eq_true h4
          have HR : Hid (X = 0) := Lib.hid (by rw [HE.out, if_pos h1, if_pos h2, if_pos h3, if_pos h4])
          clear HE h1 h2 h3 h4
          go_enter Try.func18, Try.ntmps18
          go_wp2_with (first | (go_at_call 56; refine (r_within_any _ _ _ _).mono ?_; rintro e w' ⟨rfl, rfl⟩) | fail)
          go_ret
          exact ⟨ret_int HR.out.symm, (Below.refl _ _).alloc (Nat.le_refl _) _⟩
        · have d4 : decide (0 ≤ k ∧ k ≤ 1000000) = false := decide_eq_false h4
          have HR : Hid (X = 1) := Lib.hid (by rw [HE.out, if_pos h1, if_pos h2, if_pos h3, if_neg h4])
          clear HE h1 h2 h3 h4
          go_enter Try.func18, Try.ntmps18
          go_wp2_with (first | (go_at_call 56; refine (r_within_any _ _ _ _).mono ?_; rintro e w' ⟨rfl, rfl⟩) | fail)
          go_ret
          exact ⟨ret_int HR.out.symm, (Below.refl _ _).alloc (Nat.le_refl _) _⟩
      · have d3 : decide (2 ≤ v ∧ v ≤ 254) = false := decide_eq_false h3
        have HR : Hid (X = 1) := Lib.hid (by rw [HE.out, if_pos h1, if_pos h2, if_neg h3])
        clear HE h1 h2 h3
        go_enter Try.func18, Try.ntmps18
        go_wp2_with (first | (go_at_call 56; refine (r_within_any _ _ _ _).mono ?_; rintro e w' ⟨rfl, rfl⟩) | fail)
        go_ret
        exact ⟨ret_int HR.out.symm, (Below.refl _ _).alloc (Nat.le_refl _) _⟩
    · have d2 : (v.tmod 2 != 0) = true := by simpa using h2
      have HR : Hid (X = 1) := Lib.hid (by rw [HE.out, if_pos h1, if_neg h2])
      clear HE h1 h2
      go_enter Try.func18, Try.ntmps18
      go_wp2_with (first | (go_at_call 56; refine (r_within_any _ _ _ _).mono ?_; rintro e w' ⟨rfl, rfl⟩) | fail)
      go_ret
      exact ⟨ret_int HR.out.symm, (Below.refl _ _).alloc (Nat.le_refl _) _⟩
  · have d1 : decide (0 ≤ n ∧ n ≤ 255) = false := decide_eq_false h1
    have HR : Hid (X = 1) := Lib.hid (by rw [HE.out, if_neg h1])
    clear HE h1
    go_enter Try.func18, Try.ntmps18
    go_wp2_with (first | (go_at_call 56; refine (r_within_any _ _ _ _).mono ?_; rintro e w' ⟨rfl, rfl⟩) | fail)
    go_ret
    exact ⟨ret_int HR.out.symm, (Below.refl _ _).alloc (Nat.le_refl _) _⟩
set_option maxRecDepth 100000 in
set_option maxHeartbeats 400000 in
theorem r_hasNumber_any (c : Int) (w : World) :
    Calls Try.prog 87 #[.int .i64 c] w fun e w' => e = .returned (.bool (numK c)) ∧ w = w' := by
  have HE := Lib.hid (show numK c = (decide (c = 1) || decide (c = 4)) from rfl)
  generalize numK c = X at *
  by_cases h1 : c = 1
  · have HR : Hid (X = true) := Lib.hid (by rw [HE.out]; simp [h1])
    have d1 : (c == 1) = true := by simpa using h1
    clear HE h1
    go_enter Try.func87, Try.ntmps87
    go_wp2
    go_ret
    exact ⟨ret_bool (by rw [HR.out]), rfl⟩
  · have d1 : (c == 1) = false := by simpa using h1
    by_cases h2 : c = 4
    · have HR : Hid (X = true) := Lib.hid (by rw [HE.out]; simp [h2])
      have d2 : (c == 4) = true := by simpa using h2
      clear HE h1 h2
      go_enter Try.func87, Try.ntmps87
      go_wp2
      go_ret
      exact ⟨ret_bool (by rw [HR.out]), rfl⟩
    · have HR : Hid (X = false) := Lib.hid (by rw [HE.out]; simp [h1, h2])
      have d2 : (c == 4) = false := by simpa using h2
      clear HE h1 h2
      go_enter Try.func87, Try.ntmps87
      go_wp2
      go_ret
      exact ⟨ret_bool (by rw [HR.out]), rfl⟩
set_option maxRecDepth 100000 in
set_option maxHeartbeats 400000 in
theorem r_hasBody_any (c : Int) (w : World) :
    Calls Try.prog 88 #[.int .i64 c] w fun e w' => e = .returned (.bool (bodK c)) ∧ w = w' := by
  have HE := Lib.hid (show bodK c = (decide (c = 1) || decide (c = 2)) from rfl)
  generalize bodK c = X at *
  by_cases h1 : c = 1
  · have HR : Hid (X = true) := Lib.hid (by rw [HE.out]; simp [h1])
    have d1 : (c == 1) = true := by simpa using h1
    clear HE h1
    go_enter Try.func88, Try.ntmps88
    go_wp2
    go_ret
    exact ⟨ret_bool (by rw [HR.out]), rfl⟩
  · have d1 : (c == 1) = false := by simpa using h1
    by_cases h2 : c = 2
    · have HR : Hid (X = true) := Lib.hid (by rw [HE.out]; simp [h2])
      have d2 : (c == 2) = true := by simpa using h2
      clear HE h1 h2
      go_enter Try.func88, Try.ntmps88
      go_wp2
      go_ret
      exact ⟨ret_bool (by rw [HR.out]), rfl⟩
    · have HR : Hid (X = false) := Lib.hid (by rw [HE.out]; simp [h1, h2])
      have d2 : (c == 2) = false := by simpa using h2
      clear HE h1 h2
      go_enter Try.func88, Try.ntmps88
      go_wp2
      go_ret
      exact ⟨ret_bool (by rw [HR.out]), rfl⟩
set_option maxRecDepth 100000 in
set_option maxHeartbeats 400000 in
theorem r_checkBody_any (A : Option Addr) (n c : Nat) (w : World) :
    Calls Try.prog 72 #[.slice A n c] w fun e w' => e = .returned (.int .i64 (bodS n)) ∧ w = w' := by
  have HE := Lib.hid (show bodS n = if n = 0 then 9 else if 200 < n then 2 else 0 from rfl)
  generalize bodS n = X at *
  by_cases h1 : n = 0
  · have HR : Hid (X = 9) := Lib.hid (by rw [HE.out, if_pos h1])
    have d1 : ((n : Int) == 0) = true := beq_iff_eq.2 (by omega)
    clear HE h1
    go_enter Try.func72, Try.ntmps72
    go_wp2
    go_ret
    exact ⟨ret_int HR.out.symm, rfl⟩
  · have d1 : ((n : Int) == 0) = false := beq_eq_false_iff_ne.2 (by omega)
    by_cases h2 : 200 < n
    · have HR : Hid (X = 2) := Lib.hid (by rw [HE.out, if_neg h1, if_pos h2])
      clear HE h1
      go_enter Try.func72, Try.ntmps72
      go_wp2
      go_ret
      exact ⟨ret_int HR.out.symm, rfl⟩
    · have HR : Hid (X = 0) := Lib.hid (by rw [HE.out, if_neg h1, if_neg h2])
      clear HE h1
      go_enter Try.func72, Try.ntmps72
      go_wp2
      go_ret
      exact ⟨ret_int HR.out.symm, rfl⟩

/-- a command as a value -/
def ordV (c m : Int) (A : Option Addr) (n k : Nat) : Value := .agg #[.int .i64 c, .int .i64 m, .slice A n k]
set_option maxRecDepth 100000 in
set_option maxHeartbeats 1000000 in
theorem p_checkOrder_any (c m : Int) (A : Option Addr) (n k : Nat) (w : World) :
    Calls Try.prog 50 #[ordV c m A n k] w fun e w' => e = .returned (.int .i64 (ordS c m n)) ∧ Below w.heap.size w w' := by
  have HE := Lib.hid (show ordS c m n = if 1 ≤ c ∧ c ≤ 5 then (if 0 ≤ m ∧ m ≤ 255 then (if m ≠ 0 ∧ numK c = false then 1 else if bodK c = true then bodS n else if 0 < n then 3 else 0) else 1) else 4 from rfl)
  have HB := Lib.hid (p_checkBody_any A n k)
  have HH := Lib.hid (p_hasBody_any c)
  have HN := Lib.hid (p_hasNumber_any c)
  generalize ordS c m n = X at *
  generalize bodS n = Y at *
  generalize bodK c = D at *
  generalize numK c = E at *
  unfold ordV
  by_cases h1 : 1 ≤ c ∧ c ≤ 5
  · have d1 : decide (1 ≤ c ∧ c ≤ 5) = true := decide_eq_true h1
    by_cases h2 : 0 ≤ m ∧ m ≤ 255
    · have d2 : decide (0 ≤ m ∧ m ≤ 255) = true := decide_eq_true h2
      have HE2 : Hid (X = if m ≠ 0 ∧ E = false then 1 else if D = true then Y else if 0 < n then 3 else 0) := Lib.hid (by rw [HE.out, if_pos h1, if_pos h2])
      clear HE h1 h2
      by_cases h3 : m = 0
      · have HR : Hid (X = if D = true then Y else if 0 < n then 3 else 0) := Lib.hid (by rw [HE2.out, if_neg (by simp [h3])])
        have d3 : (m != 0) = false := by simpa using h3
        clear HE2 h3
        by_cases h5 : 0 < n <;> cases D <;>
        ( go_enter Try.func50, Try.ntmps50
          go_wp2_with (first | (go_at_call 55; refine (p_within_any _ _ _ _).mono ?_; rintro e w' ⟨rfl, rfl⟩) | (go_at_call 54; refine (p_isNumber_any _ _).mono ?_; rintro e w' ⟨rfl, rfl⟩) | (go_at_call 84; refine (HN.out _).mono ?_; rintro e w' ⟨rfl, rfl⟩) | (go_at_call 85; refine (HH.out _).mono ?_; rintro e w' ⟨rfl, rfl⟩) | (go_at_call 69; refine (HB.out _).mono ?_; rintro e w' ⟨rfl, rfl⟩) | fail)
          go_ret
          exact ⟨ret_int (by rw [HR.out]; simp [h5]), (Below.refl _ _).alloc (Nat.le_refl _) _⟩)
      · have d3 : (m != 0) = true := by simpa using h3
        cases E
        · have HR : Hid (X = 1) := Lib.hid (by rw [HE2.out, if_pos ⟨h3, rfl⟩])
          clear HE2 h3
          go_enter Try.func50, Try.ntmps50
          go_wp2_with (first | (go_at_call 55; refine (p_within_any _ _ _ _).mono ?_; rintro e w' ⟨rfl, rfl⟩) | (go_at_call 54; refine (p_isNumber_any _ _).mono ?_; rintro e w' ⟨rfl, rfl⟩) | (go_at_call 84; refine (HN.out _).mono ?_; rintro e w' ⟨rfl, rfl⟩) | fail)
          go_ret
          exact ⟨ret_int HR.out.symm, (Below.refl _ _).alloc (Nat.le_refl _) _⟩
        · have HR : Hid (X = if D = true then Y else if 0 < n then 3 else 0) := Lib.hid (by rw [HE2.out, if_neg (by simp)])
          clear HE2 h3
          by_cases h5 : 0 < n <;> cases D <;>
          ( go_enter Try.func50, Try.ntmps50
            go_wp2_with (first | (go_at_call 55; refine (p_within_any _ _ _ _).mono ?_; rintro e w' ⟨rfl, rfl⟩) | (go_at_call 54; refine (p_isNumber_any _ _).mono ?_; rintro e w' ⟨rfl, rfl⟩) | (go_at_call 84; refine (HN.out _).mono ?_; rintro e w' ⟨rfl, rfl⟩) | (go_at_call 85; refine (HH.out _).mono ?_; rintro e w' ⟨rfl, rfl⟩) | (go_at_call 69; refine (HB.out _).mono ?_; rintro e w' ⟨rfl, rfl⟩) | fail)
            go_ret
            exact ⟨ret_int (by rw [HR.out]; simp [h5]), (Below.refl _ _).alloc (Nat.le_refl _) _⟩)
    · have d2 : decide (0 ≤ m ∧ m ≤ 255) = false := decide_eq_false h2
      have HR : Hid (X = 1) := Lib.hid (by rw [HE.out, if_pos h1, if_neg h2])
      clear HE h1 h2
      go_enter Try.func50, Try.ntmps50
      go_wp2_with (first | (go_at_call 55; refine (p_within_any _ _ _ _).mono ?_; rintro e w' ⟨rfl, rfl⟩) | (go_at_call 54; refine (p_isNumber_any _ _).mono ?_; rintro e w' ⟨rfl, rfl⟩) | fail)
      go_ret
      exact ⟨ret_int HR.out.symm, (Below.refl _ _).alloc (Nat.le_refl _) _⟩
  · have d1 : decide (1 ≤ c ∧ c ≤ 5) = false := decide_eq_false h1
    have HR : Hid (X = 4) := Lib.hid (by rw [HE.out, if_neg h1])
    clear HE h1
    go_enter Try.func50, Try.ntmps50
    go_wp2_with (first | (go_at_call 55; refine (p_within_any _ _ _ _).mono ?_; rintro e w' ⟨rfl, rfl⟩) | fail)
    go_ret
    exact ⟨ret_int HR.out.symm, (Below.refl _ _).alloc (Nat.le_refl _) _⟩
set_option maxRecDepth 100000 in
set_option maxHeartbeats 1000000 in
theorem r_checkOrder_any (c m : Int) (A : Option Addr) (n k : Nat) (w : World) :
    Calls Try.prog 52 #[ordV c m A n k] w fun e w' => e = .returned (.int .i64 (ordS c m n)) ∧ Below w.heap.size w w' := by
  have HE := Lib.hid (show ordS c m n = if 1 ≤ c ∧ c ≤ 5 then (if 0 ≤ m ∧ m ≤ 255 then (if m ≠ 0 ∧ numK c = false then 1 else if bodK c = true then bodS n else if 0 < n then 3 else 0) else 1) else 4 from rfl)
  have HB := Lib.hid (r_checkBody_any A n k)
  have HH := Lib.hid (r_hasBody_any c)
  have HN := Lib.hid (r_hasNumber_any c)
  generalize ordS c m n = X at *
  generalize bodS n = Y at *
  generalize bodK c = D at *
  generalize numK c = E at *
  unfold ordV
  by_cases h1 : 1 ≤ c ∧ c ≤ 5
  · have d1 : decide (1 ≤ c ∧ c ≤ 5) = true := decide_eq_true h1
    by_cases h2 : 0 ≤ m ∧ m ≤ 255
    · have d2 : decide (0 ≤ m ∧ m ≤ 255) = true := decide_eq_true h2
      have HE2 : Hid (X = if m ≠ 0 ∧ E = false then 1 else if D = true then Y else if 0 < n then 3 else 0) := Lib.hid (by rw [HE.out, if_pos h1, if_pos h2])
      clear HE h1 h2
      by_cases h3 : m = 0
      · have HR : Hid (X = if D = true then Y else if 0 < n then 3 else 0) := Lib.hid (by rw [HE2.out, if_neg (by simp [h3])])
        have d3 : (m != 0) = false := by simpa using h3
        clear HE2 h3
        by_cases h5 : 0 < n <;> cases D <;>
        ( go_enter Try.func52, Try.ntmps52
          go_wp2_with (first | (go_at_call 56; refine (r_within_any _ _ _ _).mono ?_; rintro e w' ⟨rfl, rfl⟩) | (go_at_call 87; refine (HN.out _).mono ?_; rintro e w' ⟨rfl, rfl⟩) | (go_at_call 88; refine (HH.out _).mono ?_; rintro e w' ⟨rfl, rfl⟩) | (go_at_call 72; refine (HB.out _).mono ?_; rintro e w' ⟨rfl, rfl⟩) | fail)
          go_ret
          exact ⟨ret_int (by rw [HR.out]; simp [h5]), (Below.refl _ _).alloc (Nat.le_refl _) _⟩)
      · have d3 : (m != 0) = true := by simpa using h3
        cases E
        · have HR : Hid (X = 1) := Lib.hid (by rw [HE2.out, if_pos ⟨h3, rfl⟩])
          clear HE2 h3
          go_enter Try.func52, Try.ntmps52
          go_wp2_with (first | (go_at_call 56; refine (r_within_any _ _ _ _).mono ?_; rintro e w' ⟨rfl, rfl⟩) | (go_at_call 87; refine (HN.out _).mono ?_; rintro e w' ⟨rfl, rfl⟩) | fail)
          go_ret
          exact ⟨ret_int HR.out.symm, (Below.refl _ _).alloc (Nat.le_refl _) _⟩
        · have HR : Hid (X = if D = true then Y else if 0 < n then 3 else 0) := Lib.hid (by rw [HE2.out, if_neg (by simp)])
          clear HE2 h3
          by_cases h5 : 0 < n <;> cases D <;>
          ( go_enter Try.func52, Try.ntmps52
            go_wp2_with (first | (go_at_call 56; refine (r_within_any _ _ _ _).mono ?_; rintro e w' ⟨rfl, rfl⟩) | (go_at_call 87; refine (HN.out _).mono ?_; rintro e w' ⟨rfl, rfl⟩) | (go_at_call 88; refine (HH.out _).mono ?_; rintro e w' ⟨rfl, rfl⟩) | (go_at_call 72; refine (HB.out _).mono ?_; rintro e w' ⟨rfl, rfl⟩) | fail)
            go_ret
            exact ⟨ret_int (by rw [HR.out]; simp [h5]), (Below.refl _ _).alloc (Nat.le_refl _) _⟩)
    · have d2 : decide (0 ≤ m ∧ m ≤ 255) = false := decide_eq_false h2
      have HR : Hid (X = 1) := Lib.hid (by rw [HE.out, if_pos h1, if_neg h2])
      clear HE h1 h2
      go_enter Try.func52, Try.ntmps52
      go_wp2_with (first | (go_at_call 56; refine (r_within_any _ _ _ _).mono ?_; rintro e w' ⟨rfl, rfl⟩) | fail)
      go_ret
      exact ⟨ret_int HR.out.symm, (Below.refl _ _).alloc (Nat.le_refl _) _⟩
  · have d1 : decide (1 ≤ c ∧ c ≤ 5) = false := decide_eq_false h1
    have HR : Hid (X = 4) := Lib.hid (by rw [HE.out, if_neg h1])
    clear HE h1
    go_enter Try.func52, Try.ntmps52
    go_wp2_with (first | (go_at_call 56; refine (r_within_any _ _ _ _).mono ?_; rintro e w' ⟨rfl, rfl⟩) | fail)
    go_ret
    exact ⟨ret_int HR.out.symm, (Below.refl _ _).alloc (Nat.le_refl _) _⟩
end Go.Proofs.Yteikggieekhfkaa

/- the walks of both takes of a command by a board. -/
namespace Go.Proofs.Yteikggieekhfkaa
open Go.RowKit

theorem setCell_draws (w : World) (n : Nat) (a : Addr) (v : Value) : (w.drewN n).setCell a v = (w.setCell a v).drewN n := rfl
theorem alloc_draws (w : World) (n : Nat) (o : Obj) : (w.drewN n).alloc o = (w.alloc o).drewN n := rfl
attribute [local go_sem] setCell_draws alloc_draws
theorem aft_zero {n m : Int} (h1 : 0 ≤ n ∧ n ≤ 255) (h2 : 0 ≤ m ∧ m ≤ 255) : aft n m = 0 ↔ n = m := by unfold aft; omega
theorem aft_bd {n m : Int} : 0 ≤ aft n m ∧ aft n m ≤ 255 := by unfold aft; omega
theorem two_new (w : World) (a b : Obj) : Below w.heap.size w ((w.alloc a).alloc b) := ((Below.refl _ _).alloc (Nat.le_refl _) _).alloc (by simp) _
theorem three_new (w : World) (a b c : Obj) : Below w.heap.size w (((w.alloc a).alloc b).alloc c) := (two_new w a b).alloc (by simp; omega) _
theorem two_newD (w : World) (a b : Obj) (n : Nat) : Below w.heap.size w (((w.alloc a).alloc b).drewN n) := below_draws (two_new w a b) n
theorem three_newD (w : World) (a b c : Obj) (n : Nat) : Below w.heap.size w ((((w.alloc a).alloc b).alloc c).drewN n) := below_draws (three_new w a b c) n

set_option maxRecDepth 100000 in
set_option maxHeartbeats 1000000 in
theorem p_plain_any (n v : Int) (L R T : Bool) (k m : Int) (w : World) (hb : BrdOk n v k) (hm0 : 0 ≤ m) (hm1 : m ≤ 255) :
    Calls Try.prog 86 #[uplV n v L R T k, .int .i64 m] w fun e w' => e = .returned (.tuple #[(plainS ⟨n, v, L, R, T, k⟩ m).1.val, .int .i64 (plainS ⟨n, v, L, R, T, k⟩ m).2]) ∧ Below w.heap.size w w' := by
  obtain ⟨n0, n1, v0, v1, -, k0, k1⟩ := hb
  have HE := Lib.hid (show plainS ⟨n, v, L, R, T, k⟩ m = if L = true then (⟨n, v, L, R, T, k⟩, 5)
    else if m = n then (if T = true then (⟨n, v, L, true, T, k⟩, 6) else (⟨(n + 1) % 256, v, L, false, T, k + 1⟩, 1))
    else if aft m n < v / 2 then (⟨n, v, L, true, T, k⟩, 2)
    else if aft n m ≤ v / 2 then (⟨n, v, L, R, T, k⟩, 3)
    else (⟨n, v, true, R, T, k⟩, 4) from rfl)
  generalize plainS ⟨n, v, L, R, T, k⟩ m = X at *
  have HA := Lib.hid (fun w => p_after_any m n w hm0 hm1 n0 n1)
  have HB := Lib.hid (fun w => p_after_any n m w n0 n1 hm0 hm1)
  have HF := Lib.hid (fun w => p_further_any n 1 w n0 n1 (by omega) (by omega))
  obtain ⟨a0, a1⟩ := @aft_bd m n
  obtain ⟨b0, b1⟩ := @aft_bd n m
  generalize aft m n = a at *
  generalize aft n m = b at *
  unfold uplV
  cases L
  · by_cases h1 : m = n
    · have d1 : (m == n) = true := by simpa using h1
      cases T
      · have HR : Hid (X = (⟨(n + 1) % 256, v, false, false, false, k + 1⟩, 1)) := Lib.hid (by rw [HE.out, if_neg (by simp), if_pos h1, if_neg (by simp)])
        clear HE h1
        go_enter Try.func86, Try.ntmps86
        go_wp2_with (first | (go_at_call 102; refine (HF.out _).mono ?_; rintro e w' ⟨rfl, rfl⟩) | fail)
        refine bodyPost_ret (v := .tuple #[uplV ((n + 1) % 256) v false false false (k + 1), .int .i64 1]) (by simp [results, Try.results86, go_sem, uplV]) rfl ⟨by rw [HR.out]; rfl, ?_⟩
        exact two_new _ _ _
      · have HR : Hid (X = (⟨n, v, false, true, true, k⟩, 6)) := Lib.hid (by rw [HE.out, if_neg (by simp), if_pos h1, if_pos rfl])
        clear HE h1
        go_enter Try.func86, Try.ntmps86
        go_wp2_with fail
        refine bodyPost_ret (v := .tuple #[uplV n v false true true k, .int .i64 6]) (by simp [results, Try.results86, go_sem, uplV]) rfl ⟨by rw [HR.out]; rfl, ?_⟩
        exact two_new _ _ _
    · have d1 : (m == n) = false := by simpa using h1
      by_cases h2 : a < v / 2
      · have HR : Hid (X = (⟨n, v, false, true, T, k⟩, 2)) := Lib.hid (by rw [HE.out, if_neg (by simp), if_neg h1, if_pos h2])
        clear HE h1
        go_enter Try.func86, Try.ntmps86
        go_wp2_with (first | (go_at_call 103; refine (HA.out _).mono ?_; rintro e w' ⟨rfl, rfl⟩) | fail)
        refine bodyPost_ret (v := .tuple #[uplV n v false true T k, .int .i64 2]) (by simp [results, Try.results86, go_sem, uplV]) rfl ⟨by rw [HR.out]; rfl, ?_⟩
        exact two_new _ _ _
      · by_cases h3 : b ≤ v / 2
        · have HR : Hid (X = (⟨n, v, false, R, T, k⟩, 3)) := Lib.hid (by rw [HE.out, if_neg (by simp), if_neg h1, if_neg h2, if_pos h3])
          clear HE h1
          go_enter Try.func86, Try.ntmps86
          go_wp2_with (first | (go_at_call 103; with_reducible refine (HA.out _).mono ?_; rintro e w' ⟨rfl, rfl⟩) | (go_at_call 103; with_reducible refine (HB.out _).mono ?_; rintro e w' ⟨rfl, rfl⟩) | fail)
          refine bodyPost_ret (v := .tuple #[uplV n v false R T k, .int .i64 3]) (by simp [results, Try.results86, go_sem, uplV]) rfl ⟨by rw [HR.out]; rfl, ?_⟩
          exact two_new _ _ _
        · have HR : Hid (X = (⟨n, v, true, R, T, k⟩, 4)) := Lib.hid (by rw [HE.out, if_neg (by simp), if_neg h1, if_neg h2, if_neg h3])
          clear HE h1
          go_enter Try.func86, Try.ntmps86
          go_wp2_with (first | (go_at_call 103; with_reducible refine (HA.out _).mono ?_; rintro e w' ⟨rfl, rfl⟩) | (go_at_call 103; with_reducible refine (HB.out _).mono ?_; rintro e w' ⟨rfl, rfl⟩) | fail)
          refine bodyPost_ret (v := .tuple #[uplV n v true R T k, .int .i64 4]) (by simp [results, Try.results86, go_sem, uplV]) rfl ⟨by rw [HR.out]; rfl, ?_⟩
          exact two_new _ _ _
  · have HR : Hid (X = (⟨n, v, true, R, T, k⟩, 5)) := Lib.hid (by rw [HE.out, if_pos rfl])
    clear HE
    go_enter Try.func86, Try.ntmps86
    go_wp2_with fail
    refine bodyPost_ret (v := .tuple #[uplV n v true R T k, .int .i64 5]) (by simp [results, Try.results86, go_sem, uplV]) rfl ⟨by rw [HR.out]; rfl, ?_⟩
    exact two_new _ _ _
set_option maxRecDepth 100000 in
set_option maxHeartbeats 1000000 in
theorem r_plain_any (n v : Int) (L R T : Bool) (k c m : Int) (A : Option Addr) (z z' : Nat) (w : World) (hb : BrdOk n v k) (hm0 : 0 ≤ m) (hm1 : m ≤ 255) :
    Calls Try.prog 89 #[uplV n v L R T k, ordV c m A z z'] w fun e w' => e = .returned (.tuple #[(plainS ⟨n, v, L, R, T, k⟩ m).1.val, .int .i64 (plainS ⟨n, v, L, R, T, k⟩ m).2]) ∧ Below w.heap.size w w' := by
  obtain ⟨n0, n1, v0, v1, -, k0, k1⟩ := hb
  have HE := Lib.hid (show plainS ⟨n, v, L, R, T, k⟩ m = if L = true then (⟨n, v, L, R, T, k⟩, 5)
    else if m = n then (if T = true then (⟨n, v, L, true, T, k⟩, 6) else (⟨(n + 1) % 256, v, L, false, T, k + 1⟩, 1))
    else if aft m n < v / 2 then (⟨n, v, L, true, T, k⟩, 2)
    else if aft n m ≤ v / 2 then (⟨n, v, L, R, T, k⟩, 3)
    else (⟨n, v, true, R, T, k⟩, 4) from rfl)
  generalize plainS ⟨n, v, L, R, T, k⟩ m = X at *
  have HA := Lib.hid (fun w => r_after_any m n w hm0 hm1 n0 n1)
  have HB := Lib.hid (fun w => r_after_any n m w n0 n1 hm0 hm1)
  obtain ⟨a0, a1⟩ := @aft_bd m n
  obtain ⟨b0, b1⟩ := @aft_bd n m
  have hz := @aft_zero m n ⟨hm0, hm1⟩ ⟨n0, n1⟩
  generalize aft m n = a at *
  generalize aft n m = b at *
  unfold uplV ordV
  cases L
  · by_cases h1 : m = n
    · have d1 : (a == 0) = true := by simpa using hz.2 h1
      have HZ := Lib.hid hz
      cases T
      · have HR : Hid (X = (⟨(n + 1) % 256, v, false, false, false, k + 1⟩, 1)) := Lib.hid (by rw [HE.out, if_neg (by simp), if_pos h1, if_neg (by simp)])
        clear HE h1 hz
        go_enter Try.func89, Try.ntmps89
        go_wp2_with (first | (go_at_call 92; with_reducible refine (HA.out _).mono ?_; rintro e w' ⟨rfl, rfl⟩) | fail)
        refine bodyPost_ret (v := .tuple #[uplV ((n + 1) % 256) v false false false (k + 1), .int .i64 1]) (by simp [results, Try.results89, go_sem, uplV]) rfl ⟨by rw [HR.out]; rfl, ?_⟩
        exact three_new _ _ _ _
      · have HR : Hid (X = (⟨n, v, false, true, true, k⟩, 6)) := Lib.hid (by rw [HE.out, if_neg (by simp), if_pos h1, if_pos rfl])
        clear HE h1 hz
        go_enter Try.func89, Try.ntmps89
        go_wp2_with (first | (go_at_call 92; with_reducible refine (HA.out _).mono ?_; rintro e w' ⟨rfl, rfl⟩) | fail)
        refine bodyPost_ret (v := .tuple #[uplV n v false true true k, .int .i64 6]) (by simp [results, Try.results89, go_sem, uplV]) rfl ⟨by rw [HR.out]; rfl, ?_⟩
        exact three_new _ _ _ _
    · have d1 : (a == 0) = false := by simpa using fun e => h1 (hz.1 e)
      clear hz
      by_cases h2 : a < v / 2
      · have HR : Hid (X = (⟨n, v, false, true, T, k⟩, 2)) := Lib.hid (by rw [HE.out, if_neg (by simp), if_neg h1, if_pos h2])
        clear HE h1
        go_enter Try.func89, Try.ntmps89
        go_wp2_with (first | (go_at_call 92; with_reducible refine (HA.out _).mono ?_; rintro e w' ⟨rfl, rfl⟩) | fail)
        refine bodyPost_ret (v := .tuple #[uplV n v false true T k, .int .i64 2]) (by simp [results, Try.results89, go_sem, uplV]) rfl ⟨by rw [HR.out]; rfl, ?_⟩
        exact three_new _ _ _ _
      · by_cases h3 : b ≤ v / 2
        · have HR : Hid (X = (⟨n, v, false, R, T, k⟩, 3)) := Lib.hid (by rw [HE.out, if_neg (by simp), if_neg h1, if_neg h2, if_pos h3])
          have d3 : decide (b ≤ v / 2) = true := decide_eq_true h3
          clear HE h1
          go_enter Try.func89, Try.ntmps89
          go_wp2_with (first | (go_at_call 92; with_reducible refine (HA.out _).mono ?_; rintro e w' ⟨rfl, rfl⟩) | fail)
          go_quiet ((go_at_call 92; exact Calls.quiet_of_same ((HB.out _).mono fun e w' h => ⟨h.1, h.2.symm⟩)))
          all_goals
            go_wp2_with fail
            refine bodyPost_ret (v := .tuple #[uplV n v false R T k, .int .i64 3]) (by simp [results, Try.results89, go_sem, uplV]) rfl ⟨by rw [HR.out]; rfl, ?_⟩
            exact three_newD _ _ _ _ _
        · have HR : Hid (X = (⟨n, v, true, R, T, k⟩, 4)) := Lib.hid (by rw [HE.out, if_neg (by simp), if_neg h1, if_neg h2, if_neg h3])
          have d3 : decide (b ≤ v / 2) = false := decide_eq_false h3
          clear HE h1
          go_enter Try.func89, Try.ntmps89
          go_wp2_with (first | (go_at_call 92; with_reducible refine (HA.out _).mono ?_; rintro e w' ⟨rfl, rfl⟩) | fail)
          go_quiet ((go_at_call 92; exact Calls.quiet_of_same ((HB.out _).mono fun e w' h => ⟨h.1, h.2.symm⟩)))
          all_goals
            go_wp2_with fail
            refine bodyPost_ret (v := .tuple #[uplV n v true R T k, .int .i64 4]) (by simp [results, Try.results89, go_sem, uplV]) rfl ⟨by rw [HR.out]; rfl, ?_⟩
            exact three_newD _ _ _ _ _
  · have HR : Hid (X = (⟨n, v, true, R, T, k⟩, 5)) := Lib.hid (by rw [HE.out, if_pos rfl])
    clear HE hz
    go_enter Try.func89, Try.ntmps89
    go_wp2_with (first | (go_at_call 92; with_reducible refine (HA.out _).mono ?_; rintro e w' ⟨rfl, rfl⟩) | fail)
    refine bodyPost_ret (v := .tuple #[uplV n v true R T k, .int .i64 5]) (by simp [results, Try.results89, go_sem, uplV]) rfl ⟨by rw [HR.out]; rfl, ?_⟩
    exact three_new _ _ _ _
end Go.Proofs.Yteikggieekhfkaa

/- the walks of both Take and Report. -/
namespace Go.Proofs.Yteikggieekhfkaa
open Go.RowKit

/-- a board's block -/
def HeldU (w : World) (g : Nat) (n v : Int) (L R T : Bool) (k : Int) : Prop := w.heap[g]? = some (.cells #[.int .i64 n, .int .i64 v, .bool L, .bool R, .bool T, .int .i64 k] 23 (0, 0))
theorem HeldU.cells {w : World} {g : Nat} {n v : Int} {L R T : Bool} {k : Int} (h : HeldU w g n v L R T k) : w.cell? ⟨g, 0, none⟩ = some (.int .i64 n) ∧ w.cell? ⟨g, 1, none⟩ = some (.int .i64 v) ∧ w.cell? ⟨g, 2, none⟩ = some (.bool L) ∧ w.cell? ⟨g, 3, none⟩ = some (.bool R) ∧ w.cell? ⟨g, 4, none⟩ = some (.bool T) ∧ w.cell? ⟨g, 5, none⟩ = some (.int .i64 k) := by
  unfold HeldU at h
  exact ⟨by simp [World.cell?, h], by simp [World.cell?, h], by simp [World.cell?, h], by simp [World.cell?, h], by simp [World.cell?, h], by simp [World.cell?, h]⟩
theorem HeldU.free {w : World} {g : Nat} {n v : Int} {L R T : Bool} {k : Int} (h : HeldU w g n v L R T k) : w.frozen? ⟨g, 0, none⟩ = false ∧ w.frozen? ⟨g, 1, none⟩ = false ∧ w.frozen? ⟨g, 2, none⟩ = false ∧ w.frozen? ⟨g, 3, none⟩ = false ∧ w.frozen? ⟨g, 4, none⟩ = false ∧ w.frozen? ⟨g, 5, none⟩ = false := by
  unfold HeldU at h
  exact ⟨by simp [World.frozen?, h], by simp [World.frozen?, h], by simp [World.frozen?, h], by simp [World.frozen?, h], by simp [World.frozen?, h], by simp [World.frozen?, h]⟩
theorem HeldU.below {w w' : World} {B g : Nat} {n v : Int} {L R T : Bool} {k : Int} (h : HeldU w g n v L R T k) (hb : Below B w w') (hg : g < B) : HeldU w' g n v L R T k := (hb.block g hg).trans h
theorem heap_new (w : World) (o : Obj) : (w.alloc o).heap[w.heap.size]? = some o := by
  show (w.heap.push _)[w.heap.size]? = _
  simp
theorem held_third (w : World) (a b : Obj) (n v : Int) (L R T : Bool) (k : Int) : HeldU (((w.alloc a).alloc b).alloc (.cells #[.int .i64 n, .int .i64 v, .bool L, .bool R, .bool T, .int .i64 k] 23)) (w.heap.size + 2) n v L R T k := by
  have := heap_new ((w.alloc a).alloc b) (.cells #[.int .i64 n, .int .i64 v, .bool L, .bool R, .bool T, .int .i64 k] 23)
  rw [World.size_alloc, World.size_alloc] at this
  exact this
theorem HeldU.own {w w' : World} {B : Nat} {n v : Int} {L R T : Bool} {k : Int} (_h : HeldU w B n v L R T k) (hb : Below w.heap.size w w') (hB : B < w.heap.size) : HeldU w' B n v L R T k := _h.below hb hB
theorem six_set {w w' : World} {g B : Nat} (hb : Below B w w') (hg : B ≤ g) (a0 a1 a2 a3 a4 a5 : Value) :
    Below B w ((((((w'.setCell ⟨g, 0, none⟩ a0).setCell ⟨g, 1, none⟩ a1).setCell ⟨g, 2, none⟩ a2).setCell ⟨g, 3, none⟩ a3).setCell ⟨g, 4, none⟩ a4).setCell ⟨g, 5, none⟩ a5) :=
  (((((hb.setCell hg _).setCell hg _).setCell hg _).setCell hg _).setCell hg _).setCell hg _

set_option maxRecDepth 100000 in
set_option maxHeartbeats 1000000 in
theorem p_take_any (n v : Int) (L R T : Bool) (k c m : Int) (A : Option Addr) (z z' : Nat) (w : World) (hb : BrdOk n v k) (hm0 : 0 ≤ m) (hm1 : m ≤ 255) (hc1 : 1 ≤ c) (hc5 : c ≤ 5) :
    Calls Try.prog 51 #[uplV n v L R T k, ordV c m A z z'] w fun e w' => e = .returned (.tuple #[(tookS ⟨n, v, L, R, T, k⟩ c m).1.val, .int .i64 (tookS ⟨n, v, L, R, T, k⟩ c m).2]) ∧ Below w.heap.size w w' := by
  have k0 := hb.k0
  have k1 := hb.k1
  have hcc : c = 1 ∨ c = 2 ∨ c = 3 ∨ c = 4 ∨ c = 5 := by omega
  rcases hcc with rfl | rfl | rfl | rfl | rfl
  · have HE := Lib.hid (show tookS ⟨n, v, L, R, T, k⟩ 1 m = plainS ⟨n, v, L, R, T, k⟩ m from by simp [tookS])
    have HP := Lib.hid (fun w => p_plain_any n v L R T k m w hb hm0 hm1)
    generalize tookS ⟨n, v, L, R, T, k⟩ 1 m = Y at *
    generalize plainS ⟨n, v, L, R, T, k⟩ m = X at *
    obtain ⟨⟨n', v', L', R', T', k'⟩, u⟩ := X
    unfold Upl.val at *
    unfold uplV ordV at *
    simp only at HP
    clear hb
    go_enter Try.func51, Try.ntmps51
    go_wp2_with fail
    refine (HP.out _).mono ?_
    rintro e w1 ⟨rfl, hb1⟩
    have hh := (held_third w _ _ 0 0 false false false 0).below hb1 (by simp)
    obtain ⟨e0, e1, e2, e3, e4, e5⟩ := hh.cells
    obtain ⟨f0, f1, f2, f3, f4, f5⟩ := hh.free
    go_wp2_with fail
    refine bodyPost_ret (v := .tuple #[uplV n' v' L' R' T' k', .int .i64 u]) (by simp [results, Try.results51, go_sem, uplV, e0, e1, e2, e3, e4, e5]) rfl ⟨by rw [HE.out]; rfl, ?_⟩
    exact six_set ((three_new w _ _ _).trans (hb1.mono (by simp; omega))) (by omega) _ _ _ _ _ _
  · go_enter Try.func51, Try.ntmps51
    unfold uplV ordV
    go_wp2_with fail
    refine bodyPost_ret (v := .tuple #[uplV n v L R T (k + 1), .int .i64 1]) (by simp [results, Try.results51, go_sem, uplV]) rfl ⟨by simp [tookS, Upl.val], ?_⟩
    exact three_new _ _ _ _
  · go_enter Try.func51, Try.ntmps51
    unfold uplV ordV
    go_wp2_with fail
    refine bodyPost_ret (v := .tuple #[uplV n v false false false k, .int .i64 7]) (by simp [results, Try.results51, go_sem, uplV]) rfl ⟨by simp [tookS, Upl.val], ?_⟩
    exact three_new _ _ _ _
  · cases L
    · go_enter Try.func51, Try.ntmps51
      unfold uplV ordV
      go_wp2_with fail
      refine bodyPost_ret (v := .tuple #[uplV m v false false T k, .int .i64 7]) (by simp [results, Try.results51, go_sem, uplV]) rfl ⟨by simp [tookS, Upl.val], ?_⟩
      exact three_new _ _ _ _
    · go_enter Try.func51, Try.ntmps51
      unfold uplV ordV
      go_wp2_with fail
      refine bodyPost_ret (v := .tuple #[uplV n v true R T k, .int .i64 5]) (by simp [results, Try.results51, go_sem, uplV]) rfl ⟨by simp [tookS, Upl.val], ?_⟩
      exact three_new _ _ _ _
  · go_enter Try.func51, Try.ntmps51
    unfold uplV ordV
    go_wp2_with fail
    refine bodyPost_ret (v := .tuple #[uplV n v L R true k, .int .i64 7]) (by simp [results, Try.results51, go_sem, uplV]) rfl ⟨by simp [tookS, Upl.val], ?_⟩
    exact three_new _ _ _ _
set_option maxRecDepth 100000 in
set_option maxHeartbeats 1000000 in
theorem r_take_any (n v : Int) (L R T : Bool) (k c m : Int) (A : Option Addr) (z z' : Nat) (w : World) (hb : BrdOk n v k) (hm0 : 0 ≤ m) (hm1 : m ≤ 255) (hc1 : 1 ≤ c) (hc5 : c ≤ 5) :
    Calls Try.prog 53 #[uplV n v L R T k, ordV c m A z z'] w fun e w' => e = .returned (.tuple #[(tookS ⟨n, v, L, R, T, k⟩ c m).1.val, .int .i64 (tookS ⟨n, v, L, R, T, k⟩ c m).2]) ∧ Below w.heap.size w w' := by
  have k0 := hb.k0
  have k1 := hb.k1
  have hcc : c = 1 ∨ c = 2 ∨ c = 3 ∨ c = 4 ∨ c = 5 := by omega
  rcases hcc with rfl | rfl | rfl | rfl | rfl
  · have HE := Lib.hid (show tookS ⟨n, v, L, R, T, k⟩ 1 m = plainS ⟨n, v, L, R, T, k⟩ m from by simp [tookS])
    have HP := Lib.hid (fun w => r_plain_any n v L R T k 1 m A z z' w hb hm0 hm1)
    generalize tookS ⟨n, v, L, R, T, k⟩ 1 m = Y at *
    generalize plainS ⟨n, v, L, R, T, k⟩ m = X at *
    obtain ⟨⟨n', v', L', R', T', k'⟩, u⟩ := X
    unfold Upl.val at *
    unfold uplV ordV at *
    simp only at HP
    clear hb
    go_enter Try.func53, Try.ntmps53
    go_wp2_with fail
    refine (HP.out _).mono ?_
    rintro e w1 ⟨rfl, hb1⟩
    have hh := (held_third w _ _ 0 0 false false false 0).below hb1 (by simp)
    obtain ⟨e0, e1, e2, e3, e4, e5⟩ := hh.cells
    obtain ⟨f0, f1, f2, f3, f4, f5⟩ := hh.free
    go_wp2_with fail
    refine bodyPost_ret (v := .tuple #[uplV n' v' L' R' T' k', .int .i64 u]) (by simp [results, Try.results53, go_sem, uplV, e0, e1, e2, e3, e4, e5]) rfl ⟨by rw [HE.out]; rfl, ?_⟩
    exact six_set ((three_new w _ _ _).trans (hb1.mono (by simp; omega))) (by omega) _ _ _ _ _ _
  · go_enter Try.func53, Try.ntmps53
    unfold uplV ordV
    go_wp2_with fail
    refine bodyPost_ret (v := .tuple #[uplV n v L R T (k + 1), .int .i64 1]) (by simp [results, Try.results53, go_sem, uplV]) rfl ⟨by simp [tookS, Upl.val], ?_⟩
    exact three_new _ _ _ _
  · go_enter Try.func53, Try.ntmps53
    unfold uplV ordV
    go_wp2_with fail
    refine bodyPost_ret (v := .tuple #[uplV n v false false false k, .int .i64 7]) (by simp [results, Try.results53, go_sem, uplV]) rfl ⟨by simp [tookS, Upl.val], ?_⟩
    exact three_new _ _ _ _
  · cases L
    · go_enter Try.func53, Try.ntmps53
      unfold uplV ordV
      go_wp2_with fail
      refine bodyPost_ret (v := .tuple #[uplV m v false false T k, .int .i64 7]) (by simp [results, Try.results53, go_sem, uplV]) rfl ⟨by simp [tookS, Upl.val], ?_⟩
      exact three_new _ _ _ _
    · go_enter Try.func53, Try.ntmps53
      unfold uplV ordV
      go_wp2_with fail
      refine bodyPost_ret (v := .tuple #[uplV n v true R T k, .int .i64 5]) (by simp [results, Try.results53, go_sem, uplV]) rfl ⟨by simp [tookS, Upl.val], ?_⟩
      exact three_new _ _ _ _
  · go_enter Try.func53, Try.ntmps53
    unfold uplV ordV
    go_wp2_with fail
    refine bodyPost_ret (v := .tuple #[uplV n v L R true k, .int .i64 7]) (by simp [results, Try.results53, go_sem, uplV]) rfl ⟨by simp [tookS, Upl.val], ?_⟩
    exact three_new _ _ _ _
end Go.Proofs.Yteikggieekhfkaa

/- the walks of both Take and Report, whole. -/
namespace Go.Proofs.Yteikggieekhfkaa
open Go.RowKit

/-- a block of cells -/
def Blk (w : World) (g : Nat) (C : Array Value) (t : TypeId) : Prop := w.heap[g]? = some (.cells C t (0, 0))
theorem Blk.cell {w : World} {g : Nat} {C : Array Value} {t : TypeId} (h : Blk w g C t) (k : Nat) (v : Value) (hk : C[k]? = some v) : w.cell? ⟨g, k, none⟩ = some v := by
  unfold Blk at h
  simp [World.cell?, h, hk]
theorem Blk.free {w : World} {g : Nat} {C : Array Value} {t : TypeId} (h : Blk w g C t) (k : Nat) : w.frozen? ⟨g, k, none⟩ = false := by
  unfold Blk at h
  simp [World.frozen?, h]
theorem Blk.below {w w' : World} {B g : Nat} {C : Array Value} {t : TypeId} (h : Blk w g C t) (hb : Below B w w') (hg : g < B) : Blk w' g C t := (hb.block g hg).trans h
theorem Blk.new (w : World) (C : Array Value) (t : TypeId) : Blk (w.alloc (.cells C t)) w.heap.size C t := heap_new w _
theorem Blk.snd (w : World) (a : Obj) (C : Array Value) (t : TypeId) : Blk ((w.alloc a).alloc (.cells C t)) (w.heap.size + 1) C t := by
  have := Blk.new (w.alloc a) C t
  rw [World.size_alloc] at this
  exact this
theorem Blk.thd (w : World) (a b : Obj) (C : Array Value) (t : TypeId) : Blk (((w.alloc a).alloc b).alloc (.cells C t)) (w.heap.size + 1 + 1) C t := by
  have := Blk.new ((w.alloc a).alloc b) C t
  rw [World.size_alloc, World.size_alloc] at this
  exact this
theorem Blk.alloc {w : World} {g : Nat} {C : Array Value} {t : TypeId} (h : Blk w g C t) (o : Obj) : Blk (w.alloc o) g C t := by
  have hg : g < w.heap.size := by
    unfold Blk at h
    exact (Array.getElem?_eq_some_iff.1 h).1
  exact h.below ((Below.refl w.heap.size w).alloc (Nat.le_refl _) o) hg
theorem Blk.other {w : World} {g g' k : Nat} {u : Value} {C : Array Value} {t : TypeId} (h : Blk w g C t) (hg : g' ≠ g) : Blk (w.setCell ⟨g', k, none⟩ u) g C t :=
  (Below.heap_setCell w ⟨g', k, none⟩ u g (fun e => hg e.symm)).trans h
theorem Blk.lt {w : World} {g : Nat} {C : Array Value} {t : TypeId} (h : Blk w g C t) : g < w.heap.size := by
  unfold Blk at h
  exact (Array.getElem?_eq_some_iff.1 h).1
theorem Blk.drew {w : World} {g : Nat} {C : Array Value} {t : TypeId} (h : Blk w g C t) (n : Nat) : Blk (w.drewN n) g C t := h
/-- a board's cells, a command's -/
def uplC (n v : Int) (L R T : Bool) (k : Int) : Array Value := #[.int .i64 n, .int .i64 v, .bool L, .bool R, .bool T, .int .i64 k]
def ordC (c m : Int) (A : Option Addr) (n k : Nat) : Array Value := #[.int .i64 c, .int .i64 m, .slice A n k]
def ackC (n : Int) (L R T : Bool) : Array Value := #[.int .i64 n, .bool L, .bool R, .bool T]
def ackV (n : Int) (L R T : Bool) : Value := .agg #[.int .i64 n, .bool L, .bool R, .bool T]
theorem blk_u {w : World} {g : Nat} {n v : Int} {L R T : Bool} {k : Int} {t : TypeId} (h : Blk w g (uplC n v L R T k) t) : w.cell? ⟨g, 0, none⟩ = some (.int .i64 n) ∧ w.cell? ⟨g, 1, none⟩ = some (.int .i64 v) ∧ w.cell? ⟨g, 2, none⟩ = some (.bool L) ∧ w.cell? ⟨g, 3, none⟩ = some (.bool R) ∧ w.cell? ⟨g, 4, none⟩ = some (.bool T) ∧ w.cell? ⟨g, 5, none⟩ = some (.int .i64 k) :=
  ⟨h.cell 0 _ rfl, h.cell 1 _ rfl, h.cell 2 _ rfl, h.cell 3 _ rfl, h.cell 4 _ rfl, h.cell 5 _ rfl⟩
theorem blk_o {w : World} {g : Nat} {c m : Int} {A : Option Addr} {n k : Nat} {t : TypeId} (h : Blk w g (ordC c m A n k) t) : w.cell? ⟨g, 0, none⟩ = some (.int .i64 c) ∧ w.cell? ⟨g, 1, none⟩ = some (.int .i64 m) ∧ w.cell? ⟨g, 2, none⟩ = some (.slice A n k) :=
  ⟨h.cell 0 _ rfl, h.cell 1 _ rfl, h.cell 2 _ rfl⟩
theorem blk_a {w : World} {g : Nat} {n : Int} {L R T : Bool} {t : TypeId} (h : Blk w g (ackC n L R T) t) : w.cell? ⟨g, 0, none⟩ = some (.int .i64 n) ∧ w.cell? ⟨g, 1, none⟩ = some (.bool L) ∧ w.cell? ⟨g, 2, none⟩ = some (.bool R) ∧ w.cell? ⟨g, 3, none⟩ = some (.bool T) :=
  ⟨h.cell 0 _ rfl, h.cell 1 _ rfl, h.cell 2 _ rfl, h.cell 3 _ rfl⟩
theorem blk_f {w : World} {g : Nat} {C : Array Value} {t : TypeId} (h : Blk w g C t) : w.frozen? ⟨g, 0, none⟩ = false ∧ w.frozen? ⟨g, 1, none⟩ = false ∧ w.frozen? ⟨g, 2, none⟩ = false ∧ w.frozen? ⟨g, 3, none⟩ = false ∧ w.frozen? ⟨g, 4, none⟩ = false ∧ w.frozen? ⟨g, 5, none⟩ = false :=
  ⟨h.free 0, h.free 1, h.free 2, h.free 3, h.free 4, h.free 5⟩
theorem ord_ok {c m : Int} {n : Nat} (h : ordS c m n = 0) : 1 ≤ c ∧ c ≤ 5 ∧ 0 ≤ m ∧ m ≤ 255 := by
  unfold ordS at h
  split at h
  · split at h
    · omega
    · simp at h
  · simp at h

set_option maxRecDepth 100000 in
set_option maxHeartbeats 1600000 in
theorem p_Take_any (n v : Int) (L R T : Bool) (k c m : Int) (A : Option Addr) (z z' : Nat) (w : World) :
    Calls Try.prog 15 #[uplV n v L R T k, ordV c m A z z'] w fun e w' => e = .returned (.tuple #[(takeS ⟨n, v, L, R, T, k⟩ c m z).1.val, .int .i64 (takeS ⟨n, v, L, R, T, k⟩ c m z).2.1, .int .i64 (takeS ⟨n, v, L, R, T, k⟩ c m z).2.2]) ∧ Below w.heap.size w w' := by
  have HE := Lib.hid (show takeS ⟨n, v, L, R, T, k⟩ c m z = if brdS n v k ≠ 0 then (zeroU, 0, brdS n v k)
    else if ordS c m z ≠ 0 then (zeroU, 0, ordS c m z)
    else if 1000000 < (tookS ⟨n, v, L, R, T, k⟩ c m).1.k then (zeroU, 0, 16)
    else ((tookS ⟨n, v, L, R, T, k⟩ c m).1, (tookS ⟨n, v, L, R, T, k⟩ c m).2, 0) from rfl)
  have HB := Lib.hid (p_checkBoard_any n v L R T k)
  have HO := Lib.hid (p_checkOrder_any c m A z z')
  have HT := Lib.hid (fun (w : World) (hb : BrdOk n v k) (h2 : 1 ≤ c ∧ c ≤ 5 ∧ 0 ≤ m ∧ m ≤ 255) => p_take_any n v L R T k c m A z z' w hb h2.2.2.1 h2.2.2.2 h2.1 h2.2.1)
  have hb1 := @brd_ok n v k
  have hb2 := @ord_ok c m z
  generalize takeS ⟨n, v, L, R, T, k⟩ c m z = X at *
  generalize brdS n v k = F at *
  generalize ordS c m z = G at *
  generalize tookS ⟨n, v, L, R, T, k⟩ c m = Y at *
  obtain ⟨⟨n', v', L', R', T', k'⟩, u⟩ := Y
  unfold Upl.val at *
  unfold uplV ordV at *
  simp only at HT HE
  have hw1 : ∀ (w : World) (a b c : Obj), Below w.heap.size w (((w.alloc a).alloc b).alloc c) := three_new
  have H1 := Lib.hid hw1
  clear hw1
  by_cases hF : F = 0
  · have hF2 : (F != 0) = false := by simpa using hF
    have HOK := Lib.hid (hb1 hF)
    by_cases hG : G = 0
    · have hG2 : (G != 0) = false := by simpa using hG
      have HTT := Lib.hid (fun w => HT.out w HOK.out (hb2 hG))
      have HX : Hid (X = if 1000000 < k' then (zeroU, 0, 16) else (⟨n', v', L', R', T', k'⟩, u, 0)) := Lib.hid (by rw [HE.out, if_neg (by simp [hF]), if_neg (by simp [hG])])
      have HFF := Lib.hid hF
      have HGG := Lib.hid hG
      clear hF hG HE HT hb1 hb2 HOK
      by_cases hk : 1000000 < k'
      all_goals
        go_enter Try.func15, Try.ntmps15
        go_wp2_with fail
        refine (HB.out _).mono ?_
        rintro e w1 ⟨rfl, hb1⟩
        have g0 : Blk w1 w.heap.size (uplC n v L R T k) 23 := ((((Blk.new w _ _).alloc _).alloc _).below hb1 (by simp; omega))
        have g1 : Blk w1 (w.heap.size + 1) (ordC c m A z z') 26 := (((Blk.snd w _ _ _).alloc _).below hb1 (by simp))
        have g2 : Blk w1 (w.heap.size + 1 + 1) (uplC 0 0 false false false 0) 23 := ((Blk.thd w _ _ _ _).below hb1 (by simp))
        have s1 : w.heap.size + 3 ≤ w1.heap.size := by have := hb1.size; simp at this; omega
        have B1 := (H1.out w _ _ _).trans (hb1.mono (by simp; omega))
        clear hb1
        obtain ⟨p0, p1, p2⟩ := blk_o g1
        go_wp2_with fail
        refine (HO.out _).mono ?_
        rintro e w2 ⟨rfl, hb2⟩
        clear p0 p1 p2
        have g0 := g0.below hb2 (by omega)
        have g1 := g1.below hb2 (by omega)
        have g2 := g2.below hb2 (by omega)
        have s2 : w.heap.size + 3 ≤ w2.heap.size := by have := hb2.size; omega
        have B2 := B1.trans (hb2.mono (by omega))
        clear hb2
        obtain ⟨p0, p1, p2⟩ := blk_o g1
        obtain ⟨q0, q1, q2, q3, q4, q5⟩ := blk_u g0
        go_wp2_with fail
        refine (HTT.out _).mono ?_
        rintro e w3 ⟨rfl, hb3⟩
        clear p0 p1 p2 q0 q1 q2 q3 q4 q5 g0 g1
        have g2 := g2.below hb3 (by omega)
        have s3 : w.heap.size + 3 ≤ w3.heap.size := by have := hb3.size; omega
        have B3 := B2.trans (hb3.mono (by omega))
        clear hb3
        obtain ⟨q0, q1, q2, q3, q4, q5⟩ := blk_u g2
        obtain ⟨f0, f1, f2, f3, f4, f5⟩ := blk_f g2
        have hlt : w.heap.size + 1 + 1 < w3.heap.size := by omega
        clear s1 s2 s3 B1 B2
        go_wp2_with fail
      · refine bodyPost_ret (v := .tuple #[uplV 0 0 false false false 0, .int .i64 0, .int .i64 16]) (by simp [results, Try.results15, go_sem, uplV, q0, q1, q2, q3, q4, q5, hlt]) rfl ⟨by rw [HX.out, if_pos hk]; rfl, ?_⟩
        exact (six_set B3 (by omega) _ _ _ _ _ _).alloc (by simp; omega) _
      · refine bodyPost_ret (v := .tuple #[uplV n' v' L' R' T' k', .int .i64 u, .int .i64 0]) (by simp [results, Try.results15, go_sem, uplV, q0, q1, q2, q3, q4, q5, hlt]) rfl ⟨by rw [HX.out, if_neg (by omega)]; rfl, ?_⟩
        exact (six_set B3 (by omega) _ _ _ _ _ _).alloc (by simp; omega) _
    · have hG2 : (G != 0) = true := by simpa using hG
      have HX : Hid (X = (zeroU, 0, G)) := Lib.hid (by rw [HE.out, if_neg (by simp [hF]), if_pos hG])
      clear hF hG HE HT hb1 hb2 HOK
      go_enter Try.func15, Try.ntmps15
      go_wp2_with fail
      refine (HB.out _).mono ?_
      rintro e w1 ⟨rfl, hb1⟩
      have g1 : Blk w1 (w.heap.size + 1) (ordC c m A z z') 26 := (((Blk.snd w _ _ _).alloc _).below hb1 (by simp))
      have g2 : Blk w1 (w.heap.size + 1 + 1) (uplC 0 0 false false false 0) 23 := ((Blk.thd w _ _ _ _).below hb1 (by simp))
      have s1 : w.heap.size + 3 ≤ w1.heap.size := by have := hb1.size; simp at this; omega
      have B1 := (H1.out w _ _ _).trans (hb1.mono (by simp; omega))
      clear hb1
      obtain ⟨p0, p1, p2⟩ := blk_o g1
      go_wp2_with fail
      refine (HO.out _).mono ?_
      rintro e w2 ⟨rfl, hb2⟩
      clear p0 p1 p2
      have g2 := g2.below hb2 (by omega)
      have B2 := B1.trans (hb2.mono (by omega))
      clear hb2 s1 B1
      obtain ⟨q0, q1, q2, q3, q4, q5⟩ := blk_u g2
      obtain ⟨f0, f1, f2, f3, f4, f5⟩ := blk_f g2
      go_wp2_with fail
      refine bodyPost_ret (v := .tuple #[uplV 0 0 false false false 0, .int .i64 0, .int .i64 G]) (by simp [results, Try.results15, go_sem, uplV, q0, q1, q2, q3, q4, q5]) rfl ⟨by rw [HX.out]; rfl, ?_⟩
      exact six_set B2 (by omega) _ _ _ _ _ _
  · have hF2 : (F != 0) = true := by simpa using hF
    have HX : Hid (X = (zeroU, 0, F)) := Lib.hid (by rw [HE.out, if_pos hF])
    clear hF HE HT hb1 hb2
    go_enter Try.func15, Try.ntmps15
    go_wp2_with fail
    refine (HB.out _).mono ?_
    rintro e w1 ⟨rfl, hb1⟩
    have g2 : Blk w1 (w.heap.size + 1 + 1) (uplC 0 0 false false false 0) 23 := ((Blk.thd w _ _ _ _).below hb1 (by simp))
    have B1 := (H1.out w _ _ _).trans (hb1.mono (by simp; omega))
    clear hb1
    obtain ⟨q0, q1, q2, q3, q4, q5⟩ := blk_u g2
    obtain ⟨f0, f1, f2, f3, f4, f5⟩ := blk_f g2
    go_wp2_with fail
    refine bodyPost_ret (v := .tuple #[uplV 0 0 false false false 0, .int .i64 0, .int .i64 F]) (by simp [results, Try.results15, go_sem, uplV, q0, q1, q2, q3, q4, q5]) rfl ⟨by rw [HX.out]; rfl, ?_⟩
    exact six_set B1 (by omega) _ _ _ _ _ _
set_option maxRecDepth 100000 in
set_option maxHeartbeats 400000 in
theorem p_report_any (n v : Int) (L R T : Bool) (k : Int) (w : World) :
    Calls Try.prog 57 #[uplV n v L R T k] w fun e w' => e = .returned (ackV n L R T) ∧ Below w.heap.size w w' := by
  unfold uplV
  go_enter Try.func57, Try.ntmps57
  go_wp2_with fail
  refine bodyPost_ret (v := ackV n L R T) (by simp [results, Try.results57, go_sem, ackV]) rfl ⟨rfl, ?_⟩
  exact two_new _ _ _
set_option maxRecDepth 100000 in
set_option maxHeartbeats 1000000 in
theorem p_Report_any (n v : Int) (L R T : Bool) (k : Int) (w : World) :
    Calls Try.prog 19 #[uplV n v L R T k] w fun e w' => e = .returned (.tuple #[if brdS n v k = 0 then ackV n L R T else ackV 0 false false false, .int .i64 (brdS n v k)]) ∧ Below w.heap.size w w' := by
  have HB := Lib.hid (p_checkBoard_any n v L R T k)
  have HR := Lib.hid (p_report_any n v L R T k)
  generalize brdS n v k = F at *
  unfold uplV ackV at *
  by_cases hF : F = 0
  · have hF2 : (F != 0) = false := by simpa using hF
    have HF := Lib.hid hF
    clear hF
    go_enter Try.func19, Try.ntmps19
    go_wp2_with fail
    refine (HB.out _).mono ?_
    rintro e w1 ⟨rfl, hb1⟩
    have g0 : Blk w1 w.heap.size (uplC n v L R T k) 23 := (((Blk.new w _ _).alloc _).below hb1 (by simp; omega))
    have g2 : Blk w1 (w.heap.size + 1) (ackC 0 false false false) 32 := ((Blk.snd w _ _ _).below hb1 (by simp))
    have s1 : w.heap.size + 2 ≤ w1.heap.size := by have := hb1.size; simp at this; omega
    have B1 := (two_new w _ _).trans (hb1.mono (by simp; omega))
    clear hb1
    obtain ⟨q0, q1, q2, q3, q4, q5⟩ := blk_u g0
    go_wp2_with fail
    refine (HR.out _).mono ?_
    rintro e w2 ⟨rfl, hb2⟩
    clear q0 q1 q2 q3 q4 q5 g0
    have g2 := g2.below hb2 (by omega)
    have B2 := B1.trans (hb2.mono (by omega))
    clear hb2 B1
    obtain ⟨q0, q1, q2, q3⟩ := blk_a g2
    obtain ⟨f0, f1, f2, f3, -, -⟩ := blk_f g2
    go_wp2_with fail
    refine bodyPost_ret (v := .tuple #[.agg #[.int .i64 n, .bool L, .bool R, .bool T], .int .i64 0]) (by simp [results, Try.results19, go_sem, q0, q1, q2, q3]) rfl ⟨rfl, ?_⟩
    exact (((B2.setCell (by simp) _).setCell (by simp) _).setCell (by simp) _).setCell (by simp) _
  · have hF2 : (F != 0) = true := by simpa using hF
    have HF := Lib.hid hF
    clear hF
    go_enter Try.func19, Try.ntmps19
    go_wp2_with fail
    refine (HB.out _).mono ?_
    rintro e w1 ⟨rfl, hb1⟩
    have g2 : Blk w1 (w.heap.size + 1) (ackC 0 false false false) 32 := ((Blk.snd w _ _ _).below hb1 (by simp))
    have B1 := (two_new w _ _).trans (hb1.mono (by simp; omega))
    clear hb1
    obtain ⟨q0, q1, q2, q3⟩ := blk_a g2
    obtain ⟨f0, f1, f2, f3, -, -⟩ := blk_f g2
    go_wp2_with fail
    refine bodyPost_ret (v := .tuple #[.agg #[.int .i64 0, .bool false, .bool false, .bool false], .int .i64 F]) (by simp [results, Try.results19, go_sem, q0, q1, q2, q3]) rfl ⟨rfl, ?_⟩
    exact (((B1.setCell (by simp) _).setCell (by simp) _).setCell (by simp) _).setCell (by simp) _
set_option maxRecDepth 100000 in
set_option maxHeartbeats 1600000 in
theorem r_Take_any (n v : Int) (L R T : Bool) (k c m : Int) (A : Option Addr) (z z' : Nat) (w : World) :
    Calls Try.prog 16 #[uplV n v L R T k, ordV c m A z z'] w fun e w' => e = .returned (.tuple #[(takeS ⟨n, v, L, R, T, k⟩ c m z).1.val, .int .i64 (takeS ⟨n, v, L, R, T, k⟩ c m z).2.1, .int .i64 (takeS ⟨n, v, L, R, T, k⟩ c m z).2.2]) ∧ Below w.heap.size w w' := by
  have HE := Lib.hid (show takeS ⟨n, v, L, R, T, k⟩ c m z = if brdS n v k ≠ 0 then (zeroU, 0, brdS n v k)
    else if ordS c m z ≠ 0 then (zeroU, 0, ordS c m z)
    else if 1000000 < (tookS ⟨n, v, L, R, T, k⟩ c m).1.k then (zeroU, 0, 16)
    else ((tookS ⟨n, v, L, R, T, k⟩ c m).1, (tookS ⟨n, v, L, R, T, k⟩ c m).2, 0) from rfl)
  have HB := Lib.hid (r_checkBoard_any n v L R T k)
  have HO := Lib.hid (r_checkOrder_any c m A z z')
  have HT := Lib.hid (fun (w : World) (hb : BrdOk n v k) (h2 : 1 ≤ c ∧ c ≤ 5 ∧ 0 ≤ m ∧ m ≤ 255) => r_take_any n v L R T k c m A z z' w hb h2.2.2.1 h2.2.2.2 h2.1 h2.2.1)
  have hb1 := @brd_ok n v k
  have hb2 := @ord_ok c m z
  generalize takeS ⟨n, v, L, R, T, k⟩ c m z = X at *
  generalize brdS n v k = F at *
  generalize ordS c m z = G at *
  generalize tookS ⟨n, v, L, R, T, k⟩ c m = Y at *
  obtain ⟨⟨n', v', L', R', T', k'⟩, u⟩ := Y
  unfold Upl.val at *
  unfold uplV ordV at *
  simp only at HT HE
  have hw1 : ∀ (w : World) (a b c : Obj), Below w.heap.size w (((w.alloc a).alloc b).alloc c) := three_new
  have H1 := Lib.hid hw1
  clear hw1
  by_cases hF : F = 0
  · have hF2 : (F != 0) = false := by simpa using hF
    have HOK := Lib.hid (hb1 hF)
    by_cases hG : G = 0
    · have hG2 : (G != 0) = false := by simpa using hG
      have HTT := Lib.hid (fun w => HT.out w HOK.out (hb2 hG))
      have HX : Hid (X = if 1000000 < k' then (zeroU, 0, 16) else (⟨n', v', L', R', T', k'⟩, u, 0)) := Lib.hid (by rw [HE.out, if_neg (by simp [hF]), if_neg (by simp [hG])])
      have HFF := Lib.hid hF
      have HGG := Lib.hid hG
      clear hF hG HE HT hb1 hb2 HOK
      by_cases hk : 1000000 < k'
      all_goals
        go_enter Try.func16, Try.ntmps16
        go_wp2_with fail
        refine (HB.out _).mono ?_
        rintro e w1 ⟨rfl, hb1⟩
        have g0 : Blk w1 w.heap.size (uplC n v L R T k) 23 := ((((Blk.new w _ _).alloc _).alloc _).below hb1 (by simp; omega))
        have g1 : Blk w1 (w.heap.size + 1) (ordC c m A z z') 26 := (((Blk.snd w _ _ _).alloc _).below hb1 (by simp))
        have g2 : Blk w1 (w.heap.size + 1 + 1) (uplC 0 0 false false false 0) 23 := ((Blk.thd w _ _ _ _).below hb1 (by simp))
        have s1 : w.heap.size + 3 ≤ w1.heap.size := by have := hb1.size; simp at this; omega
        have B1 := (H1.out w _ _ _).trans (hb1.mono (by simp; omega))
        clear hb1
        obtain ⟨p0, p1, p2⟩ := blk_o g1
        go_wp2_with fail
        refine (HO.out _).mono ?_
        rintro e w2 ⟨rfl, hb2⟩
        clear p0 p1 p2
        have g0 := g0.below hb2 (by omega)
        have g1 := g1.below hb2 (by omega)
        have g2 := g2.below hb2 (by omega)
        have s2 : w.heap.size + 3 ≤ w2.heap.size := by have := hb2.size; omega
        have B2 := B1.trans (hb2.mono (by omega))
        clear hb2
        obtain ⟨p0, p1, p2⟩ := blk_o g1
        obtain ⟨q0, q1, q2, q3, q4, q5⟩ := blk_u g0
        go_wp2_with fail
        refine (HTT.out _).mono ?_
        rintro e w3 ⟨rfl, hb3⟩
        clear p0 p1 p2 q0 q1 q2 q3 q4 q5 g0 g1
        have g2 := g2.below hb3 (by omega)
        have s3 : w.heap.size + 3 ≤ w3.heap.size := by have := hb3.size; omega
        have B3 := B2.trans (hb3.mono (by omega))
        clear hb3
        obtain ⟨q0, q1, q2, q3, q4, q5⟩ := blk_u g2
        obtain ⟨f0, f1, f2, f3, f4, f5⟩ := blk_f g2
        have hlt : w.heap.size + 1 + 1 < w3.heap.size := by omega
        clear s1 s2 s3 B1 B2
        go_wp2_with fail
      · refine bodyPost_ret (v := .tuple #[uplV 0 0 false false false 0, .int .i64 0, .int .i64 16]) (by simp [results, Try.results16, go_sem, uplV, q0, q1, q2, q3, q4, q5, hlt]) rfl ⟨by rw [HX.out, if_pos hk]; rfl, ?_⟩
        exact (six_set B3 (by omega) _ _ _ _ _ _).alloc (by simp; omega) _
      · refine bodyPost_ret (v := .tuple #[uplV n' v' L' R' T' k', .int .i64 u, .int .i64 0]) (by simp [results, Try.results16, go_sem, uplV, q0, q1, q2, q3, q4, q5, hlt]) rfl ⟨by rw [HX.out, if_neg (by omega)]; rfl, ?_⟩
        exact (six_set B3 (by omega) _ _ _ _ _ _).alloc (by simp; omega) _
    · have hG2 : (G != 0) = true := by simpa using hG
      have HX : Hid (X = (zeroU, 0, G)) := Lib.hid (by rw [HE.out, if_neg (by simp [hF]), if_pos hG])
      clear hF hG HE HT hb1 hb2 HOK
      go_enter Try.func16, Try.ntmps16
      go_wp2_with fail
      refine (HB.out _).mono ?_
      rintro e w1 ⟨rfl, hb1⟩
      have g1 : Blk w1 (w.heap.size + 1) (ordC c m A z z') 26 := (((Blk.snd w _ _ _).alloc _).below hb1 (by simp))
      have g2 : Blk w1 (w.heap.size + 1 + 1) (uplC 0 0 false false false 0) 23 := ((Blk.thd w _ _ _ _).below hb1 (by simp))
      have s1 : w.heap.size + 3 ≤ w1.heap.size := by have := hb1.size; simp at this; omega
      have B1 := (H1.out w _ _ _).trans (hb1.mono (by simp; omega))
      clear hb1
      obtain ⟨p0, p1, p2⟩ := blk_o g1
      go_wp2_with fail
      refine (HO.out _).mono ?_
      rintro e w2 ⟨rfl, hb2⟩
      clear p0 p1 p2
      have g2 := g2.below hb2 (by omega)
      have B2 := B1.trans (hb2.mono (by omega))
      clear hb2 s1 B1
      obtain ⟨q0, q1, q2, q3, q4, q5⟩ := blk_u g2
      obtain ⟨f0, f1, f2, f3, f4, f5⟩ := blk_f g2
      go_wp2_with fail
      refine bodyPost_ret (v := .tuple #[uplV 0 0 false false false 0, .int .i64 0, .int .i64 G]) (by simp [results, Try.results16, go_sem, uplV, q0, q1, q2, q3, q4, q5]) rfl ⟨by rw [HX.out]; rfl, ?_⟩
      exact six_set B2 (by omega) _ _ _ _ _ _
  · have hF2 : (F != 0) = true := by simpa using hF
    have HX : Hid (X = (zeroU, 0, F)) := Lib.hid (by rw [HE.out, if_pos hF])
    clear hF HE HT hb1 hb2
    go_enter Try.func16, Try.ntmps16
    go_wp2_with fail
    refine (HB.out _).mono ?_
    rintro e w1 ⟨rfl, hb1⟩
    have g2 : Blk w1 (w.heap.size + 1 + 1) (uplC 0 0 false false false 0) 23 := ((Blk.thd w _ _ _ _).below hb1 (by simp))
    have B1 := (H1.out w _ _ _).trans (hb1.mono (by simp; omega))
    clear hb1
    obtain ⟨q0, q1, q2, q3, q4, q5⟩ := blk_u g2
    obtain ⟨f0, f1, f2, f3, f4, f5⟩ := blk_f g2
    go_wp2_with fail
    refine bodyPost_ret (v := .tuple #[uplV 0 0 false false false 0, .int .i64 0, .int .i64 F]) (by simp [results, Try.results16, go_sem, uplV, q0, q1, q2, q3, q4, q5]) rfl ⟨by rw [HX.out]; rfl, ?_⟩
    exact six_set B1 (by omega) _ _ _ _ _ _
set_option maxRecDepth 100000 in
set_option maxHeartbeats 400000 in
theorem r_report_any (n v : Int) (L R T : Bool) (k : Int) (w : World) :
    Calls Try.prog 58 #[uplV n v L R T k] w fun e w' => e = .returned (ackV n L R T) ∧ Below w.heap.size w w' := by
  unfold uplV
  go_enter Try.func58, Try.ntmps58
  go_wp2_with fail
  refine bodyPost_ret (v := ackV n L R T) (by simp [results, Try.results58, go_sem, ackV]) rfl ⟨rfl, ?_⟩
  exact two_new _ _ _
set_option maxRecDepth 100000 in
set_option maxHeartbeats 1000000 in
theorem r_Report_any (n v : Int) (L R T : Bool) (k : Int) (w : World) :
    Calls Try.prog 20 #[uplV n v L R T k] w fun e w' => e = .returned (.tuple #[if brdS n v k = 0 then ackV n L R T else ackV 0 false false false, .int .i64 (brdS n v k)]) ∧ Below w.heap.size w w' := by
  have HB := Lib.hid (r_checkBoard_any n v L R T k)
  have HR := Lib.hid (r_report_any n v L R T k)
  generalize brdS n v k = F at *
  unfold uplV ackV at *
  by_cases hF : F = 0
  · have hF2 : (F != 0) = false := by simpa using hF
    have HF := Lib.hid hF
    clear hF
    go_enter Try.func20, Try.ntmps20
    go_wp2_with fail
    refine (HB.out _).mono ?_
    rintro e w1 ⟨rfl, hb1⟩
    have g0 : Blk w1 w.heap.size (uplC n v L R T k) 23 := (((Blk.new w _ _).alloc _).below hb1 (by simp; omega))
    have g2 : Blk w1 (w.heap.size + 1) (ackC 0 false false false) 32 := ((Blk.snd w _ _ _).below hb1 (by simp))
    have s1 : w.heap.size + 2 ≤ w1.heap.size := by have := hb1.size; simp at this; omega
    have B1 := (two_new w _ _).trans (hb1.mono (by simp; omega))
    clear hb1
    obtain ⟨q0, q1, q2, q3, q4, q5⟩ := blk_u g0
    go_wp2_with fail
    refine (HR.out _).mono ?_
    rintro e w2 ⟨rfl, hb2⟩
    clear q0 q1 q2 q3 q4 q5 g0
    have g2 := g2.below hb2 (by omega)
    have B2 := B1.trans (hb2.mono (by omega))
    clear hb2 B1
    obtain ⟨q0, q1, q2, q3⟩ := blk_a g2
    obtain ⟨f0, f1, f2, f3, -, -⟩ := blk_f g2
    go_wp2_with fail
    refine bodyPost_ret (v := .tuple #[.agg #[.int .i64 n, .bool L, .bool R, .bool T], .int .i64 0]) (by simp [results, Try.results20, go_sem, q0, q1, q2, q3]) rfl ⟨rfl, ?_⟩
    exact (((B2.setCell (by simp) _).setCell (by simp) _).setCell (by simp) _).setCell (by simp) _
  · have hF2 : (F != 0) = true := by simpa using hF
    have HF := Lib.hid hF
    clear hF
    go_enter Try.func20, Try.ntmps20
    go_wp2_with fail
    refine (HB.out _).mono ?_
    rintro e w1 ⟨rfl, hb1⟩
    have g2 : Blk w1 (w.heap.size + 1) (ackC 0 false false false) 32 := ((Blk.snd w _ _ _).below hb1 (by simp))
    have B1 := (two_new w _ _).trans (hb1.mono (by simp; omega))
    clear hb1
    obtain ⟨q0, q1, q2, q3⟩ := blk_a g2
    obtain ⟨f0, f1, f2, f3, -, -⟩ := blk_f g2
    go_wp2_with fail
    refine bodyPost_ret (v := .tuple #[.agg #[.int .i64 0, .bool false, .bool false, .bool false], .int .i64 F]) (by simp [results, Try.results20, go_sem, q0, q1, q2, q3]) rfl ⟨rfl, ?_⟩
    exact (((B1.setCell (by simp) _).setCell (by simp) _).setCell (by simp) _).setCell (by simp) _
end Go.Proofs.Yteikggieekhfkaa

/- boards, commands, reports and bytes that came in. -/
namespace Go.Proofs.Yteikggieekhfkaa
open Go.ChangeShapes Go.WideShapes Go.ChangeAt Go.RowKit

theorem cells5 : Try.prog.cellsOf 5 = 1 := by kernel_rfl
theorem cellsUpl : Try.prog.cellsOf 23 = 6 := by kernel_rfl
theorem cellsOrd : Try.prog.cellsOf 26 = 3 := by kernel_rfl
theorem cellsAck : Try.prog.cellsOf 32 = 4 := by kernel_rfl
set_option maxRecDepth 100000 in
/-- A slice of bytes that came in. -/
theorem open_u8s {H : Type} {enc : TypeId × Value → H} {W : World} {sp : Nat → Bool} {held : Bool} {n : Nat} {v : Value} {y : DataW H × List MemPlace}
    (hlt : ∀ x ∈ y.2, x.block < W.heap.size) (h : DataW.trod enc Try.prog W 0 sp held n 24 [v] = some y) :
    ∃ (A : Option Addr) (c : Nat) (l : List UInt8), v = .slice A l.length c ∧ l.length ≤ c ∧ c ≤ maxLen ∧ BR W W.heap.size A l := by
  rcases open_ints Try.underlying24 Try.underlying5 cells5 h with ⟨hcs, hx⟩ | ⟨a, len, cap, zs, hcs, _, hl, hm, hz, hx, hcell, hwz⟩
  · refine ⟨none, 0, [], by simpa using hcs, by simp, by simp [maxLen], .inl rfl⟩
  · have hlen : ((zs.take len).map fun z => UInt8.ofNat z.toNat).length = len := by
      simp
      split at hz <;> omega
    refine ⟨some a, cap, (zs.take len).map fun z => UInt8.ofNat z.toNat, ?_, by omega, hm, ?_⟩
    · rw [hlen]
      simpa using hcs
    rcases Nat.eq_zero_or_pos len with h0 | hpos
    · subst h0
      exact .inl (by simp)
    have hzl : len ≤ zs.length := by split at hz <;> omega
    refine .inr ⟨a, rfl, ?_, fun j u hu => ?_⟩
    · have := hlt (MemPlace.cell a.block a.off) (by rw [hx]; exact row_head a zs.length (by omega))
      exact this
    · have hj : j < len := by
        have := (List.getElem?_eq_some_iff.1 hu).1
        simp at this
        omega
      have hb := hcell j (by omega)
      rw [hb]
      have hzj : zs[j]? = some (zs[j]'(by omega)) := List.getElem?_eq_getElem (by omega)
      have hwf := u8_bd (hwz (zs[j]'(by omega)) (List.getElem_mem _))
      rw [← hu]
      simp [bv, hj, hzj, List.getD]
      omega

set_option maxRecDepth 100000 in
theorem open_u8d {H : Type} {enc : TypeId × Value → H} {W : World} {sp : Nat → Bool} {held : Bool} {n : Nat} {v : Value} {y : DataW H × List MemPlace}
    (hlt : ∀ x ∈ y.2, x.block < W.heap.size) (h : DataW.trod enc Try.prog W 0 sp held n 24 [v] = some y) :
    ∃ (A : Option Addr) (c : Nat) (l : List UInt8), v = .slice A l.length c ∧ l.length ≤ c ∧ c ≤ maxLen ∧ BR W W.heap.size A l ∧ (l = [] ∨ ∃ el sp', y.1 = .slice el sp' ∧ l.length ≤ el.length) := by
  rcases open_ints Try.underlying24 Try.underlying5 cells5 h with ⟨hcs, hx⟩ | ⟨a, len, cap, zs, hcs, _, hl, hm, hz, hx, hcell, hwz⟩
  · refine ⟨none, 0, [], by simpa using hcs, by simp, by simp [maxLen], .inl rfl, .inl rfl⟩
  · have hlen : ((zs.take len).map fun z => UInt8.ofNat z.toNat).length = len := by
      simp
      split at hz <;> omega
    refine ⟨some a, cap, (zs.take len).map fun z => UInt8.ofNat z.toNat, ?_, by omega, hm, ?_, .inr ⟨_, _, by rw [hx], by rw [hlen]; simp [lits]; split at hz <;> omega⟩⟩
    · rw [hlen]
      simpa using hcs
    rcases Nat.eq_zero_or_pos len with h0 | hpos
    · subst h0
      exact .inl (by simp)
    have hzl : len ≤ zs.length := by split at hz <;> omega
    refine .inr ⟨a, rfl, ?_, fun j u hu => ?_⟩
    · have := hlt (MemPlace.cell a.block a.off) (by rw [hx]; exact row_head a zs.length (by omega))
      exact this
    · have hj : j < len := by
        have := (List.getElem?_eq_some_iff.1 hu).1
        simp at this
        omega
      have hb := hcell j (by omega)
      rw [hb]
      have hzj : zs[j]? = some (zs[j]'(by omega)) := List.getElem?_eq_getElem (by omega)
      have hwf := u8_bd (hwz (zs[j]'(by omega)) (List.getElem_mem _))
      rw [← hu]
      simp [bv, hj, hzj, List.getD]
      omega
/-- a number of 64 bits -/
def In64 (n : Int) : Prop := -9223372036854775808 ≤ n ∧ n ≤ 9223372036854775807
theorem int_cell {H : Type} {enc : TypeId × Value → H} {W : World} {sp : Nat → Bool} {held : Bool} {n : Nat} {c : Value} {y : DataW H × List MemPlace}
    (h : DataW.trod enc Try.prog W 0 sp held n 3 [c] = some y) : ∃ z, c = .int .i64 z ∧ In64 z := by
  obtain ⟨z, e, _, hw⟩ := DataW.trod_int Try.underlying3 h
  injection e with e
  exact ⟨z, e, i64_bd hw⟩
theorem bool_cell {H : Type} {enc : TypeId × Value → H} {W : World} {sp : Nat → Bool} {held : Bool} {n : Nat} {c : Value} {y : DataW H × List MemPlace}
    (h : DataW.trod enc Try.prog W 0 sp held n 4 [c] = some y) : ∃ z, c = .bool z := by
  obtain ⟨z, e, _⟩ := DataW.trod_bool Try.underlying4 h
  injection e with e
  exact ⟨z, e⟩
set_option maxRecDepth 100000 in
/-- A board that came in. -/
theorem open_upl {H : Type} {enc : TypeId × Value → H} {W : World} {r : Reach} {b0 : Nat} {sp : Nat → Bool} {held : Bool} {v : Value} {d : DataW H} {p : List MemPlace}
    (hv : Value.okWide Try.prog W r b0 23 v) (h : DataW.Trod enc Try.prog W 0 sp held 23 v d p) :
    ∃ (n q : Int) (L R T : Bool) (k : Int), v = uplV n q L R T k ∧ In64 n ∧ In64 q ∧ In64 k := by
  obtain ⟨cs, ys, n, rfl, hl, _, _, hg⟩ := open_fields Try.underlying23 (by kernel_rfl) cellsUpl hv h
  obtain ⟨c0, y0, e0, _, h0⟩ := hg 0 _ rfl
  obtain ⟨c1, y1, e1, _, h1⟩ := hg 1 _ rfl
  obtain ⟨c2, y2, e2, _, h2⟩ := hg 2 _ rfl
  obtain ⟨c3, y3, e3, _, h3⟩ := hg 3 _ rfl
  obtain ⟨c4, y4, e4, _, h4⟩ := hg 4 _ rfl
  obtain ⟨c5, y5, e5, _, h5⟩ := hg 5 _ rfl
  obtain ⟨z0, rfl, w0⟩ := int_cell h0
  obtain ⟨z1, rfl, w1⟩ := int_cell h1
  obtain ⟨z2, rfl⟩ := bool_cell h2
  obtain ⟨z3, rfl⟩ := bool_cell h3
  obtain ⟨z4, rfl⟩ := bool_cell h4
  obtain ⟨z5, rfl, w5⟩ := int_cell h5
  refine ⟨z0, z1, z2, z3, z4, z5, ?_, w0, w1, w5⟩
  match cs, hl with
  | [a0, a1, a2, a3, a4, a5], _ =>
    simp only [List.getElem?_cons_zero, List.getElem?_cons_succ, Option.some.injEq] at e0 e1 e2 e3 e4 e5
    subst e0 e1 e2 e3 e4 e5
    rfl
set_option maxRecDepth 100000 in
/-- A report that came in. -/
theorem open_ack {H : Type} {enc : TypeId × Value → H} {W : World} {r : Reach} {b0 : Nat} {sp : Nat → Bool} {held : Bool} {v : Value} {d : DataW H} {p : List MemPlace}
    (hv : Value.okWide Try.prog W r b0 32 v) (h : DataW.Trod enc Try.prog W 0 sp held 32 v d p) :
    ∃ (n : Int) (L R T : Bool), v = ackV n L R T ∧ In64 n := by
  obtain ⟨cs, ys, n, rfl, hl, _, _, hg⟩ := open_fields Try.underlying32 (by kernel_rfl) cellsAck hv h
  obtain ⟨c0, y0, e0, _, h0⟩ := hg 0 _ rfl
  obtain ⟨c1, y1, e1, _, h1⟩ := hg 1 _ rfl
  obtain ⟨c2, y2, e2, _, h2⟩ := hg 2 _ rfl
  obtain ⟨c3, y3, e3, _, h3⟩ := hg 3 _ rfl
  obtain ⟨z0, rfl, w0⟩ := int_cell h0
  obtain ⟨z1, rfl⟩ := bool_cell h1
  obtain ⟨z2, rfl⟩ := bool_cell h2
  obtain ⟨z3, rfl⟩ := bool_cell h3
  refine ⟨z0, z1, z2, z3, ?_, w0⟩
  match cs, hl with
  | [a0, a1, a2, a3], _ =>
    simp only [List.getElem?_cons_zero, List.getElem?_cons_succ, Option.some.injEq] at e0 e1 e2 e3
    subst e0 e1 e2 e3
    rfl
set_option maxRecDepth 100000 in
/-- A command that came in. -/
theorem open_ord {H : Type} {enc : TypeId × Value → H} {W : World} {r : Reach} {b0 : Nat} {sp : Nat → Bool} {held : Bool} {v : Value} {d : DataW H} {p : List MemPlace}
    (hlt : ∀ x ∈ p, x.block < W.heap.size) (hv : Value.okWide Try.prog W r b0 26 v) (h : DataW.Trod enc Try.prog W 0 sp held 26 v d p) :
    ∃ (c m : Int) (A : Option Addr) (l : List UInt8) (k : Nat), v = ordV c m A l.length k ∧ In64 c ∧ In64 m ∧ l.length ≤ k ∧ k ≤ maxLen ∧ BR W W.heap.size A l := by
  obtain ⟨cs, ys, n, rfl, hl, hp, hys, hg⟩ := open_fields Try.underlying26 (by kernel_rfl) cellsOrd hv h
  obtain ⟨c0, y0, e0, _, h0⟩ := hg 0 _ rfl
  obtain ⟨c1, y1, e1, _, h1⟩ := hg 1 _ rfl
  obtain ⟨c2, y2, e2, f2, h2⟩ := hg 2 _ rfl
  have m2 : y2 ∈ ys := List.mem_of_getElem? f2
  obtain ⟨z0, rfl, w0⟩ := int_cell h0
  obtain ⟨z1, rfl, w1⟩ := int_cell h1
  obtain ⟨A, k, l, rfl, hlc, hc, hA⟩ := open_u8s (fun x hx => hlt x (by rw [hp]; exact List.mem_flatMap.2 ⟨y2, m2, hx⟩)) h2
  refine ⟨z0, z1, A, l, k, ?_, w0, w1, hlc, hc, hA⟩
  match cs, hl with
  | [a0, a1, a2], _ =>
    simp only [List.getElem?_cons_zero, List.getElem?_cons_succ, Option.some.injEq] at e0 e1 e2
    subst e0 e1 e2
    rfl
end Go.Proofs.Yteikggieekhfkaa
