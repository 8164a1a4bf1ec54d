/- the first texts of this proof, put together: words for memory, plain mathematics. -/
import Derived.Test.YteikggieekhfkaaProg
import Derived.Below
import Derived.Laws.OwnMore
import Derived.Deep.Draws
import Derived.Test.YteikggieekhfkaaRows
import Derived.ProofKit
import Derived.WalkKit
import Derived.Outline
import Derived.OwnWalk
import Derived.Maps.AppendAt
import Derived.Lib.Hide
import Derived.KernelRfl
import Derived.OpenShut
import Derived.Deep.Fields
import Derived.RegionTactic
import Derived.Deep.QuietTactic
import Derived.BigQuiet
/- words for memory: a slice whose cells are a list; bytes. -/
namespace Go.Proofs.Yteikggieekhfkaa
open Go.RowKit

theorem add_block (a : Addr) (n : Nat) : (a.add n).block = a.block := by unfold Addr.add; split <;> rfl
theorem addr_zero (a : Addr) : a.add 0 = a := by simp [Addr.add]
theorem add_twice (a : Addr) (i j : Nat) : (a.add i).add j = a.add (i + j) := by
  unfold Addr.add
  by_cases hi : i = 0 <;> by_cases hj : j = 0 <;> simp [hi, hj, Nat.add_assoc]

theorem below_draws {B : Nat} {a w : World} (h : Below B a w) (n : Nat) : Below B a (w.drewN n) := ⟨h.os, h.tape, h.output, h.size, h.block⟩
/-- at A, below block B, lie the cells xs -/
def Cells (w : World) (B : Nat) (A : Option Addr) (xs : List Value) : Prop :=
  xs = [] ∨ ∃ ad, A = some ad ∧ ad.block < B ∧ ∀ j v, xs[j]? = some v → w.cell? (ad.add j) = some v

theorem Cells.get {w : World} {B : Nat} {A : Option Addr} {xs : List Value} (h : Cells w B A xs) (k : Nat) (hk : k < xs.length) :
    ∃ ad, A = some ad ∧ ad.block < B ∧ w.cell? (ad.add k) = some xs[k] := by
  rcases h with rfl | ⟨ad, e, hb, hc⟩
  · simp at hk
  · exact ⟨ad, e, hb, hc k _ (List.getElem?_eq_getElem hk)⟩
theorem Cells.stay {w w' : World} {B : Nat} {A : Option Addr} {xs : List Value} (h : Cells w B A xs) (hk : ∀ p : Addr, p.block < B → w'.cell? p = w.cell? p) : Cells w' B A xs := by
  rcases h with e | ⟨ad, e, hb, hc⟩
  · exact .inl e
  · exact .inr ⟨ad, e, hb, fun j v hv => (hk _ (by rw [add_block]; exact hb)).trans (hc j v hv)⟩
theorem Cells.below {w w' : World} {B : Nat} {A : Option Addr} {xs : List Value} (h : Cells w B A xs) (hb : Below B w w') : Cells w' B A xs := h.stay fun _ hp => hb.cell hp
theorem Cells.lift {w : World} {B B' : Nat} {A : Option Addr} {xs : List Value} (h : Cells w B A xs) (hb : B ≤ B') : Cells w B' A xs := by
  rcases h with e | ⟨ad, e, hl, hc⟩
  · exact .inl e
  · exact .inr ⟨ad, e, by omega, hc⟩
theorem Cells.tail {w : World} {B : Nat} {A : Option Addr} {xs : List Value} (h : Cells w B A xs) (k : Nat) (hk : k < xs.length) : ∃ ad, A = some ad ∧ Cells w B (some (ad.add k)) (xs.drop k) := by
  rcases h with rfl | ⟨ad, e, hl, hc⟩
  · simp at hk
  · refine ⟨ad, e, .inr ⟨_, rfl, by rw [add_block]; exact hl, fun j v hv => ?_⟩⟩
    rw [add_twice]
    rw [List.getElem?_drop] at hv
    exact hc _ v hv
theorem Cells.front {w : World} {B : Nat} {A : Option Addr} {xs : List Value} (h : Cells w B A xs) (k : Nat) : Cells w B A (xs.take k) := by
  rcases h with rfl | ⟨ad, e, hl, hc⟩
  · exact .inl (by simp)
  · refine .inr ⟨ad, e, hl, fun j v hv => hc j v ?_⟩
    rw [List.getElem?_take] at hv
    split at hv
    · exact hv
    · cases hv

theorem Cells.fresh (w : World) (xs : List Value) (t : TypeId) (z : Nat × Nat) (C : Array Value) (hC : C = xs.toArray) : Cells (w.alloc (.cells C t z)) (w.heap.size + 1) (some ⟨w.heap.size, 0, none⟩) xs := by
  subst hC
  refine .inr ⟨_, rfl, by simp, fun j v hv => ?_⟩
  have e : (w.alloc (.cells xs.toArray t z)).heap[w.heap.size]? = some (.cells xs.toArray t z) := by
    show (w.heap.push _)[w.heap.size]? = _
    simp
  have e2 : (⟨w.heap.size, 0, none⟩ : Addr).add j = ⟨w.heap.size, j, none⟩ := by by_cases h : j = 0 <;> simp [Addr.add, h]
  rw [e2]
  simp only [World.cell?, e]
  simpa using hv

/-- a byte as a cell -/
def bv (c : UInt8) : Value := .int .u8 (c.toNat : Int)
def BR (w : World) (B : Nat) (A : Option Addr) (l : List UInt8) : Prop := Cells w B A (l.map bv)
theorem BR.get {w : World} {B : Nat} {A : Option Addr} {l : List UInt8} (h : BR w B A l) (k : Nat) (hk : k < l.length) :
    ∃ ad, A = some ad ∧ ad.block < B ∧ w.cell? (ad.add k) = some (.int .u8 (l[k].toNat : Int)) := by
  obtain ⟨ad, e, hb, hc⟩ := Cells.get h k (by simpa using hk)
  exact ⟨ad, e, hb, by simpa [bv] using hc⟩
theorem BR.below {w w' : World} {B : Nat} {A : Option Addr} {l : List UInt8} (h : BR w B A l) (hb : Below B w w') : BR w' B A l := Cells.below h hb
theorem BR.lift {w : World} {B B' : Nat} {A : Option Addr} {l : List UInt8} (h : BR w B A l) (hb : B ≤ B') : BR w B' A l := Cells.lift h hb
theorem BR.tail {w : World} {B : Nat} {A : Option Addr} {l : List UInt8} (h : BR w B A l) (k : Nat) (hk : k < l.length) : ∃ ad, A = some ad ∧ BR w B (some (ad.add k)) (l.drop k) := by
  obtain ⟨ad, e, hc⟩ := Cells.tail h k (by simpa using hk)
  exact ⟨ad, e, by simpa [BR] using hc⟩
theorem BR.front {w : World} {B : Nat} {A : Option Addr} {l : List UInt8} (h : BR w B A l) (k : Nat) : BR w B A (l.take k) := by
  have := Cells.front h k
  simpa [BR] using this
theorem ret_int {k : IntKind} {a b : Int} (h : a = b) : Ending.returned (.int k a) = .returned (.int k b) := by rw [h]
theorem ret_bool {a b : Bool} (h : a = b) : Ending.returned (.bool a) = .returned (.bool b) := by rw [h]
theorem Cells.fresh' (w : World) (xs : List Value) (t : TypeId) (z : Nat × Nat) (C : Array Value) (hC : C = xs.toArray) : Cells (w.alloc (.cells C t z)) (w.heap.size + 1) (some ⟨w.heap.size, 0, none⟩) xs := Cells.fresh w xs t z C hC
/-- a number as a cell -/
def iv (z : Int) : Value := .int .i64 z
def IR (w : World) (B : Nat) (A : Option Addr) (l : List Int) : Prop := Cells w B A (l.map iv)
theorem IR.get {w : World} {B : Nat} {A : Option Addr} {l : List Int} (h : IR w B A l) (k : Nat) (hk : k < l.length) :
    ∃ ad, A = some ad ∧ ad.block < B ∧ w.cell? (ad.add k) = some (.int .i64 l[k]) := by
  obtain ⟨ad, e, hb, hc⟩ := Cells.get h k (by simpa using hk)
  exact ⟨ad, e, hb, by simpa [iv] using hc⟩
theorem IR.below {w w' : World} {B : Nat} {A : Option Addr} {l : List Int} (h : IR w B A l) (hb : Below B w w') : IR w' B A l := Cells.below h hb
theorem IR.lift {w : World} {B B' : Nat} {A : Option Addr} {l : List Int} (h : IR w B A l) (hb : B ≤ B') : IR w B' A l := Cells.lift h hb
end Go.Proofs.Yteikggieekhfkaa

/- closed facts of the program that every row asks, each a declaration of its own. -/
namespace Go.Proofs.Yteikggieekhfkaa
theorem laidOut : laidOutB Try.prog = true := by kernel_rfl
theorem pMaps : mapsRowed Try.prog = true := by kernel_rfl
theorem pStops : (Try.prog.stops == []) = true := by kernel_rfl
theorem pKnobs : (Try.prog.stopKnobs == []) = true := by kernel_rfl
theorem pHeard : Try.prog.stopsHeard = true := by kernel_rfl
theorem pKeys : (Rows.commandTakesMatchSpecRow.plainKeys == Try.prog.plainKeys) = true := by kernel_rfl
theorem pEnter : Try.prog.mayEnter = true := by kernel_rfl
theorem pLifts : (Rows.commandTakesMatchSpecRow.lifted == Try.prog.liftsFinal) = true := by kernel_rfl
theorem pMake : (Try.prog.make == some Rows.commandTakesMatchSpecRow.make) = true := by kernel_rfl
theorem both {a b : Bool} (ha : a = true) (hb : b = true) : (a && b) = true := by rw [ha, hb]; rfl
end Go.Proofs.Yteikggieekhfkaa

/- appending onto a row of the call's own; rows of bytes. -/
namespace Go.Proofs.Yteikggieekhfkaa
open Go.RowKit

/-- t is the slice type of e, whose values take some cells and bytes -/
def Elem (t e : TypeId) (size bytes : Nat) : Prop :=
  Try.prog.underlying t = some (.slice e) ∧ ∃ i z, Try.prog.info? e = some i ∧ i.zero = some z ∧ i.size = size ∧ i.bytes = bytes ∧ z.cells.size = size ∧ 0 < size
theorem info3 : (Try.prog.info? 3).map (fun i => (i.zero, i.size, i.bytes)) = some (some (.int .i64 0), 1, 8) := by kernel_rfl
theorem elemI : Elem 56 3 1 8 := by
  obtain ⟨i, h1, h2, h3, h4⟩ := info_parts info3
  exact ⟨Try.underlying56, i, _, h1, h2, h3, h4, rfl, by omega⟩

theorem run_app {t e : TypeId} {size bytes : Nat} (hE : Elem t e size bytes) (w : World) (base : Nat) (ty : TypeId) (v : Value) (n : Nat) (xs : List Value) (hown : w.ownsRow base e size v n xs)
    (B : Nat) (A : Option Addr) (m c : Nat) (news : List Value) (hl : news.length = m * size) (hc : Cells w B A news) (h1 : ∀ u ∈ news, u.oneCell' = true)
    (h63 : n + m ≤ maxLen) (hb : (n + m) * bytes ≤ 140737488355328) (hbase : base ≤ w.heap.size) :
    ∃ v' w', (Builtin.append_ #[t, t] ty #[v, .slice A m c]).run Try.prog w = .ok v' w' ∧ w'.ownsRow base e size v' (n + m) (xs ++ news) ∧ w.grownBy w' v.ownBlock ∧
      (v'.ownBlock = v.ownBlock ∨ v'.ownBlock = some w.heap.size) := by
  obtain ⟨ht, i, z, hi, hz, hs, hby, hzs, hsz⟩ := hE
  cases A with
  | none =>
    have hn : news = [] := by
      rcases hc with e | ⟨ad, e, _⟩
      · exact e
      · cases e
    subst hn
    have hm : m = 0 := by
      rcases Nat.eq_zero_or_pos m with h | h
      · exact h
      · have := Nat.mul_pos h hsz
        simp at hl
        omega
    subst hm
    refine ⟨v, w, ?_, by simpa using hown, World.grownBy.refl w _, .inl rfl⟩
    rcases hown.2 with ⟨rfl, rfl⟩ | ⟨g, cap, cur, rfl, _, _, hnc, _⟩
    · simp [Builtin.append_, run_underlying ht, sizeOf, typeInfo, hi, Builtin.lenOf, Builtin.firstCells]
    · simp [Builtin.append_, run_underlying ht, sizeOf, typeInfo, hi, Builtin.lenOf, Builtin.firstCells, hnc, storeCells]
  | some ad =>
    have hnews : ∀ j u, news[j]? = some u → w.cell? (ad.add j) = some u := by
      rcases hc with e | ⟨ad', e, _, h⟩
      · subst e
        intro j u hu
        simp at hu
      · obtain rfl : ad = ad' := by injection e
        exact h
    obtain ⟨v', w', hrun, a1, a2, _, a3⟩ := run_append_own_at (P := Try.prog) w base t ty e i z size bytes ht hi hz hs hby hzs hsz v n xs hown ad m c news hl hnews h1 h63 hb hbase
    exact ⟨v', w', hrun, a1, a2, a3⟩

theorem wpList_app {ops : Array Oper} {rest : List Oper} {o : Oper} {a : Act} {Q : Exit → Act → World → Prop} (w : World) (hgd : o.guard = none) (s x : Operand) (t e : TypeId) (size bytes : Nat)
    (ho : o.op = .call { callee := .builtin .append, args := #[s, x], argTypes := #[t, t] }) (hE : Elem t e size bytes) (base : Nat)
    (v : Value) (n : Nat) (xs : List Value) (hs : a.eval s = v) (hown : w.ownsRow base e size v n xs) (B : Nat) (A : Option Addr) (m c : Nat) (news : List Value)
    (hx : a.eval x = .slice A m c) (hl : news.length = m * size) (hc : Cells w B A news) (h1 : ∀ u ∈ news, u.oneCell' = true)
    (h63 : n + m ≤ maxLen) (hb : (n + m) * bytes ≤ 140737488355328) (hbase : base ≤ w.heap.size)
    (h : ∀ v' w', w'.ownsRow base e size v' (n + m) (xs ++ news) → w.grownBy w' v.ownBlock → (v'.ownBlock = v.ownBlock ∨ v'.ownBlock = some w.heap.size) → wpList Try.prog ops Q rest (a.put o.dst v') w') :
    wpList Try.prog ops Q (o :: rest) a w := by
  refine wpList_plain hgd fun K hK => ?_
  obtain ⟨v', w', hrun, a1, a2, a3⟩ := run_app hE w base o.type v n xs hown B A m c news hl hc h1 h63 hb hbase
  unfold Oper.wp execOp
  simp only [ho, resolve, invoke, builtin, Sem.run_bind, Sem.run_pure, Result.andThen_ok, List.map_toArray, List.map_cons, List.map_nil, hs, hx, hrun]
  exact hK _ _ (h v' w' a1 a2 a3)

/-- a row of bytes of the call's own -/
def Own (w : World) (base : Nat) (v : Value) (l : List UInt8) : Prop := w.ownsRow base 5 1 v l.length (l.map bv)
theorem bv_one (l : List UInt8) : ∀ u ∈ l.map bv, u.oneCell' = true := by
  intro u hu
  obtain ⟨c, _, rfl⟩ := List.mem_map.1 hu
  rfl
theorem Own.form {w : World} {base : Nat} {v : Value} {l : List UInt8} (h : Own w base v l) : ∃ A c, v = .slice A l.length c ∧ BR w w.heap.size A l := by
  have hh := h
  rcases hh.2 with ⟨rfl, hn⟩ | ⟨g, cap, cur, rfl, hb, hg, hnc, _⟩
  · rw [hn]
    exact ⟨none, 0, rfl, .inl (by simp [List.eq_nil_of_length_eq_zero hn])⟩
  · refine ⟨_, cap, rfl, .inr ⟨_, rfl, ?_, fun j u hu => World.ownsRow.cells h (g := g) rfl j u hu⟩⟩
    exact (h.lt g rfl).2
theorem Own.read {w : World} {base n c : Nat} {A : Option Addr} {l : List UInt8} (h : Own w base (.slice A n c) l) : n = l.length ∧ BR w w.heap.size A l := by
  obtain ⟨A', c', e, hB⟩ := h.form
  injection e with e1 e2
  subst e1
  exact ⟨e2, hB⟩
theorem Own.after {w w' : World} {base B : Nat} {v : Value} {l : List UInt8} (h : Own w base v l) (hb : Below B w w') (hB : w.heap.size ≤ B) : Own w' base v l :=
  World.ownsRow.kept (row := none) h ⟨hb.os, hb.tape, hb.output, hb.size, fun k hk _ => hb.block k (by omega)⟩ (by
    rcases h' : v.ownBlock with _ | g
    · exact .inl rfl
    · exact .inr (by simp))
theorem Own.nil (w : World) (base : Nat) : Own w base (.slice none 0 0) [] := w.ownsRow_nil base 5 1
theorem Own.of {w : World} {base m : Nat} {v : Value} {a b : List UInt8} (h : w.ownsRow base 5 1 v (a.length + m) (a.map bv ++ b.map bv)) (hm : m = b.length) : Own w base v (a ++ b) := by
  subst hm
  unfold Own
  rw [List.length_append, List.map_append]
  exact h
/-- what an append leaves, said of bytes -/
def Next (w w' : World) (v v' : Value) : Prop := w.grownBy w' v.ownBlock ∧ (v'.ownBlock = v.ownBlock ∨ ∃ g, v'.ownBlock = some g ∧ w.heap.size ≤ g)
theorem Next.below {w w0 w' : World} {v v' : Value} {base : Nat} {l : List UInt8} (h : Next w w' v v') (ho : Own w base v l) (hb : Below base w0 w) (hz : base ≤ w.heap.size) : Below base w0 w' :=
  hb.grown h.1 hz fun k hk => (ho.lt k hk).1

theorem Own.lower {w : World} {base base' : Nat} {v : Value} {l : List UInt8} (h : Own w base v l) (hb : base' ≤ base) : Own w base' v l := by
  refine ⟨h.1, ?_⟩
  rcases h.2 with e | ⟨g, cap, cur, e, hg, r⟩
  · exact .inl e
  · exact .inr ⟨g, cap, cur, e, by omega, r⟩
/-- below a row's base all is as it was -/
theorem Below.at_ {B : Nat} {a w : World} (h : Below B a w) (b : Nat) (hb : b < B) (k : Nat) : w.cell? ⟨b, k, none⟩ = a.cell? ⟨b, k, none⟩ := h.cell (p := ⟨b, k, none⟩) hb

/-- a row of numbers of the call's own -/
def OwnI (w : World) (base : Nat) (v : Value) (l : List Int) : Prop := w.ownsRow base 3 1 v l.length (l.map iv)
theorem iv_one (l : List Int) : ∀ u ∈ l.map iv, u.oneCell' = true := by
  intro u hu
  obtain ⟨c, _, rfl⟩ := List.mem_map.1 hu
  rfl
theorem OwnI.form {w : World} {base : Nat} {v : Value} {l : List Int} (h : OwnI w base v l) : ∃ A c, v = .slice A l.length c ∧ IR w w.heap.size A l := by
  have hh := h
  rcases hh.2 with ⟨rfl, hn⟩ | ⟨g, cap, cur, rfl, hb, hg, hnc, _⟩
  · rw [hn]
    exact ⟨none, 0, rfl, .inl (by simp [List.eq_nil_of_length_eq_zero hn])⟩
  · refine ⟨_, cap, rfl, .inr ⟨_, rfl, ?_, fun j u hu => World.ownsRow.cells h (g := g) rfl j u hu⟩⟩
    exact (h.lt g rfl).2
theorem OwnI.read {w : World} {base n c : Nat} {A : Option Addr} {l : List Int} (h : OwnI w base (.slice A n c) l) : n = l.length ∧ IR w w.heap.size A l := by
  obtain ⟨A', c', e, hB⟩ := h.form
  injection e with e1 e2
  subst e1
  exact ⟨e2, hB⟩
theorem OwnI.after {w w' : World} {base B : Nat} {v : Value} {l : List Int} (h : OwnI w base v l) (hb : Below B w w') (hB : w.heap.size ≤ B) : OwnI w' base v l :=
  World.ownsRow.kept (row := none) h ⟨hb.os, hb.tape, hb.output, hb.size, fun k hk _ => hb.block k (by omega)⟩ (by
    rcases h' : v.ownBlock with _ | g
    · exact .inl rfl
    · exact .inr (by simp))
theorem OwnI.nil (w : World) (base : Nat) : OwnI w base (.slice none 0 0) [] := w.ownsRow_nil base 3 1
theorem OwnI.of {w : World} {base m : Nat} {v : Value} {a b : List Int} (h : w.ownsRow base 3 1 v (a.length + m) (a.map iv ++ b.map iv)) (hm : m = b.length) : OwnI w base v (a ++ b) := by
  subst hm
  unfold OwnI
  rw [List.length_append, List.map_append]
  exact h
theorem OwnI.lower {w : World} {base base' : Nat} {v : Value} {l : List Int} (h : OwnI w base v l) (hb : base' ≤ base) : OwnI w base' v l := by
  refine ⟨h.1, ?_⟩
  rcases h.2 with e | ⟨g, cap, cur, e, hg, r⟩
  · exact .inl e
  · exact .inr ⟨g, cap, cur, e, by omega, r⟩
end Go.Proofs.Yteikggieekhfkaa

/- from a walk to a row: every argument reads behind the call as it did; the answer is true. -/
namespace Go.Proofs.Yteikggieekhfkaa
open Go.ChangeShapes Go.WideShapes Go.ChangeAt Go.RowKit

theorem own : ownKnob Try.prog.godebug = none := by kernel_rfl

theorem cells3 : Try.prog.cellsOf 3 = 1 := by kernel_rfl

theorem carried {H : Type} {enc : TypeId × Value → H} {W W' : World} (hb : Below W.heap.size W W') :
    ∀ {ts : List TypeId} {vs : List Value} {ds : List (DataW H)} {ps : List MemPlace}, (∀ t ∈ ts, Try.prog.readableRec t = true ∧ t < Try.prog.types.size) →
      DataW.TrodAll enc Try.prog W 0 (fun _ => true) true ts vs ds ps → (∀ x ∈ ps, x.block < W.heap.size) →
      DataW.TrodAll enc Try.prog W' 0 (fun b => decide (b < W.heap.size)) true ts vs ds ps
  | [], vs, ds, ps, _, h, _ => by
    obtain ⟨rfl, rfl, rfl⟩ := trodAll_nil h
    exact trodAll_mk0
  | t :: ts, vs, ds, ps, hr, h, hlt => by
    obtain ⟨v, vs1, d, ds1, a, b, rfl, rfl, rfl, h1, h2⟩ := trodAll_cons h
    have ht := hr t (by simp)
    exact trodAll_cons_mk (Below.trod laidOut ht.1 ht.2 h1 hb (fun x hx => hlt x (List.mem_append.2 (.inl hx))))
      (carried hb (fun u hu => hr u (by simp [hu])) h2 (fun x hx => hlt x (List.mem_append.2 (.inr hx))))

/-- The row's last step, for a law that answers true and makes new memory alone. -/
theorem law_post {H : Type} {enc : TypeId × Value → H} {f : Func} {s : ChangeSpec} {W W' : World} {args : Array Value} {ds gs : List (DataW H)} {before : List MemPlace}
    (hr : ∀ t ∈ f.params.toList, Try.prog.readableRec t = true ∧ t < Try.prog.types.size) (hres : f.resultTypes = #[4]) (hv : s.vars = [])
    (hW : DataW.Whole enc Try.prog f.params.toList s.vars false W args.toList ds gs before) (hf : s.fn H ds = { results := [.lit (.bool true)], args := ds }) (hb : Below W.heap.size W W') :
    s.post enc Try.prog f false true false false W args (.bool true) W' := by
  have hW' := hW
  have hlt : ∀ x ∈ before, x.block < W.heap.size := fun x hx => by simpa using hW'.lt x hx
  obtain ⟨p, q, hA, hV, hp, _, _⟩ := hW
  rw [hv] at hV
  obtain ⟨rfl, rfl⟩ := trodVars_none hV
  obtain rfl : before = p := by simpa using hp
  have hA' := carried hb hr hA hlt
  refine ⟨ds, [], before, [], before, [], hW', ?_, ?_, ?_, hb.frame _, fun h => by cases h⟩
  · rw [List.append_nil, hf, hres]
    exact trodAll_mk1 (shut_bool Try.underlying4 _)
  · rw [List.append_nil, hf]
    exact hA'
  · rw [List.append_nil, hf, hv]
    rfl

theorem u8_bd {z : Int} (h : (Lit.int .u8 z).wf = true) : 0 ≤ z ∧ z ≤ 255 := by
  simp only [Lit.wf, Bool.and_eq_true, decide_eq_true_eq] at h
  exact h
theorem row_head (a : Addr) (n : Nat) (h : 0 < n) : MemPlace.cell a.block a.off ∈ MemPlace.row a n :=
  List.mem_map.2 ⟨0, by simpa using h, by simp⟩

theorem i64_bd {z : Int} (h : (Lit.int .i64 z).wf = true) : -9223372036854775808 ≤ z ∧ z ≤ 9223372036854775807 := by
  simp only [Lit.wf, Bool.and_eq_true, decide_eq_true_eq] at h
  exact h
/-- A number slice that came in. -/
theorem open_is {H : Type} {enc : TypeId × Value → H} {W : World} {sp : Nat → Bool} {held : Bool} {n : Nat} {v : Value} {y : DataW H × List MemPlace}
    (hlt : ∀ x ∈ y.2, x.block < W.heap.size) (h : DataW.trod enc Try.prog W 0 sp held n 56 [v] = some y) :
    ∃ (A : Option Addr) (c : Nat) (l : List Int), v = .slice A l.length c ∧ l.length ≤ c ∧ c ≤ maxLen ∧ IR W W.heap.size A l ∧ ∀ z ∈ l, -9223372036854775808 ≤ z ∧ z ≤ 9223372036854775807 := by
  rcases open_ints Try.underlying56 Try.underlying3 cells3 h with ⟨hcs, hx⟩ | ⟨a, len, cap, zs, hcs, _, hl, hm, hz, hx, hcell, hwz⟩
  · refine ⟨none, 0, [], by simpa using hcs, by simp, by simp [maxLen], .inl rfl, by simp⟩
  · have hlen : (zs.take len).length = len := by
      simp
      split at hz <;> omega
    refine ⟨some a, cap, zs.take len, ?_, by omega, hm, ?_, fun z hz' => i64_bd (hwz z (List.mem_of_mem_take hz'))⟩
    · rw [hlen]
      simpa using hcs
    rcases Nat.eq_zero_or_pos len with h0 | hpos
    · subst h0
      exact .inl (by simp)
    have hzl : len ≤ zs.length := by split at hz <;> omega
    refine .inr ⟨a, rfl, ?_, fun j u hu => ?_⟩
    · have := hlt (MemPlace.cell a.block a.off) (by rw [hx]; exact row_head a zs.length (by omega))
      exact this
    · have hj : j < len := by
        have := (List.getElem?_eq_some_iff.1 hu).1
        simp at this
        omega
      have hb := hcell j (by omega)
      rw [hb]
      have hzj : zs[j]? = some (zs[j]'(by omega)) := List.getElem?_eq_getElem (by omega)
      rw [← hu]
      simp [iv, hj, hzj, List.getD]
set_option maxRecDepth 100000 in
theorem open_fields {H : Type} {enc : TypeId × Value → H} {W : World} {r : Reach} {b0 : Nat} {sp : Nat → Bool} {held : Bool} {t : TypeId} {fs : Array Field} {v : Value} {d : DataW H} {p : List MemPlace}
    (hs : Try.prog.underlying t = some (.struct fs)) (hone : Go.Deep.oneCellFields Try.prog fs = true) (hC : Try.prog.cellsOf t = fs.size)
    (hv : Value.okWide Try.prog W r b0 t v) (h : DataW.Trod enc Try.prog W 0 sp held t v d p) :
    ∃ (cs : List Value) (ys : List (DataW H × List MemPlace)) (n : Nat), v = .agg cs.toArray ∧ cs.length = fs.size ∧ p = ys.flatMap (·.2) ∧ ys.length = fs.size ∧
      ∀ (i : Nat) (f : Field), fs[i]? = some f → ∃ c y, cs[i]? = some c ∧ ys[i]? = some y ∧ DataW.trod enc Try.prog W 0 sp held n f.type [c] = some y := by
  obtain ⟨cs, rfl, hsz⟩ := okWide_struct hs hv
  obtain ⟨l⟩ := cs
  have hl : l.length = fs.size := hsz.trans hC
  obtain ⟨fuel, hf⟩ := h
  obtain ⟨xs, n, _, hx, _, hlen, hg⟩ := DataW.trod_struct hs hf
  simp only [Prod.mk.injEq] at hx
  refine ⟨l, xs, n, rfl, hl, hx.2, hlen, fun i f hi => ?_⟩
  have hlt : i < fs.size := (Array.getElem?_eq_some_iff.1 hi).1
  obtain ⟨ho, hk⟩ := Go.Deep.hone_of hone i f hi
  have hgi := hg i f hi
  rw [ho, hk] at hgi
  have e : ((Value.agg l.toArray).cells.toList.drop i).take 1 = [l[i]'(by omega)] := by
    show (l.drop i).take 1 = _
    rw [List.drop_eq_getElem_cons (by omega)]
    rfl
  rw [show (List.take 1 (List.drop i (Value.agg l.toArray).cells.toList)) = [l[i]'(by omega)] from e] at hgi
  exact ⟨_, _, List.getElem?_eq_getElem (by omega), List.getElem?_eq_getElem (by omega), hgi.trans (List.getElem?_eq_getElem (by omega))⟩

end Go.Proofs.Yteikggieekhfkaa

/- boards and commands as numbers: what a board becomes by a command. -/
namespace Go.Proofs.Yteikggieekhfkaa
open Go.RowKit

structure Upl where
  n : Int
  v : Int
  L : Bool
  R : Bool
  T : Bool
  k : Int
/-- a board as a value -/
def uplV (n v : Int) (L R T : Bool) (k : Int) : Value := .agg #[.int .i64 n, .int .i64 v, .bool L, .bool R, .bool T, .int .i64 k]
def Upl.val (b : Upl) : Value := uplV b.n b.v b.L b.R b.T b.k
/-- the fault of a board -/
def brdS (n v k : Int) : Int := if 0 ≤ n ∧ n ≤ 255 then (if v.tmod 2 = 0 then (if 2 ≤ v ∧ v ≤ 254 then (if 0 ≤ k ∧ k ≤ 1000000 then 0 else 1) else 1) else 1) else 1
structure BrdOk (n v k : Int) : Prop where
  n0 : 0 ≤ n
  n1 : n ≤ 255
  v0 : 2 ≤ v
  v1 : v ≤ 254
  ev : v.tmod 2 = 0
  k0 : 0 ≤ k
  k1 : k ≤ 1000000
theorem brd_ok {n v k : Int} (h : brdS n v k = 0) : BrdOk n v k := by
  unfold brdS at h
  repeat' split at h
  all_goals first | (simp at h; done) | skip
  rename_i a b c d
  exact ⟨a.1, a.2, c.1, c.2, b, d.1, d.2⟩
/-- has a kind a number, a body -/
def numK (c : Int) : Bool := decide (c = 1) || decide (c = 4)
def bodK (c : Int) : Bool := decide (c = 1) || decide (c = 2)
/-- the fault of a body -/
def bodS (n : Nat) : Int := if n = 0 then 9 else if 200 < n then 2 else 0
/-- the fault of a command -/
def ordS (c m : Int) (n : Nat) : Int :=
  if 1 ≤ c ∧ c ≤ 5 then (if 0 ≤ m ∧ m ≤ 255 then (if m ≠ 0 ∧ numK c = false then 1 else if bodK c = true then bodS n else if 0 < n then 3 else 0) else 1) else 4
/-- how far a number is after another one -/
def aft (n m : Int) : Int := (n - m + 256) % 256
/-- a board behind a plain command -/
def plainS (b : Upl) (m : Int) : Upl × Int :=
  if b.L = true then (b, 5)
  else if m = b.n then (if b.T = true then (⟨b.n, b.v, b.L, true, b.T, b.k⟩, 6) else (⟨(b.n + 1) % 256, b.v, b.L, false, b.T, b.k + 1⟩, 1))
  else if aft m b.n < b.v / 2 then (⟨b.n, b.v, b.L, true, b.T, b.k⟩, 2)
  else if aft b.n m ≤ b.v / 2 then (b, 3)
  else (⟨b.n, b.v, true, b.R, b.T, b.k⟩, 4)
/-- a board behind a right command -/
def tookS (b : Upl) (c m : Int) : Upl × Int :=
  if c = 1 then plainS b m
  else if c = 2 then (⟨b.n, b.v, b.L, b.R, b.T, b.k + 1⟩, 1)
  else if c = 3 then (⟨b.n, b.v, false, false, false, b.k⟩, 7)
  else if c = 4 then (if b.L = true then (b, 5) else (⟨m, b.v, b.L, false, b.T, b.k⟩, 7))
  else if c = 5 then (⟨b.n, b.v, b.L, b.R, true, b.k⟩, 7)
  else (b, 7)
def zeroU : Upl := ⟨0, 0, false, false, false, 0⟩
/-- what Take answers: the board, what became, the fault -/
def takeS (b : Upl) (c m : Int) (n : Nat) : Upl × Int × Int :=
  if brdS b.n b.v b.k ≠ 0 then (zeroU, 0, brdS b.n b.v b.k)
  else if ordS c m n ≠ 0 then (zeroU, 0, ordS c m n)
  else if 1000000 < (tookS b c m).1.k then (zeroU, 0, 16)
  else ((tookS b c m).1, (tookS b c m).2, 0)
end Go.Proofs.Yteikggieekhfkaa

/- the walks of both CheckBoard, and of the checks of a command. -/
namespace Go.Proofs.Yteikggieekhfkaa
open Go.RowKit

set_option maxRecDepth 100000 in
set_option maxHeartbeats 400000 in
theorem p_within_any (n a b : Int) (w : World) :
    Calls Try.prog 55 #[.int .i64 n, .int .i64 a, .int .i64 b] w fun e w' => e = .returned (.bool (decide (a ≤ n ∧ n ≤ b))) ∧ w = w' := by
  by_cases h1 : a ≤ n
  · by_cases h2 : n ≤ b
    · have hd := Lib.hid (show decide (a ≤ n ∧ n ≤ b) = true by simp [h1, h2])
      go_enter Try.func55, Try.ntmps55
      go_wp2
      go_ret
      exact ⟨ret_bool (by have := hd.out; simp_all), rfl⟩
    · have hd := Lib.hid (show decide (a ≤ n ∧ n ≤ b) = false by simp [h2])
      go_enter Try.func55, Try.ntmps55
      go_wp2
      go_ret
      exact ⟨ret_bool (by have := hd.out; simp_all), rfl⟩
  · have hd := Lib.hid (show decide (a ≤ n ∧ n ≤ b) = false by simp [h1])
    go_enter Try.func55, Try.ntmps55
    go_wp2
    go_ret
    exact ⟨ret_bool (by have := hd.out; simp_all), rfl⟩
set_option maxRecDepth 100000 in
set_option maxHeartbeats 400000 in
theorem p_after_any (n m : Int) (w : World) (h1 : 0 ≤ n) (h2 : n ≤ 255) (h3 : 0 ≤ m) (h4 : m ≤ 255) :
    Calls Try.prog 103 #[.int .i64 n, .int .i64 m] w fun e w' => e = .returned (.int .i64 (aft n m)) ∧ w = w' := by
  go_enter Try.func103, Try.ntmps103
  go_wp2
  go_ret
  exact ⟨rfl, rfl⟩
set_option maxRecDepth 100000 in
set_option maxHeartbeats 400000 in
theorem r_within_any (n a b : Int) (w : World) :
    Calls Try.prog 56 #[.int .i64 n, .int .i64 a, .int .i64 b] w fun e w' => e = .returned (.bool (decide (a ≤ n ∧ n ≤ b))) ∧ w = w' := by
  by_cases h1 : a ≤ n
  · by_cases h2 : n ≤ b
    · have hd := Lib.hid (show decide (a ≤ n ∧ n ≤ b) = true by simp [h1, h2])
      go_enter Try.func56, Try.ntmps56
      go_wp2
      go_ret
      exact ⟨ret_bool (by have := hd.out; simp_all), rfl⟩
    · have hd := Lib.hid (show decide (a ≤ n ∧ n ≤ b) = false by simp [h2])
      go_enter Try.func56, Try.ntmps56
      go_wp2
      go_ret
      exact ⟨ret_bool (by have := hd.out; simp_all), rfl⟩
  · have hd := Lib.hid (show decide (a ≤ n ∧ n ≤ b) = false by simp [h1])
    go_enter Try.func56, Try.ntmps56
    go_wp2
    go_ret
    exact ⟨ret_bool (by have := hd.out; simp_all), rfl⟩
set_option maxRecDepth 100000 in
set_option maxHeartbeats 400000 in
theorem r_after_any (n m : Int) (w : World) (h1 : 0 ≤ n) (h2 : n ≤ 255) (h3 : 0 ≤ m) (h4 : m ≤ 255) :
    Calls Try.prog 92 #[.int .i64 n, .int .i64 m] w fun e w' => e = .returned (.int .i64 (aft n m)) ∧ w = w' := by
  go_enter Try.func92, Try.ntmps92
  go_wp2
  go_ret
  exact ⟨rfl, rfl⟩
set_option maxRecDepth 100000 in
set_option maxHeartbeats 400000 in
theorem p_isNumber_any (n : Int) (w : World) :
    Calls Try.prog 54 #[.int .i64 n] w fun e w' => e = .returned (.bool (decide (0 ≤ n ∧ n ≤ 255))) ∧ w = w' := by
  have HC := Lib.hid (p_within_any n 0 255)
  obtain ⟨d, hd⟩ : ∃ d, decide (0 ≤ n ∧ n ≤ 255) = d := ⟨_, rfl⟩
  rw [hd] at HC ⊢
  clear hd
  go_enter Try.func54, Try.ntmps54
  go_wp2_with (first | (go_at_call 55; refine (HC.out _).mono ?_; rintro e w' ⟨rfl, rfl⟩) | fail)
  go_ret
  exact ⟨rfl, rfl⟩
set_option maxRecDepth 100000 in
set_option maxHeartbeats 400000 in
theorem p_further_any (n m : Int) (w : World) (h1 : 0 ≤ n) (h2 : n ≤ 255) (h3 : 0 ≤ m) (h4 : m ≤ 255) :
    Calls Try.prog 102 #[.int .i64 n, .int .i64 m] w fun e w' => e = .returned (.int .i64 ((n + m) % 256)) ∧ w = w' := by
  go_enter Try.func102, Try.ntmps102
  go_wp2
  go_ret
  exact ⟨rfl, rfl⟩
set_option maxRecDepth 100000 in
set_option maxHeartbeats 1000000 in
theorem p_checkBoard_any (n v : Int) (L R T : Bool) (k : Int) (w : World) :
    Calls Try.prog 17 #[uplV n v L R T k] w fun e w' => e = .returned (.int .i64 (brdS n v k)) ∧ Below w.heap.size w w' := by
  have HE := Lib.hid (show brdS n v k = if 0 ≤ n ∧ n ≤ 255 then (if v.tmod 2 = 0 then (if 2 ≤ v ∧ v ≤ 254 then (if 0 ≤ k ∧ k ≤ 1000000 then 0 else 1) else 1) else 1) else 1 from rfl)
  generalize brdS n v k = X at *
  unfold uplV
  by_cases h1 : 0 ≤ n ∧ n ≤ 255
  · have d1 : decide (0 ≤ n ∧ n ≤ 255) = true := decide_eq_true h1
    by_cases h2 : v.tmod 2 = 0
    · have d2 : (v.tmod 2 != 0) = false := by simpa using h2
      by_cases h3 : 2 ≤ v ∧ v ≤ 254
      · have d3 : decide (2 ≤ v ∧ v ≤ 254) = true := decide_eq_true h3
        by_cases h4 : 0 ≤ k ∧ k ≤ 1000000
        · have d4 : decide (0 ≤ k ∧ k ≤ 1000000) = true := decide_eq_true h4
          have HR : Hid (X = 0) := Lib.hid (by rw [HE.out, if_pos h1, if_pos h2, if_pos h3, if_pos h4])
          clear HE h1 h2 h3 h4
          go_enter Try.func17, Try.ntmps17
          go_wp2_with (first | (go_at_call 55; refine (p_within_any _ _ _ _).mono ?_; rintro e w' ⟨rfl, rfl⟩) | (go_at_call 54; refine (p_isNumber_any _ _).mono ?_; rintro e w' ⟨rfl, rfl⟩) | fail)
          go_ret
          exact ⟨ret_int HR.out.symm, (Below.refl _ _).alloc (Nat.le_refl _) _⟩
        · have d4 : decide (0 ≤ k ∧ k ≤ 1000000) = false := decide_eq_false h4
          have HR : Hid (X = 1) := Lib.hid (by rw [HE.out, if_pos h1, if_pos h2, if_pos h3, if_neg h4])
          clear HE h1 h2 h3 h4
          go_enter Try.func17, Try.ntmps17
          go_wp2_with (first | (go_at_call 55; refine (p_within_any _ _ _ _).mono ?_; rintro e w' ⟨rfl, rfl⟩) | (go_at_call 54; refine (p_isNumber_any _ _).mono ?_; rintro e w' ⟨rfl, rfl⟩) | fail)
          go_ret
          exact ⟨ret_int HR.out.symm, (Below.refl _ _).alloc (Nat.le_refl _) _⟩
      · have d3 : decide (2 ≤ v ∧ v ≤ 254) = false := decide_eq_false h3
        have HR : Hid (X = 1) := Lib.hid (by rw [HE.out, if_pos h1, if_pos h2, if_neg h3])
        clear HE h1 h2 h3
        go_enter Try.func17, Try.ntmps17
        go_wp2_with (first | (go_at_call 55; refine (p_within_any _ _ _ _).mono ?_; rintro e w' ⟨rfl, rfl⟩) | (go_at_call 54; refine (p_isNumber_any _ _).mono ?_; rintro e w' ⟨rfl, rfl⟩) | fail)
        go_ret
        exact ⟨ret_int HR.out.symm, (Below.refl _ _).alloc (Nat.le_refl _) _⟩
    · have d2 : (v.tmod 2 != 0) = true := by simpa using h2
      have HR : Hid (X = 1) := Lib.hid (by rw [HE.out, if_pos h1, if_neg h2])
      clear HE h1 h2
      go_enter Try.func17, Try.ntmps17
      go_wp2_with (first | (go_at_call 55; refine (p_within_any _ _ _ _).mono ?_; rintro e w' ⟨rfl, rfl⟩) | (go_at_call 54; refine (p_isNumber_any _ _).mono ?_; rintro e w' ⟨rfl, rfl⟩) | fail)
      go_ret
      exact ⟨ret_int HR.out.symm, (Below.refl _ _).alloc (Nat.le_refl _) _⟩
  · have d1 : decide (0 ≤ n ∧ n ≤ 255) = false := decide_eq_false h1
    have HR : Hid (X = 1) := Lib.hid (by rw [HE.out, if_neg h1])
    clear HE h1
    go_enter Try.func17, Try.ntmps17
    go_wp2_with (first | (go_at_call 55; refine (p_within_any _ _ _ _).mono ?_; rintro e w' ⟨rfl, rfl⟩) | (go_at_call 54; refine (p_isNumber_any _ _).mono ?_; rintro e w' ⟨rfl, rfl⟩) | fail)
    go_ret
    exact ⟨ret_int HR.out.symm, (Below.refl _ _).alloc (Nat.le_refl _) _⟩
set_option maxRecDepth 100000 in
set_option maxHeartbeats 400000 in
theorem p_hasNumber_any (c : Int) (w : World) :
    Calls Try.prog 84 #[.int .i64 c] w fun e w' => e = .returned (.bool (numK c)) ∧ w = w' := by
  have HE := Lib.hid (show numK c = (decide (c = 1) || decide (c = 4)) from rfl)
  generalize numK c = X at *
  by_cases h1 : c = 1
  · have HR : Hid (X = true) := Lib.hid (by rw [HE.out]; simp [h1])
    have d1 : (c == 1) = true := by simpa using h1
    clear HE h1
    go_enter Try.func84, Try.ntmps84
    go_wp2
    go_ret
    exact ⟨ret_bool (by rw [HR.out]), rfl⟩
  · have d1 : (c == 1) = false := by simpa using h1
    by_cases h2 : c = 4
    · have HR : Hid (X = true) := Lib.hid (by rw [HE.out]; simp [h2])
      have d2 : (c == 4) = true := by simpa using h2
      clear HE h1 h2
      go_enter Try.func84, Try.ntmps84
      go_wp2
      go_ret
      exact ⟨ret_bool (by rw [HR.out]), rfl⟩
    · have HR : Hid (X = false) := Lib.hid (by rw [HE.out]; simp [h1, h2])
      have d2 : (c == 4) = false := by simpa using h2
      clear HE h1 h2
      go_enter Try.func84, Try.ntmps84
      go_wp2
      go_ret
      exact ⟨ret_bool (by rw [HR.out]), rfl⟩
set_option maxRecDepth 100000 in
set_option maxHeartbeats 400000 in
theorem p_hasBody_any (c : Int) (w : World) :
    Calls Try.prog 85 #[.int .i64 c] w fun e w' => e = .returned (.bool (bodK c)) ∧ w = w' := by
  have HE := Lib.hid (show bodK c = (decide (c = 1) || decide (c = 2)) from rfl)
  generalize bodK c = X at *
  by_cases h1 : c = 1
  · have HR : Hid (X = true) := Lib.hid (by rw [HE.out]; simp [h1])
    have d1 : (c == 1) = true := by simpa using h1
    clear HE h1
    go_enter Try.func85, Try.ntmps85
    go_wp2
    go_ret
    exact ⟨ret_bool (by rw [HR.out]), rfl⟩
  · have d1 : (c == 1) = false := by simpa using h1
    by_cases h2 : c = 2
    · have HR : Hid (X = true) := Lib.hid (by rw [HE.out]; simp [h2])
      have d2 : (c == 2) = true := by simpa using h2
      clear HE h1 h2
      go_enter Try.func85, Try.ntmps85
      go_wp2
      go_ret
      exact ⟨ret_bool (by rw [HR.out]), rfl⟩
    · have HR : Hid (X = false) := Lib.hid (by rw [HE.out]; simp [h1, h2])
      have d2 : (c == 2) = false := by simpa using h2
      clear HE h1 h2
      go_enter Try.func85, Try.ntmps85
      go_wp2
      go_ret
      exact ⟨ret_bool (by rw [HR.out]), rfl⟩
set_option maxRecDepth 100000 in
set_option maxHeartbeats 400000 in
theorem p_checkBody_any (A : Option Addr) (n c : Nat) (w : World) :
    Calls Try.prog 69 #[.slice A n c] w fun e w' => e = .returned (.int .i64 (bodS n)) ∧ w = w' := by
  have HE := Lib.hid (show bodS n = if n = 0 then 9 else if 200 < n then 2 else 0 from rfl)
  generalize bodS n = X at *
  by_cases h1 : n = 0
  · have HR : Hid (X = 9) := Lib.hid (by rw [HE.out, if_pos h1])
    have d1 : ((n : Int) == 0) = true := beq_iff_eq.2 (by omega)
    clear HE h1
    go_enter Try.func69, Try.ntmps69
    go_wp2
    go_ret
    exact ⟨ret_int HR.out.symm, rfl⟩
  · have d1 : ((n : Int) == 0) = false := beq_eq_false_iff_ne.2 (by omega)
    by_cases h2 : 200 < n
    · have HR : Hid (X = 2) := Lib.hid (by rw [HE.out, if_neg h1, if_pos h2])
      clear HE h1
      go_enter Try.func69, Try.ntmps69
      go_wp2
      go_ret
      exact ⟨ret_int HR.out.symm, rfl⟩
    · have HR : Hid (X = 0) := Lib.hid (by rw [HE.out, if_neg h1, if_neg h2])
      clear HE h1
      go_enter Try.func69, Try.ntmps69
      go_wp2
      go_ret
      exact ⟨ret_int HR.out.symm, rfl⟩

set_option maxRecDepth 100000 in
set_option maxHeartbeats 1000000 in
theorem r_checkBoard_any (n v : Int) (L R T : Bool) (k : Int) (w : World) :
    Calls Try.prog 18 #[uplV n v L R T k] w fun e w' => e = .returned (.int .i64 (brdS n v k)) ∧ Below w.heap.size w w' := by
  have HE := Lib.hid (show brdS n v k = if 0 ≤ n ∧ n ≤ 255 then (if v.tmod 2 = 0 then (if 2 ≤ v ∧ v ≤ 254 then (if 0 ≤ k ∧ k ≤ 1000000 then 0 else 1) else 1) else 1) else 1 from rfl)
  generalize brdS n v k = X at *
  unfold uplV
  by_cases h1 : 0 ≤ n ∧ n ≤ 255
  · have d1 : decide (0 ≤ n ∧ n ≤ 255) = true := decide_eq_true h1
    by_cases h2 : v.tmod 2 = 0
    · have d2 : (v.tmod 2 != 0) = false := by simpa using h2
      by_cases h3 : 2 ≤ v ∧ v ≤ 254
      · have d3 : decide (2 ≤ v ∧ v ≤ 254) = true := decide_eq_true h3
        by_cases h4 : 0 ≤ k ∧ k ≤ 1000000
        · have d4 : decide (0 ≤ k ∧ k ≤ 1000000) = true := decide_eq_true h4
          have HR : Hid (X = 0) := Lib.hid (by rw [HE.out, if_pos h1, if_pos h2, if_pos h3, if_pos h4])
          clear HE h1 h2 h3 h4
          go_enter Try.func18, Try.ntmps18
          go_wp2_with (first | (go_at_call 56; refine (r_within_any _ _ _ _).mono ?_; rintro e w' ⟨rfl, rfl⟩) | fail)
          go_ret
          exact ⟨ret_int HR.out.symm, (Below.refl _ _).alloc (Nat.le_refl _) _⟩
        · have d4 : decide (0 ≤ k ∧ k ≤ 1000000) = false := decide_eq_false h4
          have HR : Hid (X = 1) := Lib.hid (by rw [HE.out, if_pos h1, if_pos h2, if_pos h3, if_neg h4])
          clear HE h1 h2 h3 h4
          go_enter Try.func18, Try.ntmps18
          go_wp2_with (first | (go_at_call 56; refine (r_within_any _ _ _ _).mono ?_; rintro e w' ⟨rfl, rfl⟩) | fail)
          go_ret
          exact ⟨ret_int HR.out.symm, (Below.refl _ _).alloc (Nat.le_refl _) _⟩
      · have d3 : decide (2 ≤ v ∧ v ≤ 254) = false := decide_eq_false h3
        have HR : Hid (X = 1) := Lib.hid (by rw [HE.out, if_pos h1, if_pos h2, if_neg h3])
        clear HE h1 h2 h3
        go_enter Try.func18, Try.ntmps18
        go_wp2_with (first | (go_at_call 56; refine (r_within_any _ _ _ _).mono ?_; rintro e w' ⟨rfl, rfl⟩) | fail)
        go_ret
        exact ⟨ret_int HR.out.symm, (Below.refl _ _).alloc (Nat.le_refl _) _⟩
    · have d2 : (v.tmod 2 != 0) = true := by simpa using h2
      have HR : Hid (X = 1) := Lib.hid (by rw [HE.out, if_pos h1, if_neg h2])
      clear HE h1 h2
      go_enter Try.func18, Try.ntmps18
      go_wp2_with (first | (go_at_call 56; refine (r_within_any _ _ _ _).mono ?_; rintro e w' ⟨rfl, rfl⟩) | fail)
      go_ret
      exact ⟨ret_int HR.out.symm, (Below.refl _ _).alloc (Nat.le_refl _) _⟩
  · have d1 : decide (0 ≤ n ∧ n ≤ 255) = false := decide_eq_false h1
    have HR : Hid (X = 1) := Lib.hid (by rw [HE.out, if_neg h1])
    clear HE h1
    go_enter Try.func18, Try.ntmps18
    go_wp2_with (first | (go_at_call 56; refine (r_within_any _ _ _ _).mono ?_; rintro e w' ⟨rfl, rfl⟩) | fail)
    go_ret
    exact ⟨ret_int HR.out.symm, (Below.refl _ _).alloc (Nat.le_refl _) _⟩
set_option maxRecDepth 100000 in
set_option maxHeartbeats 400000 in
theorem r_hasNumber_any (c : Int) (w : World) :
    Calls Try.prog 87 #[.int .i64 c] w fun e w' => e = .returned (.bool (numK c)) ∧ w = w' := by
  have HE := Lib.hid (show numK c = (decide (c = 1) || decide (c = 4)) from rfl)
  generalize numK c = X at *
  by_cases h1 : c = 1
  · have HR : Hid (X = true) := Lib.hid (by rw [HE.out]; simp [h1])
    have d1 : (c == 1) = true := by simpa using h1
    clear HE h1
    go_enter Try.func87, Try.ntmps87
    go_wp2
    go_ret
    exact ⟨ret_bool (by rw [HR.out]), rfl⟩
  · have d1 : (c == 1) = false := by simpa using h1
    by_cases h2 : c = 4
    · have HR : Hid (X = true) := Lib.hid (by rw [HE.out]; simp [h2])
      have d2 : (c == 4) = true := by simpa using h2
      clear HE h1 h2
      go_enter Try.func87, Try.ntmps87
      go_wp2
      go_ret
      exact ⟨ret_bool (by rw [HR.out]), rfl⟩
    · have HR : Hid (X = false) := Lib.hid (by rw [HE.out]; simp [h1, h2])
      have d2 : (c == 4) = false := by simpa using h2
      clear HE h1 h2
      go_enter Try.func87, Try.ntmps87
      go_wp2
      go_ret
      exact ⟨ret_bool (by rw [HR.out]), rfl⟩
set_option maxRecDepth 100000 in
set_option maxHeartbeats 400000 in
theorem r_hasBody_any (c : Int) (w : World) :
    Calls Try.prog 88 #[.int .i64 c] w fun e w' => e = .returned (.bool (bodK c)) ∧ w = w' := by
  have HE := Lib.hid (show bodK c = (decide (c = 1) || decide (c = 2)) from rfl)
  generalize bodK c = X at *
  by_cases h1 : c = 1
  · have HR : Hid (X = true) := Lib.hid (by rw [HE.out]; simp [h1])
    have d1 : (c == 1) = true := by simpa using h1
    clear HE h1
    go_enter Try.func88, Try.ntmps88
    go_wp2
    go_ret
    exact ⟨ret_bool (by rw [HR.out]), rfl⟩
  · have d1 : (c == 1) = false := by simpa using h1
    by_cases h2 : c = 2
    · have HR : Hid (X = true) := Lib.hid (by rw [HE.out]; simp [h2])
      have d2 : (c == 2) = true := by simpa using h2
      clear HE h1 h2
      go_enter Try.func88, Try.ntmps88
      go_wp2
      go_ret
      exact ⟨ret_bool (by rw [HR.out]), rfl⟩
    · have HR : Hid (X = false) := Lib.hid (by rw [HE.out]; simp [h1, h2])
      have d2 : (c == 2) = false := by simpa using h2
      clear HE h1 h2
      go_enter Try.func88, Try.ntmps88
      go_wp2
      go_ret
      exact ⟨ret_bool (by rw [HR.out]), rfl⟩
set_option maxRecDepth 100000 in
set_option maxHeartbeats 400000 in
theorem r_checkBody_any (A : Option Addr) (n c : Nat) (w : World) :
    Calls Try.prog 72 #[.slice A n c] w fun e w' => e = .returned (.int .i64 (bodS n)) ∧ w = w' := by
  have HE := Lib.hid (show bodS n = if n = 0 then 9 else if 200 < n then 2 else 0 from rfl)
  generalize bodS n = X at *
  by_cases h1 : n = 0
  · have HR : Hid (X = 9) := Lib.hid (by rw [HE.out, if_pos h1])
    have d1 : ((n : Int) == 0) = true := beq_iff_eq.2 (by omega)
    clear HE h1
    go_enter Try.func72, Try.ntmps72
    go_wp2
    go_ret
    exact ⟨ret_int HR.out.symm, rfl⟩
  · have d1 : ((n : Int) == 0) = false := beq_eq_false_iff_ne.2 (by omega)
    by_cases h2 : 200 < n
    · have HR : Hid (X = 2) := Lib.hid (by rw [HE.out, if_neg h1, if_pos h2])
      clear HE h1
      go_enter Try.func72, Try.ntmps72
      go_wp2
      go_ret
      exact ⟨ret_int HR.out.symm, rfl⟩
    · have HR : Hid (X = 0) := Lib.hid (by rw [HE.out, if_neg h1, if_neg h2])
      clear HE h1
      go_enter Try.func72, Try.ntmps72
      go_wp2
      go_ret
      exact ⟨ret_int HR.out.symm, rfl⟩

/-- a command as a value -/
def ordV (c m : Int) (A : Option Addr) (n k : Nat) : Value := .agg #[.int .i64 c, .int .i64 m, .slice A n k]
set_option maxRecDepth 100000 in
set_option maxHeartbeats 1000000 in
theorem p_checkOrder_any (c m : Int) (A : Option Addr) (n k : Nat) (w : World) :
    Calls Try.prog 50 #[ordV c m A n k] w fun e w' => e = .returned (.int .i64 (ordS c m n)) ∧ Below w.heap.size w w' := by
  have HE := Lib.hid (show ordS c m n = if 1 ≤ c ∧ c ≤ 5 then (if 0 ≤ m ∧ m ≤ 255 then (if m ≠ 0 ∧ numK c = false then 1 else if bodK c = true then bodS n else if 0 < n then 3 else 0) else 1) else 4 from rfl)
  have HB := Lib.hid (p_checkBody_any A n k)
  have HH := Lib.hid (p_hasBody_any c)
  have HN := Lib.hid (p_hasNumber_any c)
  generalize ordS c m n = X at *
  generalize bodS n = Y at *
  generalize bodK c = D at *
  generalize numK c = E at *
  unfold ordV
  by_cases h1 : 1 ≤ c ∧ c ≤ 5
  · have d1 : decide (1 ≤ c ∧ c ≤ 5) = true := decide_eq_true h1
    by_cases h2 : 0 ≤ m ∧ m ≤ 255
    · have d2 : decide (0 ≤ m ∧ m ≤ 255) = true := decide_eq_true h2
      have HE2 : Hid (X = if m ≠ 0 ∧ E = false then 1 else if D = true then Y else if 0 < n then 3 else 0) := Lib.hid (by rw [HE.out, if_pos h1, if_pos h2])
      clear HE h1 h2
      by_cases h3 : m = 0
      · have HR : Hid (X = if D = true then Y else if 0 < n then 3 else 0) := Lib.hid (by rw [HE2.out, if_neg (by simp [h3])])
        have d3 : (m != 0) = false := by simpa using h3
        clear HE2 h3
        by_cases h5 : 0 < n <;> cases D <;>
        ( go_enter Try.func50, Try.ntmps50
          go_wp2_with (first | (go_at_call 55; refine (p_within_any _ _ _ _).mono ?_; rintro e w' ⟨rfl, rfl⟩) | (go_at_call 54; refine (p_isNumber_any _ _).mono ?_; rintro e w' ⟨rfl, rfl⟩) | (go_at_call 84; refine (HN.out _).mono ?_; rintro e w' ⟨rfl, rfl⟩) | (go_at_call 85; refine (HH.out _).mono ?_; rintro e w' ⟨rfl, rfl⟩) | (go_at_call 69; refine (HB.out _).mono ?_; rintro e w' ⟨rfl, rfl⟩) | fail)
          go_ret
          exact ⟨ret_int (by rw [HR.out]; simp [h5]), (Below.refl _ _).alloc (Nat.le_refl _) _⟩)
      · have d3 : (m != 0) = true := by simpa using h3
        cases E
        · have HR : Hid (X = 1) := Lib.hid (by rw [HE2.out, if_pos ⟨h3, rfl⟩])
          clear HE2 h3
          go_enter Try.func50, Try.ntmps50
          go_wp2_with (first | (go_at_call 55; refine (p_within_any _ _ _ _).mono ?_; rintro e w' ⟨rfl, rfl⟩) | (go_at_call 54; refine (p_isNumber_any _ _).mono ?_; rintro e w' ⟨rfl, rfl⟩) | (go_at_call 84; refine (HN.out _).mono ?_; rintro e w' ⟨rfl, rfl⟩) | fail)
          go_ret
          exact ⟨ret_int HR.out.symm, (Below.refl _ _).alloc (Nat.le_refl _) _⟩
        · have HR : Hid (X = if D = true then Y else if 0 < n then 3 else 0) := Lib.hid (by rw [HE2.out, if_neg (by simp)])
          clear HE2 h3
          by_cases h5 : 0 < n <;> cases D <;>
          ( go_enter Try.func50, Try.ntmps50
            go_wp2_with (first | (go_at_call 55; refine (p_within_any _ _ _ _).mono ?_; rintro e w' ⟨rfl, rfl⟩) | (go_at_call 54; refine (p_isNumber_any _ _).mono ?_; rintro e w' ⟨rfl, rfl⟩) | (go_at_call 84; refine (HN.out _).mono ?_; rintro e w' ⟨rfl, rfl⟩) | (go_at_call 85; refine (HH.out _).mono ?_; rintro e w' ⟨rfl, rfl⟩) | (go_at_call 69; refine (HB.out _).mono ?_; rintro e w' ⟨rfl, rfl⟩) | fail)
            go_ret
            exact ⟨ret_int (by rw [HR.out]; simp [h5]), (Below.refl _ _).alloc (Nat.le_refl _) _⟩)
    · have d2 : decide (0 ≤ m ∧ m ≤ 255) = false := decide_eq_false h2
      have HR : Hid (X = 1) := Lib.hid (by rw [HE.out, if_pos h1, if_neg h2])
      clear HE h1 h2
      go_enter Try.func50, Try.ntmps50
      go_wp2_with (first | (go_at_call 55; refine (p_within_any _ _ _ _).mono ?_; rintro e w' ⟨rfl, rfl⟩) | (go_at_call 54; refine (p_isNumber_any _ _).mono ?_; rintro e w' ⟨rfl, rfl⟩) | fail)
      go_ret
      exact ⟨ret_int HR.out.symm, (Below.refl _ _).alloc (Nat.le_refl _) _⟩
  · have d1 : decide (1 ≤ c ∧ c ≤ 5) = false := decide_eq_false h1
    have HR : Hid (X = 4) := Lib.hid (by rw [HE.out, if_neg h1])
    clear HE h1
    go_enter Try.func50, Try.ntmps50
    go_wp2_with (first | (go_at_call 55; refine (p_within_any _ _ _ _).mono ?_; rintro e w' ⟨rfl, rfl⟩) | fail)
    go_ret
    exact ⟨ret_int HR.out.symm, (Below.refl _ _).alloc (Nat.le_refl _) _⟩
set_option maxRecDepth 100000 in
set_option maxHeartbeats 1000000 in
theorem r_checkOrder_any (c m : Int) (A : Option Addr) (n k : Nat) (w : World) :
    Calls Try.prog 52 #[ordV c m A n k] w fun e w' => e = .returned (.int .i64 (ordS c m n)) ∧ Below w.heap.size w w' := by
  have HE := Lib.hid (show ordS c m n = if 1 ≤ c ∧ c ≤ 5 then (if 0 ≤ m ∧ m ≤ 255 then (if m ≠ 0 ∧ numK c = false then 1 else if bodK c = true then bodS n else if 0 < n then 3 else 0) else 1) else 4 from rfl)
  have HB := Lib.hid (r_checkBody_any A n k)
  have HH := Lib.hid (r_hasBody_any c)
  have HN := Lib.hid (r_hasNumber_any c)
  generalize ordS c m n = X at *
  generalize bodS n = Y at *
  generalize bodK c = D at *
  generalize numK c = E at *
  unfold ordV
  by_cases h1 : 1 ≤ c ∧ c ≤ 5
  · have d1 : decide (1 ≤ c ∧ c ≤ 5) = true := decide_eq_true h1
    by_cases h2 : 0 ≤ m ∧ m ≤ 255
    · have d2 : decide (0 ≤ m ∧ m ≤ 255) = true := decide_eq_true h2
      have HE2 : Hid (X = if m ≠ 0 ∧ E = false then 1 else if D = true then Y else if 0 < n then 3 else 0) := Lib.hid (by rw [HE.out, if_pos h1, if_pos h2])
      clear HE h1 h2
      by_cases h3 : m = 0
      · have HR : Hid (X = if D = true then Y else if 0 < n then 3 else 0) := Lib.hid (by rw [HE2.out, if_neg (by simp [h3])])
        have d3 : (m != 0) = false := by simpa using h3
        clear HE2 h3
        by_cases h5 : 0 < n <;> cases D <;>
        ( go_enter Try.func52, Try.ntmps52
          go_wp2_with (first | (go_at_call 56; refine (r_within_any _ _ _ _).mono ?_; rintro e w' ⟨rfl, rfl⟩) | (go_at_call 87; refine (HN.out _).mono ?_; rintro e w' ⟨rfl, rfl⟩) | (go_at_call 88; refine (HH.out _).mono ?_; rintro e w' ⟨rfl, rfl⟩) | (go_at_call 72; refine (HB.out _).mono ?_; rintro e w' ⟨rfl, rfl⟩) | fail)
          go_ret
          exact ⟨ret_int (by rw [HR.out]; simp [h5]), (Below.refl _ _).alloc (Nat.le_refl _) _⟩)
      · have d3 : (m != 0) = true := by simpa using h3
        cases E
        · have HR : Hid (X = 1) := Lib.hid (by rw [HE2.out, if_pos ⟨h3, rfl⟩])
          clear HE2 h3
          go_enter Try.func52, Try.ntmps52
          go_wp2_with (first | (go_at_call 56; refine (r_within_any _ _ _ _).mono ?_; rintro e w' ⟨rfl, rfl⟩) | (go_at_call 87; refine (HN.out _).mono ?_; rintro e w' ⟨rfl, rfl⟩) | fail)
          go_ret
          exact ⟨ret_int HR.out.symm, (Below.refl _ _).alloc (Nat.le_refl _) _⟩
        · have HR : Hid (X = if D = true then Y else if 0 < n then 3 else 0) := Lib.hid (by rw [HE2.out, if_neg (by simp)])
          clear HE2 h3
          by_cases h5 : 0 < n <;> cases D <;>
          ( go_enter Try.func52, Try.ntmps52
            go_wp2_with (first | (go_at_call 56; refine (r_within_any _ _ _ _).mono ?_; rintro e w' ⟨rfl, rfl⟩) | (go_at_call 87; refine (HN.out _).mono ?_; rintro e w' ⟨rfl, rfl⟩) | (go_at_call 88; refine (HH.out _).mono ?_; rintro e w' ⟨rfl, rfl⟩) | (go_at_call 72; refine (HB.out _).mono ?_; rintro e w' ⟨rfl, rfl⟩) | fail)
            go_ret
            exact ⟨ret_int (by rw [HR.out]; simp [h5]), (Below.refl _ _).alloc (Nat.le_refl _) _⟩)
    · have d2 : decide (0 ≤ m ∧ m ≤ 255) = false := decide_eq_false h2
      have HR : Hid (X = 1) := Lib.hid (by rw [HE.out, if_pos h1, if_neg h2])
      clear HE h1 h2
      go_enter Try.func52, Try.ntmps52
      go_wp2_with (first | (go_at_call 56; refine (r_within_any _ _ _ _).mono ?_; rintro e w' ⟨rfl, rfl⟩) | fail)
      go_ret
      exact ⟨ret_int HR.out.symm, (Below.refl _ _).alloc (Nat.le_refl _) _⟩
  · have d1 : decide (1 ≤ c ∧ c ≤ 5) = false := decide_eq_false h1
    have HR : Hid (X = 4) := Lib.hid (by rw [HE.out, if_neg h1])
    clear HE h1
    go_enter Try.func52, Try.ntmps52
    go_wp2_with (first | (go_at_call 56; refine (r_within_any _ _ _ _).mono ?_; rintro e w' ⟨rfl, rfl⟩) | fail)
    go_ret
    exact ⟨ret_int HR.out.symm, (Below.refl _ _).alloc (Nat.le_refl _) _⟩
end Go.Proofs.Yteikggieekhfkaa
