/- beats and bodies that came in; five arguments taken apart. -/
import Derived.Test.YteikggieekhfkaaOpenRow
import Derived.Test.YteikggieekhfkaaBeatAny
namespace Go.Proofs.Yteikggieekhfkaa
open Go.ChangeShapes Go.WideShapes Go.ChangeAt Go.RowKit

theorem cells4 : Try.prog.cellsOf 4 = 1 := by kernel_rfl
theorem cellsBeat : Try.prog.cellsOf 50 = 5 := by kernel_rfl
theorem cellsBytes : Try.prog.cellsOf 24 = 1 := by kernel_rfl
instance : Inhabited Bt := ⟨⟨false, false, false, false, 0⟩⟩
instance : Inhabited Bd := ⟨⟨none, 0, 0⟩⟩
set_option maxRecDepth 100000 in
theorem bt_of {H : Type} {enc : TypeId × Value → H} {W : World} {sp : Nat → Bool} {held : Bool} {n : Nat} {cs : List Value} {x : DataW H × List MemPlace}
    (h : DataW.trod enc Try.prog W 0 sp held n 50 cs = some x) : ∃ m : Bt, cs = m.cells ∧ In64 m.room := by
  obtain ⟨xs, k, _, rfl, hl, hlen, hf⟩ := DataW.trod_struct Try.underlying50 h
  rw [cellsBeat] at hl
  obtain ⟨a, b, c, d, e, rfl⟩ : ∃ a b c d e, cs = [a, b, c, d, e] := by
    match cs, hl with
    | [a, b, c, d, e], _ => exact ⟨a, b, c, d, e, rfl⟩
  match xs, hlen with
  | [y0, y1, y2, y3, y4], _ =>
    have h0 : DataW.trod enc Try.prog W 0 sp held k 4 [a] = some y0 := by simpa [cells4] using hf 0 _ rfl
    have h1 : DataW.trod enc Try.prog W 0 sp held k 4 [b] = some y1 := by simpa [cells4] using hf 1 _ rfl
    have h2 : DataW.trod enc Try.prog W 0 sp held k 4 [c] = some y2 := by simpa [cells4] using hf 2 _ rfl
    have h3 : DataW.trod enc Try.prog W 0 sp held k 4 [d] = some y3 := by simpa [cells4] using hf 3 _ rfl
    have h4 : DataW.trod enc Try.prog W 0 sp held k 3 [e] = some y4 := by simpa [cells3] using hf 4 _ rfl
    obtain ⟨z0, rfl⟩ := bool_cell h0
    obtain ⟨z1, rfl⟩ := bool_cell h1
    obtain ⟨z2, rfl⟩ := bool_cell h2
    obtain ⟨z3, rfl⟩ := bool_cell h3
    obtain ⟨z4, rfl, w4⟩ := int_cell h4
    exact ⟨⟨z0, z1, z2, z3, z4⟩, rfl, w4⟩
/-- Beats that came in. -/
theorem open_bts {H : Type} {enc : TypeId × Value → H} {W : World} {sp : Nat → Bool} {held : Bool} {n : Nat} {v : Value} {y : DataW H × List MemPlace}
    (hlt : ∀ x ∈ y.2, x.block < W.heap.size) (h : DataW.trod enc Try.prog W 0 sp held n 42 [v] = some y) :
    ∃ (A : Option Addr) (c : Nat) (l : List Bt), v = .slice A l.length c ∧ l.length ≤ c ∧ c ≤ maxLen ∧ SR Bt.cells W W.heap.size A l ∧ (∀ a ∈ l, In64 a.room) ∧ (l = [] ∨ ∃ el sp', y.1 = .slice el sp' ∧ l.length ≤ el.length) :=
  open_row Bt.cells 5 Bt.five (by omega) Try.underlying42 cellsBeat (fun b => In64 b.room) (fun h _ => bt_of h) hlt h
/-- what is known of a body that came in -/
def BdIn (W : World) (x : Bd) : Prop := ∃ l : List UInt8, x.n = l.length ∧ BR W W.heap.size x.A l
set_option maxRecDepth 100000 in
theorem bd_of {H : Type} {enc : TypeId × Value → H} {W : World} {sp : Nat → Bool} {held : Bool} {n : Nat} {cs : List Value} {x : DataW H × List MemPlace}
    (h : DataW.trod enc Try.prog W 0 sp held n 24 cs = some x) (hlt : ∀ p ∈ x.2, p.block < W.heap.size) : ∃ m : Bd, cs = m.cells ∧ BdIn W m := by
  obtain ⟨v, rfl⟩ : ∃ v, cs = [v] := by
    rcases open_ints Try.underlying24 Try.underlying5 cells5 h with ⟨hcs, _⟩ | ⟨a, len, cap, zs, hcs, _⟩
    · exact ⟨_, hcs⟩
    · exact ⟨_, hcs⟩
  obtain ⟨A, q, l, rfl, hlc, hc, hA⟩ := open_u8s hlt h
  exact ⟨⟨A, l.length, q⟩, rfl, l, rfl, hA⟩
set_option maxRecDepth 100000 in
/-- Bodies that came in. -/
theorem open_bss {H : Type} {enc : TypeId × Value → H} {W : World} {sp : Nat → Bool} {held : Bool} {n : Nat} {v : Value} {y : DataW H × List MemPlace}
    (hlt : ∀ x ∈ y.2, x.block < W.heap.size) (h : DataW.trod enc Try.prog W 0 sp held n 39 [v] = some y) :
    ∃ (A : Option Addr) (c : Nat) (q : List (List UInt8)), v = .slice A q.length c ∧ q.length ≤ c ∧ c ≤ maxLen ∧ QR W W.heap.size A q ∧ True ∧ (q = [] ∨ ∃ el sp', y.1 = .slice el sp' ∧ q.length ≤ el.length) := by
  obtain ⟨A, c, ds, hv, hlc, hc, hS, hP, hd⟩ := open_row Bd.cells 1 Bd.one (by omega) Try.underlying39 cellsBytes (BdIn W) (fun h hl => bd_of h hl) hlt h
  have hex : ∀ i, i < ds.length → ∃ x : List UInt8, ∀ h : i < ds.length, ds[i].n = x.length ∧ BR W W.heap.size ds[i].A x := by
    intro i hi
    obtain ⟨l, h1, h2⟩ := hP _ (List.getElem_mem hi)
    exact ⟨l, fun _ => ⟨h1, h2⟩⟩
  obtain ⟨g, hg⟩ := Go.Deep.choose_lt (α := List UInt8) (p := fun i x => ∀ h : i < ds.length, ds[i].n = x.length ∧ BR W W.heap.size ds[i].A x) hex
  have hlen : ((List.range ds.length).map g).length = ds.length := by simp
  refine ⟨A, c, (List.range ds.length).map g, by rw [hlen]; exact hv, by omega, hc, ⟨ds, hlen.symm, hS, fun i hi hi' => ?_⟩, trivial, ?_⟩
  · simpa using hg i hi' hi'
  · rcases hd with rfl | ⟨el, sp', h1, h2⟩
    · exact .inl rfl
    · exact .inr ⟨el, sp', h1, by omega⟩
section
variable {H : Type} {enc : TypeId × Value → H} {P : Program} {w : World} {base : Nat} {spare : Nat → Bool} {held : Bool}
theorem trodAll_many5 {t0 t1 t2 t3 t4 : TypeId} {args : Array Value} {ds : List (DataW H)} {ps : List MemPlace} (h : DataW.TrodAll enc P w base spare held [t0, t1, t2, t3, t4] args.toList ds ps) :
    ∃ v0 v1 v2 v3 v4 d0 d1 d2 d3 d4 p0 p1 p2 p3 p4, args = #[v0, v1, v2, v3, v4] ∧ ds = [d0, d1, d2, d3, d4] ∧ ps = p0 ++ p1 ++ p2 ++ p3 ++ p4 ∧ DataW.Trod enc P w base spare held t0 v0 d0 p0 ∧ DataW.Trod enc P w base spare held t1 v1 d1 p1 ∧
      DataW.Trod enc P w base spare held t2 v2 d2 p2 ∧ DataW.Trod enc P w base spare held t3 v3 d3 p3 ∧ DataW.Trod enc P w base spare held t4 v4 d4 p4 := by
  obtain ⟨v0, vs0, d0, ds0, p0, q0, hargs, rfl, rfl, h0, r0⟩ := trodAll_cons h
  obtain ⟨v1, vs1, d1, ds1, p1, q1, rfl, rfl, rfl, h1, r1⟩ := trodAll_cons r0
  obtain ⟨v2, vs2, d2, ds2, p2, q2, rfl, rfl, rfl, h2, r2⟩ := trodAll_cons r1
  obtain ⟨v3, vs3, d3, ds3, p3, q3, rfl, rfl, rfl, h3, r3⟩ := trodAll_cons r2
  obtain ⟨v4, vs4, d4, ds4, p4, q4, rfl, rfl, rfl, h4, r4⟩ := trodAll_cons r3
  obtain ⟨rfl, rfl, rfl⟩ := trodAll_nil r4
  exact ⟨v0, v1, v2, v3, v4, d0, d1, d2, d3, d4, p0, p1, p2, p3, p4, by cases args; simp_all, rfl, by simp, h0, h1, h2, h3, h4⟩
end
end Go.Proofs.Yteikggieekhfkaa
