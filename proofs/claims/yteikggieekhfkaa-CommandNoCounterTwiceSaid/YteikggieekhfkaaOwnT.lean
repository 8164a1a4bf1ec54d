/- bodies that were taken: a row of the call's own; the block with both sides. -/
import Derived.Test.YteikggieekhfkaaRunMath
import Derived.Test.YteikggieekhfkaaQRow
namespace Go.Proofs.Yteikggieekhfkaa
open Go.RowKit

theorem oper_app {o : Oper} {a : Act} {K : Act → World → Prop} {Q : Exit → Act → World → Prop} (w : World) (s x : Operand) (t e : TypeId) (size bytes : Nat)
    (ho : o.op = .call { callee := .builtin .append, args := #[s, x], argTypes := #[t, t] }) (hE : Elem t e size bytes) (base : Nat)
    (v : Value) (n : Nat) (xs : List Value) (hs : a.eval s = v) (hown : w.ownsRow base e size v n xs) (B : Nat) (A : Option Addr) (m c : Nat) (news : List Value)
    (hx : a.eval x = .slice A m c) (hl : news.length = m * size) (hc : Cells w B A news) (h1 : ∀ u ∈ news, u.oneCell' = true)
    (h63 : n + m ≤ maxLen) (hb : (n + m) * bytes ≤ 140737488355328) (hbase : base ≤ w.heap.size)
    (h : ∀ v' w', w'.ownsRow base e size v' (n + m) (xs ++ news) → w.grownBy w' v.ownBlock → (v'.ownBlock = v.ownBlock ∨ v'.ownBlock = some w.heap.size) → K (a.put o.dst v') w') :
    o.wp Try.prog a w K Q := by
  obtain ⟨v', w', hrun, a1, a2, a3⟩ := run_app hE w base o.type v n xs hown B A m c news hl hc h1 h63 hb hbase
  unfold Oper.wp execOp
  simp only [ho, resolve, invoke, builtin, Sem.run_bind, Sem.run_pure, Result.andThen_ok, List.map_toArray, List.map_cons, List.map_nil, hs, hx, hrun]
  exact h v' w' a1 a2 a3
def OwnT (w : World) (base B : Nat) (v : Value) (tk : List (List UInt8)) : Prop :=
  ∃ ds : List Bd, ds.length = tk.length ∧ w.ownsRow base 24 1 v tk.length (rcells Bd.cells ds) ∧ ∀ (i : Nat) (h : i < tk.length) (h' : i < ds.length), ds[i].n = tk[i].length ∧ BR w B ds[i].A tk[i]
theorem OwnT.nil (w : World) (base B : Nat) : OwnT w base B (.slice none 0 0) [] := ⟨[], rfl, w.ownsRow_nil base 24 1, fun i h => by simp at h⟩
theorem OwnT.set {w : World} {base B p k : Nat} {v u : Value} {tk : List (List UInt8)} (h : OwnT w base B v tk) (hp : p < base) (hB : B ≤ p) : OwnT (w.setCell ⟨p, k, none⟩ u) base B v tk := by
  obtain ⟨ds, h1, h2, h3⟩ := h
  refine ⟨ds, h1, ⟨h2.1, ?_⟩, fun i hi hi' => ⟨(h3 i hi hi').1, (h3 i hi hi').2.below ((Below.refl _ _).setCell hB _)⟩⟩
  rcases h2.2 with e | ⟨g, cap, cur, e, hg, hh, r⟩
  · exact .inl e
  · exact .inr ⟨g, cap, cur, e, hg, (Below.heap_setCell w ⟨p, k, none⟩ u g (by show g ≠ p; omega)).trans hh, r⟩
theorem OwnT.after {w w' : World} {base B : Nat} {v : Value} {tk : List (List UInt8)} (h : OwnT w base B v tk) (hb : Below w.heap.size w w') (hB : B ≤ w.heap.size) : OwnT w' base B v tk := by
  obtain ⟨ds, h1, h2, h3⟩ := h
  refine ⟨ds, h1, World.ownsRow.kept (row := none) h2 ⟨hb.os, hb.tape, hb.output, hb.size, fun k hk _ => hb.block k hk⟩ ?_, fun i hi hi' => ⟨(h3 i hi hi').1, (h3 i hi hi').2.below (hb.mono hB)⟩⟩
  rcases h' : v.ownBlock with _ | g
  · exact .inl rfl
  · exact .inr (by simp)
theorem OwnT.snoc {w w1 w' : World} {base B : Nat} {v' : Value} {tk : List (List UInt8)} {ds : List Bd} {x : Bd} {l : List UInt8} (h1 : ds.length = tk.length) (h2 : w'.ownsRow base 24 1 v' (tk.length + 1) (rcells Bd.cells ds ++ rcells Bd.cells [x]))
    (h3 : ∀ (i : Nat) (h : i < tk.length) (h' : i < ds.length), ds[i].n = tk[i].length ∧ BR w B ds[i].A tk[i]) (hx : x.n = l.length) (hl : BR w1 B x.A l) (hb : Below B w w') (hb1 : Below B w1 w') : OwnT w' base B v' (tk ++ [l]) := by
  refine ⟨ds ++ [x], by simp [h1], ?_, fun i hi hi' => ?_⟩
  · have e : rcells Bd.cells (ds ++ [x]) = rcells Bd.cells ds ++ rcells Bd.cells [x] := by simp [rcells]
    rw [e, List.length_append]
    exact h2
  · by_cases hlt : i < ds.length
    · rw [List.getElem_append_left hlt, List.getElem_append_left (by omega)]
      obtain ⟨a, b⟩ := h3 i (by omega) hlt
      exact ⟨a, b.below hb⟩
    · have hi2 : i = ds.length := by simp at hi'; omega
      subst hi2
      rw [List.getElem_append_right (Nat.le_refl _), List.getElem_append_right (by omega)]
      simp [h1]
      exact ⟨hx, hl.below hb1⟩
/-- the block with both sides -/
def linC (n v : Int) (L R T : Bool) (k f s : Int) (Q : Value) (wd : Int) (st : Bool) (TK : Value) : Array Value :=
  #[.int .i64 n, .int .i64 v, .bool L, .bool R, .bool T, .int .i64 k, .int .i64 f, .int .i64 s, Q, .int .i64 wd, .bool st, TK]
theorem blk_l {w : World} {g : Nat} {n v : Int} {L R T : Bool} {k f s : Int} {Q : Value} {wd : Int} {st : Bool} {TK : Value} {t : TypeId} (h : Blk w g (linC n v L R T k f s Q wd st TK) t) :
    (w.cell? ⟨g, 0, none⟩ = some (.int .i64 n) ∧ w.cell? ⟨g, 1, none⟩ = some (.int .i64 v) ∧ w.cell? ⟨g, 2, none⟩ = some (.bool L) ∧ w.cell? ⟨g, 3, none⟩ = some (.bool R) ∧ w.cell? ⟨g, 4, none⟩ = some (.bool T) ∧ w.cell? ⟨g, 5, none⟩ = some (.int .i64 k)) ∧
    (w.cell? ⟨g, 6, none⟩ = some (.int .i64 f) ∧ w.cell? ⟨g, 7, none⟩ = some (.int .i64 s) ∧ w.cell? ⟨g, 8, none⟩ = some Q ∧ w.cell? ⟨g, 9, none⟩ = some (.int .i64 wd) ∧ w.cell? ⟨g, 10, none⟩ = some (.bool st)) ∧ w.cell? ⟨g, 11, none⟩ = some TK :=
  ⟨⟨h.cell 0 _ rfl, h.cell 1 _ rfl, h.cell 2 _ rfl, h.cell 3 _ rfl, h.cell 4 _ rfl, h.cell 5 _ rfl⟩, ⟨h.cell 6 _ rfl, h.cell 7 _ rfl, h.cell 8 _ rfl, h.cell 9 _ rfl, h.cell 10 _ rfl⟩, h.cell 11 _ rfl⟩
theorem take_plain {n v : Int} {L R T : Bool} {k m : Int} {z : Nat} (hb : BrdOk n v k) (hm0 : 0 ≤ m) (hm1 : m ≤ 255) (hz : bodS z = 0) :
    takeS ⟨n, v, L, R, T, k⟩ 1 m z = if 1000000 < (plainS ⟨n, v, L, R, T, k⟩ m).1.k then (zeroU, 0, 16) else ((plainS ⟨n, v, L, R, T, k⟩ m).1, (plainS ⟨n, v, L, R, T, k⟩ m).2, 0) := by
  obtain ⟨n0, n1, v0, v1, ev, k0, k1⟩ := hb
  have h1 : brdS n v k = 0 := by
    unfold brdS
    rw [if_pos ⟨n0, n1⟩, if_pos ev, if_pos ⟨v0, v1⟩, if_pos ⟨k0, k1⟩]
  have h2 : ordS 1 m z = 0 := by
    unfold ordS
    rw [if_pos (by omega), if_pos ⟨hm0, hm1⟩, if_neg (by simp [numK]), if_pos (by simp [bodK])]
    exact hz
  have h3 : tookS ⟨n, v, L, R, T, k⟩ 1 m = plainS ⟨n, v, L, R, T, k⟩ m := by simp [tookS]
  unfold takeS
  rw [if_neg (by simp [h1]), if_neg (by simp [h2]), h3]
end Go.Proofs.Yteikggieekhfkaa
