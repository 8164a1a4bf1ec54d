/- twoV rows of numbers of the call's own, held by a bank of its own, appended to in any order. -/
import Derived.Test.YtpccpkjfnmclfaaBase
import Derived.Test.YtpccpkjfnmclfaaWritten
namespace Go.Proofs.Ytpccpkjfnmclfaa
open Go.RowKit

theorem OwnI.other {w : World} {base p k : Nat} {v u : Value} {l : List Int} (h : OwnI w base v l) (hp : p < base) : OwnI (w.setCell ⟨p, k, none⟩ u) base v l := by
  refine ⟨h.1, ?_⟩
  rcases h.2 with e | ⟨g, cap, cur, e, hg, hh, r⟩
  · exact .inl e
  · exact .inr ⟨g, cap, cur, e, hg, (Below.heap_setCell w ⟨p, k, none⟩ u g (by show g ≠ p; omega)).trans hh, r⟩
structure PairAt (w : World) (P : Nat) (vC0 vS0 : Value) (X : World) (vC vS : Value) (LC LS : List Int) : Prop where
  held : HeldB X P vC0 vS0
  below : Below P w X
  c : OwnI X (P + 1) vC LC
  s : OwnI X (P + 1) vS LS
  ne : ∀ b, vC.ownBlock = some b → vS.ownBlock ≠ some b
theorem PairAt.alloc {w X : World} {P : Nat} {vC0 vS0 vC vS : Value} {LC LS : List Int} (h : PairAt w P vC0 vS0 X vC vS LC LS) (o : Obj) : PairAt w P vC0 vS0 (X.alloc o) vC vS LC LS :=
  ⟨h.held.below ((Below.refl _ _).alloc (Nat.le_refl _) o) h.held.lt, h.below.alloc (Nat.le_of_lt h.held.lt) o, World.ownsRow.alloc h.c o, World.ownsRow.alloc h.s o, h.ne⟩
theorem PairAt.drew {w X : World} {P : Nat} {vC0 vS0 vC vS : Value} {LC LS : List Int} (h : PairAt w P vC0 vS0 X vC vS LC LS) : PairAt w P vC0 vS0 X.drew vC vS LC LS :=
  ⟨h.held, h.below.drew, h.c, h.s, h.ne⟩
theorem PairAt.stepC {w W W' : World} {P : Nat} {vC0 vS0 vC vS v' : Value} {LC LS LC' : List Int} (h : PairAt w P vC0 vS0 W vC vS LC LS) (ho : OwnI W' (P + 1) v' LC') (hg : W.grownBy W' vC.ownBlock) (hr : v'.ownBlock = vC.ownBlock ∨ v'.ownBlock = some W.heap.size) :
    PairAt w P vC0 vS0 W' v' vS LC' LS := by
  have hlt := h.held.lt
  refine ⟨(hg.block P hlt fun e => ?_).trans h.held, h.below.grown hg (Nat.le_of_lt hlt) fun k hk => ?_, ho, World.ownsRow.kept h.s hg ?_, fun b hb => ?_⟩
  · have := (World.ownsRow.lt h.c P e.symm).1; omega
  · have := (World.ownsRow.lt h.c k hk).1; omega
  · rcases hq : vS.ownBlock with _ | b
    · exact .inl rfl
    · refine .inr fun e => ?_
      exact h.ne b e.symm hq
  · rcases hr with e | e
    · exact h.ne b (e.symm.trans hb)
    · rw [e] at hb
      injection hb with hb
      subst hb
      intro e2
      have := (World.ownsRow.lt h.s _ e2).2
      omega
theorem PairAt.stepS {w W W' : World} {P : Nat} {vC0 vS0 vC vS v' : Value} {LC LS LS' : List Int} (h : PairAt w P vC0 vS0 W vC vS LC LS) (ho : OwnI W' (P + 1) v' LS') (hg : W.grownBy W' vS.ownBlock) (hr : v'.ownBlock = vS.ownBlock ∨ v'.ownBlock = some W.heap.size) :
    PairAt w P vC0 vS0 W' vC v' LC LS' := by
  have hlt := h.held.lt
  refine ⟨(hg.block P hlt fun e => ?_).trans h.held, h.below.grown hg (Nat.le_of_lt hlt) fun k hk => ?_, World.ownsRow.kept h.c hg ?_, ho, fun b hb => ?_⟩
  · have := (World.ownsRow.lt h.s P e.symm).1; omega
  · have := (World.ownsRow.lt h.s k hk).1; omega
  · rcases hq : vC.ownBlock with _ | b
    · exact .inl rfl
    · refine .inr fun e => ?_
      exact h.ne b hq e.symm
  · rcases hr with e | e
    · rw [e]; exact h.ne b hb
    · rw [e]
      intro e2
      injection e2 with e2
      subst e2
      have := (World.ownsRow.lt h.c _ hb).2
      omega
/-- a number that a literal laid stays behind an append to another row -/
theorem lit_stay {W W' : World} {v : Value} {base : Nat} {wr : World} {L : List Int} (h0 : OwnI wr base v L) (hg : W.grownBy W' v.ownBlock) (b : Nat) (h1 : wr.heap.size ≤ b) (h2 : b < W.heap.size) : W'.cell? ⟨b, 0, none⟩ = W.cell? ⟨b, 0, none⟩ :=
  World.cell?_of_block (a := ⟨b, 0, none⟩) (hg.block b h2 fun e => by have := (World.ownsRow.lt h0 b e.symm).2; omega)
theorem step_pair {o : Oper} {a : Act} {K : Act → World → Prop} {Q : Exit → Act → World → Prop} (W : World) (s x : Operand)
    (ho : o.op = .call { callee := .builtin .append, args := #[s, x], argTypes := #[43, 43] }) (base : Nat) (v : Value) (L : List Int) (g c : Nat) (z : Int) (hs : a.eval s = v) (hx : a.eval x = .slice (some ⟨g, 0, none⟩) 1 c)
    (hown : OwnI W base v L) (hcell : W.cell? ⟨g, 0, none⟩ = some (.int .i64 z)) (hlen : (L.length + 1) * 8 ≤ 140737488355328) (hbase : base ≤ W.heap.size)
    (h : ∀ A' c' W', OwnI W' base (.slice A' (L.length + 1) c') (L ++ [z]) → Hid (W.grownBy W' v.ownBlock) → Hid ((Value.slice A' (L.length + 1) c').ownBlock = v.ownBlock ∨ (Value.slice A' (L.length + 1) c').ownBlock = some W.heap.size) → K (a.put o.dst (.slice A' (L.length + 1) c')) W') :
    o.wp Try.prog a W K Q := by
  have hc : Cells W (g + 1) (some ⟨g, 0, none⟩) ([z].map iv) := .inr ⟨_, rfl, Nat.lt_succ_self g, fun j u hj => by
    match j, hj with
    | 0, hj => simp at hj; subst hj; simpa [Addr.add, iv] using hcell
    | j + 1, hj => simp at hj⟩
  obtain ⟨v', w', hrun, a1, a2, a3⟩ := run_app elemI W base o.type v L.length (L.map iv) hown (g + 1) (some ⟨g, 0, none⟩) 1 c ([z].map iv) rfl hc (iv_one _) (by unfold maxLen; omega) hlen hbase
  have ho1 : OwnI w' base v' (L ++ [z]) := OwnI.of (a := L) (b := [z]) a1 rfl
  obtain ⟨A', c', e, -⟩ := ho1.form
  have e' : v' = .slice A' (L.length + 1) c' := by rw [e]; simp
  clear e
  subst e'
  unfold Oper.wp execOp
  simp only [ho, resolve, invoke, builtin, Sem.run_bind, Sem.run_pure, Result.andThen_ok, List.map_toArray, List.map_cons, List.map_nil, hs, hx, hrun]
  exact h A' c' w' ho1 (Lib.hid a2) (Lib.hid a3)
theorem PairAt.sets {w X : World} {P : Nat} {vC0 vS0 vC vS : Value} {LC LS : List Int} (h : PairAt w P vC0 vS0 X vC vS LC LS) : PairAt w P vC vS ((X.setCell ⟨P, 0, none⟩ vC).setCell ⟨P, 1, none⟩ vS) vC vS LC LS := by
  have hlt := h.held.lt
  have h' : X.heap[P] = .cells #[vC0, vS0] 56 (0, 0) := by have := h.held; unfold HeldB at this; simpa [Array.getElem?_eq_getElem hlt] using this
  refine ⟨?_, (h.below.setCell (p := ⟨P, 0, none⟩) (Nat.le_refl _) _).setCell (p := ⟨P, 1, none⟩) (Nat.le_refl _) _, (h.c.other (Nat.lt_succ_self _)).other (Nat.lt_succ_self _), (h.s.other (Nat.lt_succ_self _)).other (Nat.lt_succ_self _), h.ne⟩
  unfold HeldB
  simp only [World.setCell]
  rw [Array.getElem?_eq_getElem (by simpa using hlt), Array.getElem_modify_self, Array.getElem_modify_self, h']
  rfl
theorem PairAt.sets' {w X : World} {P : Nat} {vC0 vS0 vC vS : Value} {LC LS : List Int} (h : PairAt w P vC0 vS0 X vC vS LC LS) : PairAt w P vC vS ((X.setCell ⟨P, 1, none⟩ vS).setCell ⟨P, 0, none⟩ vC) vC vS LC LS := by
  have hlt := h.held.lt
  have h' : X.heap[P] = .cells #[vC0, vS0] 56 (0, 0) := by have := h.held; unfold HeldB at this; simpa [Array.getElem?_eq_getElem hlt] using this
  refine ⟨?_, (h.below.setCell (p := ⟨P, 1, none⟩) (Nat.le_refl _) _).setCell (p := ⟨P, 0, none⟩) (Nat.le_refl _) _, (h.c.other (Nat.lt_succ_self _)).other (Nat.lt_succ_self _), (h.s.other (Nat.lt_succ_self _)).other (Nat.lt_succ_self _), h.ne⟩
  unfold HeldB
  simp only [World.setCell]
  rw [Array.getElem?_eq_getElem (by simpa using hlt), Array.getElem_modify_self, Array.getElem_modify_self, h']
  rfl
theorem step_C {w W wr : World} {P : Nat} {vC0 vS0 vC vS : Value} {LC LS : List Int} {o : Oper} {a : Act} {K : Act → World → Prop} {Q : Exit → Act → World → Prop} (h0 : OwnI wr (P + 1) vC LC) (hP : PairAt w P vC0 vS0 W vC vS LC LS) (s x : Operand)
    (ho : o.op = .call { callee := .builtin .append, args := #[s, x], argTypes := #[43, 43] }) (g c : Nat) (z : Int) (hs : a.eval s = vC) (hx : a.eval x = .slice (some ⟨g, 0, none⟩) 1 c)
    (hcell : W.cell? ⟨g, 0, none⟩ = some (.int .i64 z)) (hlen : (LC.length + 1) * 8 ≤ 140737488355328)
    (h : ∀ A' c' W', Hid (PairAt w P vC0 vS0 W' (.slice A' (LC.length + 1) c') vS (LC ++ [z]) LS) → Hid (∀ b, wr.heap.size ≤ b → b < W.heap.size → W'.cell? ⟨b, 0, none⟩ = W.cell? ⟨b, 0, none⟩) → W.heap.size ≤ W'.heap.size → K (a.put o.dst (.slice A' (LC.length + 1) c')) W') :
    o.wp Try.prog a W K Q :=
  step_pair W s x ho (P + 1) vC LC g c z hs hx hP.c hcell hlen hP.held.lt fun A' c' W' h1 h2 h3 =>
    h A' c' W' (Lib.hid (hP.stepC h1 h2.out h3.out)) (Lib.hid fun b q1 q2 => lit_stay h0 h2.out b q1 q2) h2.out.size
theorem step_S {w W wr : World} {P : Nat} {vC0 vS0 vC vS : Value} {LC LS : List Int} {o : Oper} {a : Act} {K : Act → World → Prop} {Q : Exit → Act → World → Prop} (h0 : OwnI wr (P + 1) vS LS) (hP : PairAt w P vC0 vS0 W vC vS LC LS) (s x : Operand)
    (ho : o.op = .call { callee := .builtin .append, args := #[s, x], argTypes := #[43, 43] }) (g c : Nat) (z : Int) (hs : a.eval s = vS) (hx : a.eval x = .slice (some ⟨g, 0, none⟩) 1 c)
    (hcell : W.cell? ⟨g, 0, none⟩ = some (.int .i64 z)) (hlen : (LS.length + 1) * 8 ≤ 140737488355328)
    (h : ∀ A' c' W', Hid (PairAt w P vC0 vS0 W' vC (.slice A' (LS.length + 1) c') LC (LS ++ [z])) → Hid (∀ b, wr.heap.size ≤ b → b < W.heap.size → W'.cell? ⟨b, 0, none⟩ = W.cell? ⟨b, 0, none⟩) → W.heap.size ≤ W'.heap.size → K (a.put o.dst (.slice A' (LS.length + 1) c')) W') :
    o.wp Try.prog a W K Q :=
  step_pair W s x ho (P + 1) vS LS g c z hs hx hP.s hcell hlen hP.held.lt fun A' c' W' h1 h2 h3 =>
    h A' c' W' (Lib.hid (hP.stepS h1 h2.out h3.out)) (Lib.hid fun b q1 q2 => lit_stay h0 h2.out b q1 q2) h2.out.size
end Go.Proofs.Ytpccpkjfnmclfaa
