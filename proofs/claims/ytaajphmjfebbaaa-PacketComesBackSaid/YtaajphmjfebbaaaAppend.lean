/- appending onto a row of the call's own; rows of bytes. -/
import Derived.Test.YtaajphmjfebbaaaWords
import Derived.WalkKit
import Derived.Outline
import Derived.OwnWalk
import Derived.Maps.AppendAt
import Derived.Lib.Hide
import Derived.KernelRfl
import Derived.RegionTactic
import Derived.Deep.QuietTactic
import Derived.BigQuiet
namespace Go.Proofs.Ytaajphmjfebbaaa
open Go.RowKit

/-- t is the slice type of e, whose values take some cells and bytes -/
def Elem (t e : TypeId) (size bytes : Nat) : Prop :=
  Try.prog.underlying t = some (.slice e) ∧ ∃ i z, Try.prog.info? e = some i ∧ i.zero = some z ∧ i.size = size ∧ i.bytes = bytes ∧ z.cells.size = size ∧ 0 < size
theorem info5 : (Try.prog.info? 5).map (fun i => (i.zero, i.size, i.bytes)) = some (some (.int .u8 0), 1, 1) := by kernel_rfl
theorem elem8 : Elem 22 5 1 1 := by
  obtain ⟨i, h1, h2, h3, h4⟩ := info_parts info5
  exact ⟨Try.underlying22, i, _, h1, h2, h3, h4, rfl, by omega⟩

theorem run_app {t e : TypeId} {size bytes : Nat} (hE : Elem t e size bytes) (w : World) (base : Nat) (ty : TypeId) (v : Value) (n : Nat) (xs : List Value) (hown : w.ownsRow base e size v n xs)
    (B : Nat) (A : Option Addr) (m c : Nat) (news : List Value) (hl : news.length = m * size) (hc : Cells w B A news) (h1 : ∀ u ∈ news, u.oneCell' = true)
    (h63 : n + m ≤ maxLen) (hb : (n + m) * bytes ≤ 140737488355328) (hbase : base ≤ w.heap.size) :
    ∃ v' w', (Builtin.append_ #[t, t] ty #[v, .slice A m c]).run Try.prog w = .ok v' w' ∧ w'.ownsRow base e size v' (n + m) (xs ++ news) ∧ w.grownBy w' v.ownBlock ∧
      (v'.ownBlock = v.ownBlock ∨ v'.ownBlock = some w.heap.size) := by
  obtain ⟨ht, i, z, hi, hz, hs, hby, hzs, hsz⟩ := hE
  cases A with
  | none =>
    have hn : news = [] := by
      rcases hc with e | ⟨ad, e, _⟩
      · exact e
      · cases e
    subst hn
    have hm : m = 0 := by
      rcases Nat.eq_zero_or_pos m with h | h
      · exact h
      · have := Nat.mul_pos h hsz
        simp at hl
        omega
    subst hm
    refine ⟨v, w, ?_, by simpa using hown, World.grownBy.refl w _, .inl rfl⟩
    rcases hown.2 with ⟨rfl, rfl⟩ | ⟨g, cap, cur, rfl, _, _, hnc, _⟩
    · simp [Builtin.append_, run_underlying ht, sizeOf, typeInfo, hi, Builtin.lenOf, Builtin.firstCells]
    · simp [Builtin.append_, run_underlying ht, sizeOf, typeInfo, hi, Builtin.lenOf, Builtin.firstCells, hnc, storeCells]
  | some ad =>
    have hnews : ∀ j u, news[j]? = some u → w.cell? (ad.add j) = some u := by
      rcases hc with e | ⟨ad', e, _, h⟩
      · subst e
        intro j u hu
        simp at hu
      · obtain rfl : ad = ad' := by injection e
        exact h
    obtain ⟨v', w', hrun, a1, a2, _, a3⟩ := run_append_own_at (P := Try.prog) w base t ty e i z size bytes ht hi hz hs hby hzs hsz v n xs hown ad m c news hl hnews h1 h63 hb hbase
    exact ⟨v', w', hrun, a1, a2, a3⟩

theorem wpList_app {ops : Array Oper} {rest : List Oper} {o : Oper} {a : Act} {Q : Exit → Act → World → Prop} (w : World) (hgd : o.guard = none) (s x : Operand) (t e : TypeId) (size bytes : Nat)
    (ho : o.op = .call { callee := .builtin .append, args := #[s, x], argTypes := #[t, t] }) (hE : Elem t e size bytes) (base : Nat)
    (v : Value) (n : Nat) (xs : List Value) (hs : a.eval s = v) (hown : w.ownsRow base e size v n xs) (B : Nat) (A : Option Addr) (m c : Nat) (news : List Value)
    (hx : a.eval x = .slice A m c) (hl : news.length = m * size) (hc : Cells w B A news) (h1 : ∀ u ∈ news, u.oneCell' = true)
    (h63 : n + m ≤ maxLen) (hb : (n + m) * bytes ≤ 140737488355328) (hbase : base ≤ w.heap.size)
    (h : ∀ v' w', w'.ownsRow base e size v' (n + m) (xs ++ news) → w.grownBy w' v.ownBlock → (v'.ownBlock = v.ownBlock ∨ v'.ownBlock = some w.heap.size) → wpList Try.prog ops Q rest (a.put o.dst v') w') :
    wpList Try.prog ops Q (o :: rest) a w := by
  refine wpList_plain hgd fun K hK => ?_
  obtain ⟨v', w', hrun, a1, a2, a3⟩ := run_app hE w base o.type v n xs hown B A m c news hl hc h1 h63 hb hbase
  unfold Oper.wp execOp
  simp only [ho, resolve, invoke, builtin, Sem.run_bind, Sem.run_pure, Result.andThen_ok, List.map_toArray, List.map_cons, List.map_nil, hs, hx, hrun]
  exact hK _ _ (h v' w' a1 a2 a3)

/-- a row of bytes of the call's own -/
def Own (w : World) (base : Nat) (v : Value) (l : List UInt8) : Prop := w.ownsRow base 5 1 v l.length (l.map bv)
theorem bv_one (l : List UInt8) : ∀ u ∈ l.map bv, u.oneCell' = true := by
  intro u hu
  obtain ⟨c, _, rfl⟩ := List.mem_map.1 hu
  rfl
theorem Own.form {w : World} {base : Nat} {v : Value} {l : List UInt8} (h : Own w base v l) : ∃ A c, v = .slice A l.length c ∧ BR w w.heap.size A l := by
  have hh := h
  rcases hh.2 with ⟨rfl, hn⟩ | ⟨g, cap, cur, rfl, hb, hg, hnc, _⟩
  · rw [hn]
    exact ⟨none, 0, rfl, .inl (by simp [List.eq_nil_of_length_eq_zero hn])⟩
  · refine ⟨_, cap, rfl, .inr ⟨_, rfl, ?_, fun j u hu => World.ownsRow.cells h (g := g) rfl j u hu⟩⟩
    exact (h.lt g rfl).2
theorem Own.read {w : World} {base n c : Nat} {A : Option Addr} {l : List UInt8} (h : Own w base (.slice A n c) l) : n = l.length ∧ BR w w.heap.size A l := by
  obtain ⟨A', c', e, hB⟩ := h.form
  injection e with e1 e2
  subst e1
  exact ⟨e2, hB⟩
theorem Own.after {w w' : World} {base B : Nat} {v : Value} {l : List UInt8} (h : Own w base v l) (hb : Below B w w') (hB : w.heap.size ≤ B) : Own w' base v l :=
  World.ownsRow.kept (row := none) h ⟨hb.os, hb.tape, hb.output, hb.size, fun k hk _ => hb.block k (by omega)⟩ (by
    rcases h' : v.ownBlock with _ | g
    · exact .inl rfl
    · exact .inr (by simp))
theorem Own.nil (w : World) (base : Nat) : Own w base (.slice none 0 0) [] := w.ownsRow_nil base 5 1
theorem Own.of {w : World} {base m : Nat} {v : Value} {a b : List UInt8} (h : w.ownsRow base 5 1 v (a.length + m) (a.map bv ++ b.map bv)) (hm : m = b.length) : Own w base v (a ++ b) := by
  subst hm
  unfold Own
  rw [List.length_append, List.map_append]
  exact h
/-- what an append leaves, said of bytes -/
def Next (w w' : World) (v v' : Value) : Prop := w.grownBy w' v.ownBlock ∧ (v'.ownBlock = v.ownBlock ∨ ∃ g, v'.ownBlock = some g ∧ w.heap.size ≤ g)
theorem Next.below {w w0 w' : World} {v v' : Value} {base : Nat} {l : List UInt8} (h : Next w w' v v') (ho : Own w base v l) (hb : Below base w0 w) (hz : base ≤ w.heap.size) : Below base w0 w' :=
  hb.grown h.1 hz fun k hk => (ho.lt k hk).1

theorem Own.lower {w : World} {base base' : Nat} {v : Value} {l : List UInt8} (h : Own w base v l) (hb : base' ≤ base) : Own w base' v l := by
  refine ⟨h.1, ?_⟩
  rcases h.2 with e | ⟨g, cap, cur, e, hg, r⟩
  · exact .inl e
  · exact .inr ⟨g, cap, cur, e, by omega, r⟩
/-- below a row's base all is as it was -/
theorem Below.at_ {B : Nat} {a w : World} (h : Below B a w) (b : Nat) (hb : b < B) (k : Nat) : w.cell? ⟨b, k, none⟩ = a.cell? ⟨b, k, none⟩ := h.cell (p := ⟨b, k, none⟩) hb

/-- the two bytes of a number -/
def two (n : Nat) : List UInt8 := [UInt8.ofNat (n / 256), UInt8.ofNat n]
theorem bv_two (n : Nat) : (two n).map bv = [.int .u8 ((n : Int) / 256 % 256), .int .u8 ((n : Int) % 256)] := by
  simp [two, bv]

theorem Next.refl (w : World) (v : Value) : Next w w v v := ⟨World.grownBy.refl w _, .inl rfl⟩
theorem Next.trans {a b c : World} {u v x : Value} (h1 : Next a b u v) (h2 : Next b c v x) : Next a c u x := by
  refine ⟨⟨h2.1.os.trans h1.1.os, h2.1.tape.trans h1.1.tape, h2.1.output.trans h1.1.output, Nat.le_trans h1.1.size h2.1.size, fun k hk hne => ?_⟩, ?_⟩
  · refine (h2.1.block k (Nat.lt_of_lt_of_le hk h1.1.size) fun e => ?_).trans (h1.1.block k hk hne)
    rcases h1.2 with e1 | ⟨g, e1, hg⟩
    · exact hne (e.trans e1)
    · rw [e1] at e
      injection e with e
      omega
  · rcases h2.2 with e | ⟨g, e, hg⟩
    · rw [e]; exact h1.2
    · exact .inr ⟨g, e, Nat.le_trans h1.1.size hg⟩
theorem Next.alloc (w : World) (o : Obj) (v : Value) : Next w (w.alloc o) v v := by
  have h := (Below.refl w.heap.size w).alloc (Nat.le_refl _) o
  exact ⟨⟨h.os, h.tape, h.output, h.size, fun k hk _ => h.block k hk⟩, .inl rfl⟩

/-- a number in so many bytes, the greatest one first -/
def bigE (n : Nat) : Nat → List UInt8
  | 0 => []
  | m + 1 => UInt8.ofNat (n / 256 ^ m) :: bigE n m
theorem bigE_len (n : Nat) : ∀ m, (bigE n m).length = m
  | 0 => rfl
  | m + 1 => by simp [bigE, bigE_len n m]

theorem shr_byte (n k : Nat) : (n : Int) / 2 ^ (8 * k) % 256 = ((UInt8.ofNat (n / 256 ^ k)).toNat : Int) := by
  have e : (2 : Nat) ^ (8 * k) = 256 ^ k := by rw [Nat.pow_mul]
  rw [show ((2 : Int) ^ (8 * k)) = ((256 ^ k : Nat) : Int) by rw [← e, Int.natCast_pow]; rfl]
  have h : (UInt8.ofNat (n / 256 ^ k)).toNat = n / 256 ^ k % 256 := UInt8.toNat_ofNat'
  rw [h]
  generalize 256 ^ k = q
  rw [Int.natCast_emod, Int.natCast_ediv]
  rfl
set_option maxRecDepth 100000 in
set_option maxHeartbeats 1000000 in
theorem append_any (base : Nat) (v : Value) (l : List UInt8) (n m : Nat) (w : World) (hm : m ≤ 8) (hl : l.length ≤ 1000000) (hbase : base ≤ w.heap.size) (h : Own w base v l) :
    Calls Try.prog 38 #[v, .int .i64 n, .int .i64 m] w fun e w' => ∃ v', e = .returned v' ∧ Own w' base v' (l ++ bigE n m) ∧ Next w w' v v' := by
  go_enter Try.func38, Try.ntmps38
  go_wp2_with fail
  go_loopw [0, 7] (fun u i wr => ∃ (k : Nat) (X : List UInt8), k ≤ m ∧ i = .int .i64 ((k : Int) - 1) ∧ X.length + k = m ∧ bigE n m = X ++ bigE n k ∧ Own wr base u (l ++ X) ∧ Next w wr v u) (fun _ i _ => (intOf i + 1).toNat)
  case atStart => exact ⟨m, [], Nat.le_refl _, by go_num, by simp, rfl, by simpa using h, Next.refl _ _⟩
  case round =>
    obtain ⟨k, X, hk, rfl, hX, hE, hown, hnx⟩ := hrel
    rcases k with _ | k
    · go_wp2_with fail
      go_ret
      have : bigE n m = X := by simpa [bigE] using hE
      exact ⟨_, rfl, by rw [this]; exact hown, hnx⟩
    · have hXl : (l ++ X).length ≤ 1000008 := by simp; omega
      have HE := Lib.hid hE
      have HX := Lib.hid hX
      clear hE hX h
      generalize hL : l ++ X = L at *
      have HL := Lib.hid hL
      clear hL
      have hz := hnx.1.size
      have hk8 : k ≤ 7 := by omega
      obtain ⟨t, ht⟩ : ∃ t : UInt8, t = UInt8.ofNat (n / 256 ^ k) := ⟨_, rfl⟩
      have HT := Lib.hid ht
      have hval : (n : Int) / 2 ^ (8 * k) % 256 = (t.toNat : Int) := by
        rw [ht]
        exact shr_byte n k
      have HV := Lib.hid hval
      clear hval ht
      go_wp2_with (first | (at_builtin; refine wpList_app _ rfl (.tmp 14) (.tmp 20) 22 5 1 1 rfl elem8 base u0 L.length (L.map bv) rfl (World.ownsRow.alloc hown _) (wr.heap.size + 1) _ 1 1 ([t].map bv) rfl rfl (Cells.fresh wr _ 5 _ _ (by rw [HV.out]; rfl)) (bv_one _) (by unfold maxLen; omega) (by omega) (by simp; omega) ?_; intro v3 w3 hown3 hgrow3 hat3) | fail)
      go_roundw
      case rel =>
        have HTT : t = UInt8.ofNat (n / 256 ^ k) := HT.out
        refine ⟨k, X ++ [t], by omega, by go_num, by have := HX.out; simp; omega, ?_, ?_, ?_⟩
        · rw [HE.out, HTT]; simp [bigE]
        · rw [← List.append_assoc, HL.out]; exact Own.of (b := [t]) hown3 rfl
        · refine hnx.trans ((Next.alloc wr _ u0).trans ⟨hgrow3, ?_⟩)
          rcases hat3 with e | e
          · exact .inl e
          · exact .inr ⟨_, e, Nat.le_refl _⟩
      case measure => simp [intOf]

theorem bigE_two (n : Nat) : bigE n 2 = two n := by simp [bigE, two]
set_option maxHeartbeats 400000 in
theorem appendTwo_any (base : Nat) (v : Value) (l : List UInt8) (z : Int) (n : Nat) (w : World) (hzn : Hid (z = (n : Int))) (hl : l.length ≤ 1000000) (ho : Own w base v l) (hz : base ≤ w.heap.size) :
    Calls Try.prog 44 #[v, .int .i64 z] w fun e w' => ∃ v', e = .returned v' ∧ Own w' base v' (l ++ two n) ∧ Next w w' v v' := by
  obtain rfl : z = (n : Int) := hzn
  have HA := Lib.hid (append_any base v l n 2 w (by omega) hl hz ho)
  rw [bigE_two] at HA
  go_enter Try.func44, Try.ntmps44
  go_wp2_with (first | (go_at_call 38; refine HA.out.mono ?_; rintro e w' ⟨v', rfl, q1, q2⟩) | fail)
  go_ret
  exact ⟨_, rfl, q1, q2⟩

set_option maxRecDepth 100000 in
set_option maxHeartbeats 400000 in
theorem rtwo_any (z : Int) (n : Nat) (w : World) (hzn : Hid (z = (n : Int))) :
    Calls Try.prog 45 #[.int .i64 z] w fun e w' => ∃ v', e = .returned v' ∧ Own w' w.heap.size v' (two n) ∧ Below w.heap.size w w' := by
  obtain rfl : z = (n : Int) := hzn
  go_enter Try.func45, Try.ntmps45
  go_wp2
  go_ret
  refine ⟨_, rfl, ?_, (Below.refl _ _).alloc (Nat.le_refl _) _⟩
  unfold Own
  rw [bv_two]
  exact World.ownsRow_lit _ _ 2 (Nat.le_refl _) (by simp [maxLen]) rfl

theorem setCell_grown (w : World) (g k : Nat) (u : Value) : w.grownBy (w.setCell ⟨g, k, none⟩ u) (some g) :=
  ⟨rfl, rfl, rfl, by simp [World.setCell], fun i _ hne => Below.heap_setCell w ⟨g, k, none⟩ u i (fun e => hne (by rw [e]))⟩
theorem Own.apart {w w' : World} {base g : Nat} {v : Value} {l : List UInt8} (h : Own w base v l) (hg : w.grownBy w' (some g)) (hlt : g < base) : Own w' base v l :=
  World.ownsRow.kept h hg (.inr (fun e => by have := (h.lt g e).1; omega))
/-- one of several in a row: what was owned stays owned -/
theorem rtwo_at {b : Nat} {W0 w : World} (z : Int) (n : Nat) (hz : Hid (z = (n : Int))) (hb : Below b W0 w) (hs : b ≤ w.heap.size) :
    Calls Try.prog 45 #[.int .i64 z] w fun e w' => ∃ A c, e = .returned (.slice A 2 c) ∧ Own w' b (.slice A 2 c) (two n) ∧ Below b W0 w' ∧ b ≤ w'.heap.size ∧ (∀ v l, Own w b v l → Own w' b v l) := by
  refine (rtwo_any z n w hz).mono ?_
  rintro e w' ⟨v, rfl, ho, hb'⟩
  obtain ⟨A, c, rfl, -⟩ := ho.form
  exact ⟨A, c, rfl, ho.lower hs, hb.trans (hb'.mono hs), Nat.le_trans hs hb'.size, fun v l h => h.after hb' (Nat.le_refl _)⟩
theorem rtwo_atr {b : Nat} {W0 w : World} (z : Int) (n : Nat) (hz : Hid (z = (n : Int))) (hb : Below b W0 w) (hs : b ≤ w.heap.size) :
    Calls Try.prog 45 #[.int .i64 z] w fun e w' => ∃ A c, e = .returned (.slice A 2 c) ∧ Own w' b (.slice A 2 c) (two n) ∧ Below b W0 w' ∧ b ≤ w'.heap.size ∧ (∀ v l, Own w b v l → Own w' b v l) ∧ Below w.heap.size w w' := by
  refine (rtwo_any z n w hz).mono ?_
  rintro e w' ⟨v, rfl, ho, hb'⟩
  obtain ⟨A, c, rfl, -⟩ := ho.form
  exact ⟨A, c, rfl, ho.lower hs, hb.trans (hb'.mono hs), Nat.le_trans hs hb'.size, fun v l h => h.after hb' (Nat.le_refl _), hb'⟩
/-- a call that makes memory alone, among several: what is below b stays, what was owned stays owned -/
theorem carry {b : Nat} {W0 w : World} {f : FuncId} {args : Array Value} {v : Value} (hc : Calls Try.prog f args w fun e w' => e = .returned v ∧ Below w.heap.size w w') (hb : Below b W0 w) (hs : b ≤ w.heap.size) :
    Calls Try.prog f args w fun e w' => e = .returned v ∧ Below b W0 w' ∧ b ≤ w'.heap.size ∧ (∀ base u l, Own w base u l → Own w' base u l) := by
  refine hc.mono ?_
  rintro e w' ⟨rfl, hb'⟩
  exact ⟨rfl, hb.trans (hb'.mono hs), Nat.le_trans hs hb'.size, fun base u l h => h.after hb' (Nat.le_refl _)⟩
theorem wrapped {z : Int} {n : Nat} (h : z = (n : Int)) (hn : n ≤ 9223372036854775807) : IntKind.i64.wrap z = (n : Int) := by
  rw [IntWalk.i64_in _ (by omega)]; exact h
end Go.Proofs.Ytaajphmjfebbaaa
