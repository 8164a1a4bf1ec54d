/- what is taken is a beginning of the queue. -/
import Derived.Test.YteikggieekhfkaaRunMath2
namespace Go.Proofs.Yteikggieekhfkaa
open Go.RowKit

/-- what holds beat by beat: a have left the queue, t are taken -/
structure Inv (N0 W : Int) (Q0 : List (List UInt8)) (wd : Int) (x : LS) (a t : Nat) : Prop where
  q : x.q = Q0.drop a
  at' : a ≤ t
  ts : t ≤ a + x.s
  aq : a + x.s ≤ Q0.length
  tk : x.tk = Q0.take t
  f : x.f = (N0 + (a : Int)) % 256
  n : x.b.n = (N0 + (t : Int)) % 256
  st : x.st = false
  L : x.b.L = false
  T : x.b.T = false
  v : x.b.v = W
  k : x.b.k = (t : Int)
  w : x.wd = wd
  sw : (x.s : Int) ≤ wd
theorem inv_send {N0 W wd : Int} {Q0 : List (List UInt8)} {x : LS} {a t : Nat} (hW : wd < W / 2) (hQ : Q0.length ≤ 60) (h : Inv N0 W Q0 wd x a t) (lost : Bool) :
    (sendS x lost).2 = 0 ∧ ∃ t', Inv N0 W Q0 wd (sendS x lost).1 a t' := by
  obtain ⟨q, at', ts, aq, tk, f, n, st, L, T, v, k, w, sw⟩ := h
  have hql : x.q.length = Q0.length - a := by rw [q]; simp
  unfold sendS
  by_cases hn : noNext x
  · rw [if_pos hn]
    exact ⟨rfl, t, ⟨q, at', ts, aq, tk, f, n, st, L, T, v, k, w, sw⟩⟩
  · rw [if_neg hn]
    unfold noNext at hn
    simp only [not_or] at hn
    have h1 : x.s < x.q.length := by omega
    have h2 : (x.s : Int) < wd := by have := hn.2.2; omega
    by_cases hl : lost = true
    · rw [if_pos hl]
      exact ⟨rfl, t, ⟨q, at', by simp only; omega, by simp only; omega, tk, f, n, st, L, T, v, k, w, by simp only; omega⟩⟩
    · rw [if_neg hl]
      have hm : numOf x = (N0 + ((a + x.s : Nat) : Int)) % 256 := by unfold numOf; rw [f]; omega
      by_cases he : t = a + x.s
      · have hp : plainS x.b (numOf x) = (⟨(x.b.n + 1) % 256, x.b.v, x.b.L, false, x.b.T, x.b.k + 1⟩, 1) := by
          unfold plainS
          rw [if_neg (by rw [L]; simp), if_pos (by rw [hm, n, he]), if_neg (by rw [T]; simp)]
        rw [hp]
        simp only
        rw [if_neg (by rw [k]; omega)]
        refine ⟨rfl, t + 1, ⟨q, by omega, by simp only; omega, by simp only; omega, ?_, f, ?_, st, L, T, v, by simp only; rw [k]; omega, w, by simp only; omega⟩⟩
        · simp only [if_true]
          have hlt : t < Q0.length := by omega
          have hb : bodyOf x = Q0[t] := by
            unfold bodyOf
            subst he
            rw [q]
            simp [List.getD, show a + x.s < Q0.length by omega]
          rw [tk, hb, List.take_succ_eq_append_getElem hlt]
        · simp only
          rw [n]
          omega
      · have ha : aft (numOf x) x.b.n = ((a + x.s - t : Nat) : Int) := by
          unfold aft
          rw [hm, n]
          omega
        have hp : plainS x.b (numOf x) = (⟨x.b.n, x.b.v, x.b.L, true, x.b.T, x.b.k⟩, 2) := by
          unfold plainS
          rw [if_neg (by rw [L]; simp), if_neg (by rw [hm, n]; omega), if_pos (by rw [ha, v]; omega)]
        rw [hp]
        simp only
        rw [if_neg (by rw [k]; omega)]
        exact ⟨rfl, t, ⟨q, at', by simp only; omega, by simp only; omega, by simpa using tk, f, n, st, L, T, v, k, w, by simp only; omega⟩⟩
theorem inv_rest {N0 W wd : Int} {Q0 : List (List UInt8)} {x : LS} {a t : Nat} (hw : wd ≤ 127) (h : Inv N0 W Q0 wd x a t) (b : Bt) (hb : b.room = 0) : ∃ a', Inv N0 W Q0 wd (restS x b) a' t := by
  obtain ⟨q, at', ts, aq, tk, f, n, st, L, T, v, k, w, sw⟩ := h
  have hr : roomS x.b b.room = x.b := by rw [hb]; rfl
  unfold restS
  rw [hr]
  split
  · have ha : aft x.b.n x.f = ((t - a : Nat) : Int) := by
      unfold aft
      rw [n, f]
      omega
    have hh : hearS ⟨x.f, x.s, x.q, x.wd, x.st⟩ x.b.n = ⟨x.b.n, (x.s : Int) - ((t - a : Nat) : Int), x.q.drop (t - a), x.wd, x.st⟩ := by
      unfold hearS
      simp only
      rw [ha, if_pos (by omega), Int.toNat_natCast]
    have hq2 : x.q.drop (t - a) = Q0.drop t := by rw [q, List.drop_drop]; congr 1; omega
    have h2 : heardS ⟨x.f, x.s, x.q, x.wd, x.st⟩ x.b.n x.b.L x.b.R = if x.b.R then ⟨x.b.n, 0, Q0.drop t, x.wd, x.st⟩ else ⟨x.b.n, (x.s : Int) - ((t - a : Nat) : Int), Q0.drop t, x.wd, x.st⟩ := by
      unfold heardS
      rw [L, hh, hq2]
      cases x.b.R <;> rfl
    unfold repS
    simp only
    rw [h2]
    cases hR : x.b.R
    · simp only [Bool.false_eq_true, if_false]
      refine ⟨t, ⟨rfl, Nat.le_refl _, by simp only; omega, by simp only; omega, tk, n, n, st, L, T, v, k, w, by simp only; omega⟩⟩
    · simp only [if_true]
      refine ⟨t, ⟨rfl, Nat.le_refl _, by simp only; omega, by simp only; omega, tk, n, n, st, L, T, v, k, w, by simp only; omega⟩⟩
  · exact ⟨a, ⟨q, at', ts, aq, tk, f, n, st, L, T, v, k, w, sw⟩⟩
theorem inv_run {N0 W wd : Int} {Q0 : List (List UInt8)} (hW : wd < W / 2) (hw : wd ≤ 127) (hQ : Q0.length ≤ 60) : ∀ (l : List Bt) (x : LS) (a t : Nat), (∀ b ∈ l, b.room = 0) → Inv N0 W Q0 wd x a t →
    (runS x l).2 = 0 ∧ ∃ a' t', Inv N0 W Q0 wd (runS x l).1 a' t'
  | [], x, a, t, _, h => ⟨rfl, a, t, h⟩
  | b :: l, x, a, t, hl, h => by
    have hb := hl b (by simp)
    have hbt : (beatS x b).2 = 0 ∧ ∃ a' t', Inv N0 W Q0 wd (beatS x b).1 a' t' := by
      unfold beatS
      split
      · obtain ⟨h0, t', h1⟩ := inv_send hW hQ h b.lost
        rw [if_neg (by simpa using h0)]
        obtain ⟨a', h2⟩ := inv_rest hw h1 b hb
        exact ⟨rfl, a', t', h2⟩
      · obtain ⟨a', h2⟩ := inv_rest hw h b hb
        exact ⟨rfl, a', t, h2⟩
    obtain ⟨h0, a', t', h1⟩ := hbt
    unfold runS
    rw [if_neg (by simpa using h0)]
    exact inv_run hW hw hQ l _ a' t' (fun c hc => hl c (by simp [hc])) h1
end Go.Proofs.Yteikggieekhfkaa
