/- both sides together, beat by beat. -/
import Derived.Test.YteikggieekhfkaaHrdMath
namespace Go.Proofs.Yteikggieekhfkaa
open Go.RowKit

structure Bt where
  send : Bool
  lost : Bool
  rep : Bool
  deaf : Bool
  room : Int
/-- both sides, and what was taken -/
structure LS where
  b : Upl
  f : Int
  s : Nat
  q : List (List UInt8)
  wd : Int
  st : Bool
  tk : List (List UInt8)
/-- nothing is to be sent -/
def noNext (x : LS) : Prop := x.st = true ∨ x.s = x.q.length ∨ (x.s : Int) = x.wd
instance (x : LS) : Decidable (noNext x) := by unfold noNext; infer_instance
def numOf (x : LS) : Int := (x.f + (x.s : Int)) % 256
def bodyOf (x : LS) : List UInt8 := x.q.getD x.s []
/-- a beat's sending: both sides, and the fault -/
def sendS (x : LS) (lost : Bool) : LS × Int :=
  if noNext x then (x, 0)
  else if lost = true then (⟨x.b, x.f, x.s + 1, x.q, x.wd, x.st, x.tk⟩, 0)
  else if 1000000 < (plainS x.b (numOf x)).1.k then (⟨x.b, x.f, x.s + 1, x.q, x.wd, x.st, x.tk⟩, 16)
  else (⟨(plainS x.b (numOf x)).1, x.f, x.s + 1, x.q, x.wd, x.st, if (plainS x.b (numOf x)).2 = 1 then x.tk ++ [bodyOf x] else x.tk⟩, 0)
def roomS (b : Upl) (r : Int) : Upl := if r = 1 then ⟨b.n, b.v, b.L, b.R, false, b.k⟩ else if r = 2 then ⟨b.n, b.v, b.L, b.R, true, b.k⟩ else b
def repS (x : LS) : LS :=
  ⟨x.b, (heardS ⟨x.f, x.s, x.q, x.wd, x.st⟩ x.b.n x.b.L x.b.R).f, (heardS ⟨x.f, x.s, x.q, x.wd, x.st⟩ x.b.n x.b.L x.b.R).s.toNat, (heardS ⟨x.f, x.s, x.q, x.wd, x.st⟩ x.b.n x.b.L x.b.R).q, (heardS ⟨x.f, x.s, x.q, x.wd, x.st⟩ x.b.n x.b.L x.b.R).wd, (heardS ⟨x.f, x.s, x.q, x.wd, x.st⟩ x.b.n x.b.L x.b.R).st, x.tk⟩
/-- behind the sending -/
def restS (x : LS) (t : Bt) : LS :=
  if t.rep = true ∧ t.deaf = false then repS ⟨roomS x.b t.room, x.f, x.s, x.q, x.wd, x.st, x.tk⟩ else ⟨roomS x.b t.room, x.f, x.s, x.q, x.wd, x.st, x.tk⟩
def beatS (x : LS) (t : Bt) : LS × Int :=
  if t.send = true then (if (sendS x t.lost).2 ≠ 0 then sendS x t.lost else (restS (sendS x t.lost).1 t, 0)) else (restS x t, 0)
def runS : LS → List Bt → LS × Int
  | x, [] => (x, 0)
  | x, t :: l => if (beatS x t).2 ≠ 0 then beatS x t else runS (beatS x t).1 l
/-- what stays true of both sides -/
structure LOk (x : LS) : Prop where
  b : BrdOk x.b.n x.b.v x.b.k
  g : GndOk x.f x.s x.q x.wd
theorem plain_ok {b : Upl} {m : Int} (h : BrdOk b.n b.v b.k) (hk : ¬ 1000000 < (plainS b m).1.k) : BrdOk (plainS b m).1.n (plainS b m).1.v (plainS b m).1.k := by
  obtain ⟨n0, n1, v0, v1, ev, k0, k1⟩ := h
  unfold plainS at hk ⊢
  split
  · exact ⟨n0, n1, v0, v1, ev, k0, k1⟩
  · rename_i h1
    rw [if_neg h1] at hk
    split
    · rename_i h2
      rw [if_pos h2] at hk
      split
      · exact ⟨n0, n1, v0, v1, ev, k0, k1⟩
      · rename_i h3
        rw [if_neg h3] at hk
        exact ⟨by simp; omega, by simp; omega, v0, v1, ev, by simp; omega, by simp at hk ⊢; omega⟩
    · split
      · exact ⟨n0, n1, v0, v1, ev, k0, k1⟩
      · split
        · exact ⟨n0, n1, v0, v1, ev, k0, k1⟩
        · exact ⟨n0, n1, v0, v1, ev, k0, k1⟩
theorem num_bd (x : LS) : 0 ≤ numOf x ∧ numOf x ≤ 255 := by unfold numOf; omega
theorem send_ok {x : LS} {lost : Bool} (h : LOk x) (hf : (sendS x lost).2 = 0) : LOk (sendS x lost).1 := by
  obtain ⟨hb, hg⟩ := h
  obtain ⟨f0, f1, w0, w1, few, bod, s0, s1, s2⟩ := hg
  unfold sendS at hf ⊢
  by_cases hn : noNext x
  · rw [if_pos hn]; exact ⟨hb, ⟨f0, f1, w0, w1, few, bod, s0, s1, s2⟩⟩
  · rw [if_neg hn] at hf ⊢
    have hs : x.s ≠ x.q.length ∧ (x.s : Int) ≠ x.wd := by
      unfold noNext at hn
      simp only [not_or] at hn
      exact ⟨hn.2.1, hn.2.2⟩
    have hg' : GndOk x.f ((x.s + 1 : Nat) : Int) x.q x.wd := ⟨f0, f1, w0, w1, few, bod, by omega, by omega, by omega⟩
    split
    · exact ⟨hb, hg'⟩
    · rename_i hl
      rw [if_neg hl] at hf
      split
      · rename_i hk
        rw [if_pos hk] at hf
        simp at hf
      · rename_i hk
        exact ⟨plain_ok hb hk, hg'⟩
theorem room_ok {b : Upl} {r : Int} (h : BrdOk b.n b.v b.k) : BrdOk (roomS b r).n (roomS b r).v (roomS b r).k := by
  obtain ⟨n0, n1, v0, v1, ev, k0, k1⟩ := h
  unfold roomS
  split
  · exact ⟨n0, n1, v0, v1, ev, k0, k1⟩
  · split <;> exact ⟨n0, n1, v0, v1, ev, k0, k1⟩
theorem heard_ok {f s : Int} {q : List (List UInt8)} {wd : Int} {st : Bool} {n : Int} {L R : Bool} (h : GndOk f s q wd) (hn0 : 0 ≤ n) (hn1 : n ≤ 255) :
    GndOk (heardS ⟨f, s, q, wd, st⟩ n L R).f (heardS ⟨f, s, q, wd, st⟩ n L R).s (heardS ⟨f, s, q, wd, st⟩ n L R).q (heardS ⟨f, s, q, wd, st⟩ n L R).wd := by
  obtain ⟨f0, f1, w0, w1, few, bod, s0, s1, s2⟩ := h
  have ha : 0 ≤ aft n f ∧ aft n f ≤ 255 := by unfold aft; omega
  have hh : GndOk (hearS ⟨f, s, q, wd, st⟩ n).f (hearS ⟨f, s, q, wd, st⟩ n).s (hearS ⟨f, s, q, wd, st⟩ n).q (hearS ⟨f, s, q, wd, st⟩ n).wd := by
    unfold hearS
    split
    · rename_i hle
      simp only at hle
      refine ⟨hn0, hn1, w0, w1, by simp; omega, fun x hx => bod x (List.mem_of_mem_drop hx), by simp; omega, by simp; omega, ?_⟩
      simp only [List.length_drop]
      omega
    · exact ⟨f0, f1, w0, w1, few, bod, s0, s1, s2⟩
  unfold heardS
  cases L
  · cases R
    · exact hh
    · obtain ⟨f0, f1, w0, w1, few, bod, s0, s1, s2⟩ := hh
      exact ⟨f0, f1, w0, w1, few, bod, by simp, by simp; omega, by simp⟩
  · exact ⟨f0, f1, w0, w1, few, bod, s0, s1, s2⟩
theorem rest_ok {x : LS} {t : Bt} (h : LOk x) : LOk (restS x t) := by
  obtain ⟨hb, hg⟩ := h
  have hb' := room_ok (r := t.room) hb
  unfold restS
  split
  · refine ⟨hb', ?_⟩
    have hh := heard_ok (st := x.st) (L := (roomS x.b t.room).L) (R := (roomS x.b t.room).R) hg hb'.n0 hb'.n1
    unfold repS
    simp only
    have h0 := hh.s0
    rw [show (((heardS ⟨x.f, x.s, x.q, x.wd, x.st⟩ (roomS x.b t.room).n (roomS x.b t.room).L (roomS x.b t.room).R).s.toNat : Nat) : Int) = (heardS ⟨x.f, x.s, x.q, x.wd, x.st⟩ (roomS x.b t.room).n (roomS x.b t.room).L (roomS x.b t.room).R).s from Int.toNat_of_nonneg h0]
    exact hh
  · exact ⟨hb', hg⟩
theorem beat_ok {x : LS} {t : Bt} (h : LOk x) (hf : (beatS x t).2 = 0) : LOk (beatS x t).1 := by
  unfold beatS at hf ⊢
  by_cases hs : t.send = true
  · rw [if_pos hs] at hf ⊢
    by_cases h0 : (sendS x t.lost).2 = 0
    · rw [if_neg (by simpa using h0)]
      exact rest_ok (send_ok h h0)
    · rw [if_pos h0] at hf
      exact absurd hf h0
  · rw [if_neg hs]
    exact rest_ok h
end Go.Proofs.Yteikggieekhfkaa
