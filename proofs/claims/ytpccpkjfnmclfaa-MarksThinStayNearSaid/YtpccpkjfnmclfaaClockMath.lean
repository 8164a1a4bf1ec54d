/- plain mathematics of clocks and windows. -/
import Derived.Test.YtpccpkjfnmclfaaMarkMath
namespace Go.Proofs.Ytpccpkjfnmclfaa

def ckC (s f : Int) : Int := if s < 1 ∨ 1000000 < s ∨ f < 1 ∨ 1000000 < f then 1 else if f < s then 8 else 0
/-- from when to when the time at a tick can be by one mark -/
def reachF (s f : Int) (x : Mk) (n : Int) : Int × Int :=
  if 0 ≤ n - x.t then (x.z - x.o + (n - x.t) * s / 1000000, x.z + x.o + ((n - x.t) * f + 999999) / 1000000)
  else (x.z - x.o - ((x.t - n) * f + 999999) / 1000000, x.z + x.o - (x.t - n) * s / 1000000)
/-- a product within its bounds -/
theorem mul_bd {d s : Int} (hd : 0 ≤ d ∧ d ≤ 1000000000000) (hs : 1 ≤ s ∧ s ≤ 1000000) : 0 ≤ d * s ∧ d * s ≤ 1000000000000000000 := by
  obtain ⟨h1, h2⟩ := hd
  obtain ⟨h3, h4⟩ := hs
  refine ⟨Int.mul_nonneg h1 (by omega), ?_⟩
  calc d * s ≤ 1000000000000 * 1000000 := Int.mul_le_mul h2 h4 (by omega) (by omega)
    _ = 1000000000000000000 := by omega
theorem ckC_ok {s f : Int} (h : ckC s f = 0) : (1 ≤ s ∧ s ≤ 1000000) ∧ (1 ≤ f ∧ f ≤ 1000000) ∧ s ≤ f := by
  unfold ckC at h
  split at h
  · simp at h
  split at h
  · simp at h
  omega
theorem reach_bd {s f : Int} {x : Mk} {n : Int} (hs : 1 ≤ s ∧ s ≤ 1000000) (hf : 1 ≤ f ∧ f ≤ 1000000) (hx : x.ok) (hn : 0 ≤ n ∧ n ≤ 1000000000000) :
    (-3000000000000 ≤ (reachF s f x n).1 ∧ (reachF s f x n).1 ≤ 3000000000000) ∧ (-3000000000000 ≤ (reachF s f x n).2 ∧ (reachF s f x n).2 ≤ 3000000000000) := by
  obtain ⟨⟨x1, x2⟩, ⟨x3, x4⟩, ⟨x5, x6⟩⟩ := hx
  unfold reachF
  split
  · have a := mul_bd (d := n - x.t) (by omega) hs
    have b := mul_bd (d := n - x.t) (by omega) hf
    simp only
    omega
  · have a := mul_bd (d := x.t - n) (by omega) hs
    have b := mul_bd (d := x.t - n) (by omega) hf
    simp only
    omega
/-- both checks -/
def ckB (s f : Int) (l : List Mk) : Int := if ckC s f = 0 then ckM l else ckC s f
theorem ckB_ok {s f : Int} {l : List Mk} (h : ckB s f l = 0) : ckC s f = 0 ∧ ckM l = 0 := by
  unfold ckB at h
  split at h
  · exact ⟨by assumption, h⟩
  · omega
def lo64 : Int := -9223372036854775808
def hi64 : Int := 9223372036854775807
/-- the window by marks, from x and y on -/
def winL (s f n : Int) : List Mk → Int → Int → Int × Int
  | [], x, y => (x, y)
  | m :: l, x, y => winL s f n l (max x (reachF s f m n).1) (min y (reachF s f m n).2)
theorem winL_one (s f n : Int) (l : List Mk) (k : Nat) (h : k < l.length) (x y : Int) :
    winL s f n (l.drop k) x y = winL s f n (l.drop (k + 1)) (max x (reachF s f l[k] n).1) (min y (reachF s f l[k] n).2) := by
  rw [mdrop_one l k h]; rfl
theorem winL_first (s f n : Int) (m : Mk) (l : List Mk) (h : (-3000000000000 ≤ (reachF s f m n).1 ∧ (reachF s f m n).1 ≤ 3000000000000) ∧ (-3000000000000 ≤ (reachF s f m n).2 ∧ (reachF s f m n).2 ≤ 3000000000000)) :
    winL s f n (m :: l) (reachF s f m n).1 (reachF s f m n).2 = winL s f n (m :: l) lo64 hi64 := by
  obtain ⟨⟨a, b⟩, ⟨c, d⟩⟩ := h
  show winL s f n l (max _ _) (min _ _) = winL s f n l (max _ _) (min _ _)
  have e1 : max (reachF s f m n).1 (reachF s f m n).1 = max lo64 (reachF s f m n).1 := by unfold lo64; omega
  have e2 : min (reachF s f m n).2 (reachF s f m n).2 = min hi64 (reachF s f m n).2 := by unfold hi64; omega
  rw [e1, e2]
/-- what Window says -/
def windowS (s f : Int) (l : List Mk) (n : Int) : Int × Int × Int :=
  if ckB s f l ≠ 0 then (0, 0, ckB s f l)
  else if n < 0 ∨ 1000000000000 < n then (0, 0, 1)
  else if (winL s f n l lo64 hi64).2 < (winL s f n l lo64 hi64).1 then (0, 0, 12)
  else ((winL s f n l lo64 hi64).1, (winL s f n l lo64 hi64).2, 0)
/-- another mark y contradicts the mark x -/
def badP (s f : Int) (x y : Mk) : Bool := decide ((reachF s f y x.t).2 < x.z - x.o ∨ x.z + x.o < (reachF s f y x.t).1)
def conB (s f : Int) (l : List Mk) (x : Mk) : Bool := l.any (badP s f x)
theorem badP_self (s f : Int) (x : Mk) (hs : 1 ≤ s ∧ s ≤ 1000000) (h : x.ok) : badP s f x x = false := by
  obtain ⟨⟨x1, x2⟩, ⟨x3, x4⟩, ⟨x5, x6⟩⟩ := h
  unfold badP reachF
  rw [if_pos (by omega)]
  simp
  omega
theorem any_take_one (p : Mk → Bool) (l : List Mk) (k : Nat) (h : k < l.length) : (l.take (k + 1)).any p = ((l.take k).any p || p l[k]) := by
  rw [List.take_succ_eq_append_getElem h, List.any_append]
  simp
theorem any_hit (p : Mk → Bool) (l : List Mk) (k : Nat) (h : k < l.length) (hp : p l[k] = true) : l.any p = true := List.any_eq_true.2 ⟨_, List.getElem_mem h, hp⟩
/-- some mark contradicts the mark at i -/
def clashAt (s f : Int) (l : List Mk) (i : Nat) : Bool := match l[i]? with
  | some x => conB s f l x
  | none => false
theorem clashAt_get (s f : Int) (l : List Mk) (i : Nat) (h : i < l.length) : clashAt s f l i = conB s f l l[i] := by
  unfold clashAt
  rw [List.getElem?_eq_getElem h]
/-- the numbers below k of marks that some mark contradicts -/
def clashTo (s f : Int) (l : List Mk) : Nat → List Int
  | 0 => []
  | k + 1 => if clashAt s f l k then clashTo s f l k ++ [(k : Int)] else clashTo s f l k
theorem clashTo_len (s f : Int) (l : List Mk) : ∀ k, (clashTo s f l k).length ≤ k
  | 0 => Nat.le_refl _
  | k + 1 => by
    have := clashTo_len s f l k
    unfold clashTo
    split
    · simp; omega
    · omega
theorem clashTo_zero (s f : Int) (l : List Mk) : clashTo s f l 0 = [] := rfl
theorem clashTo_yes (s f : Int) (l : List Mk) (k : Nat) (h : clashAt s f l k = true) : clashTo s f l (k + 1) = clashTo s f l k ++ [(k : Int)] := by
  show (if _ then _ else _) = _
  rw [if_pos h]
theorem clashTo_no (s f : Int) (l : List Mk) (k : Nat) (h : clashAt s f l k = false) : clashTo s f l (k + 1) = clashTo s f l k := by
  show (if _ then _ else _) = _
  rw [if_neg (by simp [h])]
/-- what Clashes says -/
def clashesS (s f : Int) (l : List Mk) : List Int × Int := if ckB s f l ≠ 0 then ([], ckB s f l) else (clashTo s f l l.length, 0)
end Go.Proofs.Ytpccpkjfnmclfaa
