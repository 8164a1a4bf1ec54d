/- plain mathematics of limits and samples: what their checks say; the least and the greatest of numbers. -/
import Derived.Test.YtldfommfaegdiaaNameMath
import GoSem.Op.String
namespace Go.Proofs.Ytldfommfaegdiaa

/-- a string is at most another one, byte by byte -/
def leN (a b : ByteArray) : Bool := Op.bytesLess a.toList b.toList || a.toList == b.toList
theorem less_tri : ∀ (a b : List UInt8), (!Op.bytesLess a b) = (Op.bytesLess b a || b == a)
  | [], [] => rfl
  | [], _ :: _ => rfl
  | _ :: _, [] => rfl
  | x :: xs, y :: ys => by
    have ih := less_tri xs ys
    unfold Op.bytesLess
    by_cases h1 : x < y
    · have h2 : ¬ y < x := by rw [UInt8.lt_iff_toNat_lt] at *; omega
      have h3 : ¬ y = x := by intro e; subst e; rw [UInt8.lt_iff_toNat_lt] at h1; omega
      simp [h1, h2, h3]
    · by_cases h3 : x = y
      · subst h3
        simp [h1]
        simpa using ih
      · have h2 : y < x := by
          rw [UInt8.lt_iff_toNat_lt] at *
          have : x.toNat ≠ y.toNat := fun e => h3 (UInt8.toNat_inj.1 e)
          omega
        simp [h1, h2, h3]
/-- a list whose elements are looked at one behind the other: each one's own fault, then its order -/
def chkG {α : Type} (f : α → Int) (bad : α → α → Bool) : Option α → List α → Int
  | _, [] => 0
  | none, x :: xs => if f x ≠ 0 then f x else chkG f bad (some x) xs
  | some q, x :: xs => if f x ≠ 0 then f x else if bad q x = true then 8 else chkG f bad (some x) xs
def prevO {α : Type} (l : List α) (k : Nat) : Option α := if k = 0 then none else l[k - 1]?
theorem prevO_next {α : Type} (l : List α) (k : Nat) (hk : k < l.length) : prevO l (k + 1) = some l[k] := by
  unfold prevO
  rw [if_neg (by omega), Nat.add_sub_cancel, List.getElem?_eq_getElem hk]
theorem chk_own {α : Type} (f : α → Int) (bad : α → α → Bool) (l : List α) (k : Nat) (hk : k < l.length) (h : f l[k] ≠ 0) : chkG f bad (prevO l k) (l.drop k) = f l[k] := by
  rw [List.drop_eq_getElem_cons hk]
  cases prevO l k <;> (unfold chkG; rw [if_pos h])
theorem chk_zero {α : Type} (f : α → Int) (bad : α → α → Bool) (l : List α) (hk : 0 < l.length) (h : f l[0] = 0) : chkG f bad (prevO l 0) (l.drop 0) = chkG f bad (prevO l 1) (l.drop 1) := by
  rw [List.drop_eq_getElem_cons hk, prevO_next l 0 hk]
  show chkG f bad none _ = _
  conv => lhs; unfold chkG
  rw [if_neg (by rw [h]; simp)]
theorem chk_bad {α : Type} (f : α → Int) (bad : α → α → Bool) (l : List α) (k : Nat) (hk : k + 1 < l.length) (h : f l[k + 1] = 0) (hb : bad l[k] l[k + 1] = true) : chkG f bad (prevO l (k + 1)) (l.drop (k + 1)) = 8 := by
  rw [List.drop_eq_getElem_cons hk, prevO_next l k (by omega)]
  unfold chkG
  rw [if_neg (by rw [h]; simp), if_pos hb]
theorem chk_good {α : Type} (f : α → Int) (bad : α → α → Bool) (l : List α) (k : Nat) (hk : k + 1 < l.length) (h : f l[k + 1] = 0) (hb : bad l[k] l[k + 1] = false) : chkG f bad (prevO l (k + 1)) (l.drop (k + 1)) = chkG f bad (prevO l (k + 2)) (l.drop (k + 2)) := by
  rw [List.drop_eq_getElem_cons hk, prevO_next l k (by omega), prevO_next l (k + 1) hk]
  conv => lhs; unfold chkG
  rw [if_neg (by rw [h]; simp), if_neg (by rw [hb]; simp)]
theorem chk_end {α : Type} (f : α → Int) (bad : α → α → Bool) (l : List α) : chkG f bad (prevO l l.length) (l.drop l.length) = 0 := by
  rw [List.drop_length]
  cases prevO l l.length <;> rfl
/-- a limit -/
structure Lim where
  p : ByteArray
  ll : Int
  lo : Int
  hi : Int
  hh : Int
  ct : Int
  cl : Int
  bk : Int
instance : Inhabited Lim := ⟨⟨.empty, 0, 0, 0, 0, 0, 0, 0⟩⟩
/-- a sample -/
structure Sam where
  t : Int
  p : ByteArray
  v : Int
instance : Inhabited Sam := ⟨⟨0, .empty, 0⟩⟩
def valD (n : Int) : Bool := decide (-1000000000 ≤ n ∧ n ≤ 1000000000)
def Lim.vals (x : Lim) : Bool := (valD x.ll && valD x.lo) && (valD x.hi && valD x.hh)
def Lim.ord (x : Lim) : Bool := decide (x.ll ≤ x.lo ∧ x.lo ≤ x.hi ∧ x.hi ≤ x.hh)
def Lim.cnt (x : Lim) : Bool := (decide (1 ≤ x.ct ∧ x.ct ≤ 100) && decide (1 ≤ x.cl ∧ x.cl ≤ 100)) && decide (0 ≤ x.bk ∧ x.bk ≤ 1000000000)
/-- what the check of one limit says -/
def limF (x : Lim) : Int := if isN x.p.data.toList = false then 5 else if x.vals = false then 1 else if x.ord = false then 8 else if x.cnt = false then 1 else 0
def limsF (l : List Lim) : Int := if 200 < l.length then 2 else chkG limF (fun q x => leN x.p q.p) none l
def samF (x : Sam) : Int := if decide (0 ≤ x.t ∧ x.t ≤ 1000000000000) = false then 1 else if isN x.p.data.toList = false then 5 else if valD x.v = false then 1 else 0
def samBad (q x : Sam) : Bool := decide (x.t < q.t) || (x.t == q.t && leN x.p q.p)
def samsF (l : List Sam) : Int := if 5000 < l.length then 2 else chkG samF samBad none l
/-- the state of a value by itself -/
def stS (x : Lim) (v : Int) : Int := if decide (x.ll ≤ v ∧ v ≤ x.hh) = false then 2 else if decide (x.lo ≤ v ∧ v ≤ x.hi) = false then 1 else 0
def sofF (x : Lim) (v : Int) : Int := if limF x ≠ 0 then limF x else if valD v = false then 1 else 0
def sofR (x : Lim) (v : Int) : Int := if sofF x v = 0 then stS x v else 0
theorem stS_in (x : Lim) (v : Int) : 0 ≤ stS x v ∧ stS x v ≤ 2 := by unfold stS; split <;> (try split) <;> omega
/-- the least and the greatest number of a list -/
def minL : List Int → Int
  | [] => 0
  | a :: r => r.foldl min a
def maxL : List Int → Int
  | [] => 0
  | a :: r => r.foldl max a
theorem minL_snoc (l : List Int) (k : Nat) (h1 : 1 ≤ k) (hk : k < l.length) : minL (l.take (k + 1)) = min (minL (l.take k)) l[k] := by
  match l, hk with
  | a :: r, hk =>
    obtain ⟨j, rfl⟩ : ∃ j, k = j + 1 := ⟨k - 1, by omega⟩
    have hj : j < r.length := by simpa using hk
    show (r.take (j + 1)).foldl min a = min ((r.take j).foldl min a) r[j]
    rw [List.take_succ_eq_append_getElem hj, List.foldl_append]
    rfl
theorem maxL_snoc (l : List Int) (k : Nat) (h1 : 1 ≤ k) (hk : k < l.length) : maxL (l.take (k + 1)) = max (maxL (l.take k)) l[k] := by
  match l, hk with
  | a :: r, hk =>
    obtain ⟨j, rfl⟩ : ∃ j, k = j + 1 := ⟨k - 1, by omega⟩
    have hj : j < r.length := by simpa using hk
    show (r.take (j + 1)).foldl max a = max ((r.take j).foldl max a) r[j]
    rw [List.take_succ_eq_append_getElem hj, List.foldl_append]
    rfl
theorem minL_one (l : List Int) (h : 0 < l.length) : minL (l.take 1) = l[0] := by
  match l, h with
  | a :: r, _ => rfl
theorem maxL_one (l : List Int) (h : 0 < l.length) : maxL (l.take 1) = l[0] := by
  match l, h with
  | a :: r, _ => rfl
end Go.Proofs.Ytldfommfaegdiaa
