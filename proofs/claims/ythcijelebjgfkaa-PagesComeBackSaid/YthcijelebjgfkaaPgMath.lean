/- pages: what is wrong with one, its bytes, what bytes say: plain mathematics. -/
import Derived.Test.YthcijelebjgfkaaBigApp
import Derived.Test.YthcijelebjgfkaaBigNum
import Derived.Test.YthcijelebjgfkaaSum
import Derived.Test.YthcijelebjgfkaaBytesEq
namespace Go.Proofs.Ythcijelebjgfkaa

/-- what a page says -/
structure Pg where
  gen : Int
  gone : Bool
  name : ByteArray
  ix : Int
  last : Bool
  bytes : List UInt8
def Pg.zero : Pg := ⟨0, false, ⟨#[]⟩, 0, false, []⟩
def okC (c : UInt8) : Bool := decide (33 ≤ c.toNat ∧ c.toNat ≤ 126)
def nmB (l : List UInt8) : Bool := decide (1 ≤ l.length ∧ l.length ≤ 32) && l.all okC
theorem nmB_len {l : List UInt8} (h : nmB l = true) : 1 ≤ l.length ∧ l.length ≤ 32 := by
  unfold nmB at h
  simp at h
  omega
theorem nmB_no {l : List UInt8} (h : ¬ (1 ≤ l.length ∧ l.length ≤ 32)) : nmB l = false := by unfold nmB; rw [decide_eq_false h]; rfl
theorem nmB_bad {l : List UInt8} (k : Nat) (hk : k < l.length) (h : okC l[k] = false) : nmB l = false := by
  unfold nmB
  have : l.all okC = false := by
    rw [Bool.eq_false_iff]
    intro ha
    have := List.all_eq_true.1 ha _ (List.getElem_mem hk)
    rw [h] at this
    cases this
  rw [this]; simp
theorem nmB_yes {l : List UInt8} (h1 : 1 ≤ l.length) (h2 : l.length ≤ 32) (h : ∀ k (hk : k < l.length), okC l[k] = true) : nmB l = true := by
  unfold nmB
  rw [decide_eq_true ⟨h1, h2⟩, Bool.true_and, List.all_eq_true]
  intro c hc
  obtain ⟨k, hk, rfl⟩ := List.getElem_of_mem hc
  exact h k hk
def goneB (x : Pg) : Bool := x.gone && (decide (0 < x.bytes.length) || (!(x.ix == 0) || !x.last))
/-- what is wrong with a page -/
def encF (ps : Int) (x : Pg) : Int :=
  if 64 ≤ ps ∧ ps ≤ 1024 then
    (if 1 ≤ x.gen ∧ x.gen ≤ 4000000000 then
      (if nmB x.name.data.toList = true then
        (if 0 ≤ x.ix ∧ x.ix ≤ 65535 then
          (if ps - 15 - (x.name.size : Int) < (x.bytes.length : Int) then 2 else if goneB x = true then 3 else 0)
        else 1)
      else 5)
    else 1)
  else 1
structure PgOk (ps : Int) (x : Pg) : Prop where
  hp : 64 ≤ ps ∧ ps ≤ 1024
  hg : 1 ≤ x.gen ∧ x.gen ≤ 4000000000
  hn : nmB x.name.data.toList = true
  hi : 0 ≤ x.ix ∧ x.ix ≤ 65535
  hl : (x.bytes.length : Int) ≤ ps - 15 - (x.name.size : Int)
  ho : goneB x = false
theorem enc_ok {ps : Int} {x : Pg} (h : encF ps x = 0) : PgOk ps x := by
  unfold encF at h
  by_cases h1 : 64 ≤ ps ∧ ps ≤ 1024
  · rw [if_pos h1] at h
    by_cases h2 : 1 ≤ x.gen ∧ x.gen ≤ 4000000000
    · rw [if_pos h2] at h
      by_cases h3 : nmB x.name.data.toList = true
      · rw [if_pos h3] at h
        by_cases h4 : 0 ≤ x.ix ∧ x.ix ≤ 65535
        · rw [if_pos h4] at h
          by_cases h5 : ps - 15 - (x.name.size : Int) < (x.bytes.length : Int)
          · rw [if_pos h5] at h; omega
          · rw [if_neg h5] at h
            by_cases h6 : goneB x = true
            · rw [if_pos h6] at h; omega
            · exact ⟨h1, h2, h3, h4, by omega, by simpa using h6⟩
        · rw [if_neg h4] at h; omega
      · rw [if_neg h3] at h; omega
    · rw [if_neg h2] at h; omega
  · rw [if_neg h1] at h; omega
theorem PgOk.enc {ps : Int} {x : Pg} (h : PgOk ps x) : encF ps x = 0 := by
  unfold encF
  rw [if_pos h.hp, if_pos h.hg, if_pos h.hn, if_pos h.hi, if_neg (by have := h.hl; omega), if_neg (by rw [h.ho]; simp)]
theorem enc_cases (ps : Int) (x : Pg) : (¬ (64 ≤ ps ∧ ps ≤ 1024) ∧ encF ps x = 1) ∨ ((64 ≤ ps ∧ ps ≤ 1024) ∧ ¬ (1 ≤ x.gen ∧ x.gen ≤ 4000000000) ∧ encF ps x = 1) ∨
    ((64 ≤ ps ∧ ps ≤ 1024) ∧ (1 ≤ x.gen ∧ x.gen ≤ 4000000000) ∧ nmB x.name.data.toList = false ∧ encF ps x = 5) ∨
    ((64 ≤ ps ∧ ps ≤ 1024) ∧ (1 ≤ x.gen ∧ x.gen ≤ 4000000000) ∧ nmB x.name.data.toList = true ∧ ¬ (0 ≤ x.ix ∧ x.ix ≤ 65535) ∧ encF ps x = 1) ∨
    ((64 ≤ ps ∧ ps ≤ 1024) ∧ (1 ≤ x.gen ∧ x.gen ≤ 4000000000) ∧ nmB x.name.data.toList = true ∧ (0 ≤ x.ix ∧ x.ix ≤ 65535) ∧ ps - 15 - (x.name.size : Int) < (x.bytes.length : Int) ∧ encF ps x = 2) ∨
    ((64 ≤ ps ∧ ps ≤ 1024) ∧ (1 ≤ x.gen ∧ x.gen ≤ 4000000000) ∧ nmB x.name.data.toList = true ∧ (0 ≤ x.ix ∧ x.ix ≤ 65535) ∧ (x.bytes.length : Int) ≤ ps - 15 - (x.name.size : Int) ∧ goneB x = true ∧ encF ps x = 3) ∨
    (PgOk ps x ∧ encF ps x = 0) := by
  unfold encF
  by_cases h1 : 64 ≤ ps ∧ ps ≤ 1024
  · rw [if_pos h1]
    by_cases h2 : 1 ≤ x.gen ∧ x.gen ≤ 4000000000
    · rw [if_pos h2]
      by_cases h3 : nmB x.name.data.toList = true
      · rw [if_pos h3]
        by_cases h4 : 0 ≤ x.ix ∧ x.ix ≤ 65535
        · rw [if_pos h4]
          by_cases h5 : ps - 15 - (x.name.size : Int) < (x.bytes.length : Int)
          · rw [if_pos h5]; exact .inr (.inr (.inr (.inr (.inl ⟨h1, h2, h3, h4, h5, rfl⟩))))
          · rw [if_neg h5]
            by_cases h6 : goneB x = true
            · rw [if_pos h6]; exact .inr (.inr (.inr (.inr (.inr (.inl ⟨h1, h2, h3, h4, by omega, h6, rfl⟩)))))
            · rw [if_neg h6]; exact .inr (.inr (.inr (.inr (.inr (.inr ⟨⟨h1, h2, h3, h4, by omega, by simpa using h6⟩, rfl⟩)))))
        · rw [if_neg h4]; exact .inr (.inr (.inr (.inl ⟨h1, h2, h3, h4, rfl⟩)))
      · rw [if_neg h3]; exact .inr (.inr (.inl ⟨h1, h2, by simpa using h3, rfl⟩))
    · rw [if_neg h2]; exact .inr (.inl ⟨h1, h2, rfl⟩)
  · rw [if_neg h1]; exact .inl ⟨h1, rfl⟩

def kindU (x : Pg) : UInt8 := if x.gone then 2 else 1
def lastU (x : Pg) : UInt8 := if x.last then 1 else 0
/-- what stands ahead of the filling -/
def pgHead (x : Pg) : List UInt8 := bigE x.gen.toNat 4 ++ ([kindU x, UInt8.ofNat x.name.size] ++ (bigE x.ix.toNat 2 ++ (bigE x.bytes.length 2 ++ ([lastU x, 0] ++ (x.name.data.toList ++ x.bytes)))))
theorem pgHead_len (x : Pg) : (pgHead x).length = 12 + x.name.size + x.bytes.length := by
  have h : x.name.data.toList.length = x.name.size := rfl
  unfold pgHead
  rw [List.length_append, List.length_append, List.length_append, List.length_append, List.length_append, List.length_append, bigE_len, bigE_len, bigE_len, h]
  simp
  omega
def pgBody (ps : Nat) (x : Pg) : List UInt8 := pgHead x ++ List.replicate (ps - 3 - (pgHead x).length) 255
/-- the bytes of a page -/
def pgB (ps : Nat) (x : Pg) : List UInt8 := pgBody ps x ++ (bigE (crcN (pgBody ps x)) 2 ++ [165])
theorem pgBody_len {ps : Nat} {x : Pg} (h : PgOk ps x) : (pgBody ps x).length = ps - 3 := by
  have h1 := h.hl
  have h2 := pgHead_len x
  simp [pgBody]
  omega
theorem pgB_len {ps : Nat} {x : Pg} (h : PgOk ps x) : (pgB ps x).length = ps := by
  have h1 := pgBody_len h
  have h2 := h.hp
  simp [pgB, bigE_len]
  omega
/-- what bytes say -/
def gName (l : List UInt8) : Nat := (l.getD 5 0).toNat
def gMany (l : List UInt8) : Nat := bigN ((l.drop 8).take 2)
def guessP (l : List UInt8) : Pg := ⟨(bigN (l.take 4) : Nat), l.getD 4 0 == 2, sb ((l.drop 12).take (gName l)), (bigN ((l.drop 6).take 2) : Nat), l.getD 10 0 == 1, (l.drop (12 + gName l)).take (gMany l)⟩
def freeB (l : List UInt8) : Bool := l.all fun c => c == 255
def markB (l : List UInt8) : Bool := l.getD (l.length - 1) 0 == 165
def wholeB (l : List UInt8) : Bool := decide (12 + gName l + gMany l + 3 ≤ l.length) && (decide (encF l.length (guessP l) = 0) && decide (pgB l.length (guessP l) = l))
def decS (l : List UInt8) : Int × Pg := if freeB l = true then (1, Pg.zero) else if markB l = false then (2, Pg.zero) else if wholeB l = true then (4, guessP l) else (3, Pg.zero)
end Go.Proofs.Ythcijelebjgfkaa
