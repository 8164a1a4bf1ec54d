/- flips and rounds. -/
import Derived.Test.YtpccpkjfnmclfaaBase
namespace Go.Proofs.Ytpccpkjfnmclfaa

/-- a flip: when, where, which bit -/
structure Flp where
  t : Int
  p : Int
  b : Int
/-- what is wrong with flips in a bank of n codes, the one before being at a moment -/
def flipsF (n : Nat) : Int → List Flp → Int
  | _, [] => 0
  | u, x :: l => if 0 ≤ x.t ∧ x.t ≤ 1000000000000 then (if 0 ≤ x.p ∧ x.p ≤ (n : Int) - 1 then (if 1 ≤ x.b ∧ x.b ≤ 22 then (if x.t < u then 8 else flipsF n x.t l) else 1) else 9) else 1
def chkF (l l' : List Int) (f : List Flp) : Int := if chkB l l' = 0 then (if 2000 < f.length then 2 else flipsF l.length 0 f) else chkB l l'
/-- a flip that is right in a bank of n codes -/
def Flp.ok (x : Flp) (n : Nat) : Prop := (0 ≤ x.t ∧ x.t ≤ 1000000000000) ∧ (0 ≤ x.p ∧ x.p ≤ (n : Int) - 1) ∧ (1 ≤ x.b ∧ x.b ≤ 22)
theorem flips_ok {n : Nat} : ∀ {f : List Flp} {u : Int}, flipsF n u f = 0 → ∀ x ∈ f, x.ok n
  | [], _, _, x, hx => by simp at hx
  | y :: l, u, h, x, hx => by
    simp only [flipsF] at h
    by_cases h1 : 0 ≤ y.t ∧ y.t ≤ 1000000000000
    · rw [if_pos h1] at h
      by_cases h2 : 0 ≤ y.p ∧ y.p ≤ (n : Int) - 1
      · rw [if_pos h2] at h
        by_cases h3 : 1 ≤ y.b ∧ y.b ≤ 22
        · rw [if_pos h3] at h
          by_cases h4 : y.t < u
          · rw [if_pos h4] at h; omega
          · rw [if_neg h4] at h
            rcases List.mem_cons.1 hx with rfl | hx
            · exact ⟨h1, h2, h3⟩
            · exact flips_ok h x hx
        · rw [if_neg h3] at h; omega
      · rw [if_neg h2] at h; omega
    · rw [if_neg h1] at h; omega
/-- the flips up to a moment, and those behind -/
def flipC (C : List Nat) (x : Flp) : List Nat := C.set x.p.toNat (C.getD x.p.toNat 0 ^^^ 2 ^ (x.b.toNat - 1))
def flipU (u : Int) : List Nat → List Flp → List Nat × List Flp
  | C, [] => (C, [])
  | C, x :: l => if x.t ≤ u then flipU u (flipC C x) l else (C, x :: l)
theorem flipC_len (C : List Nat) (x : Flp) : (flipC C x).length = C.length := by simp [flipC]
theorem flipC_ok {C : List Nat} {n k : Nat} {D : List Scr} {x : Flp} (h : (⟨C, k, D⟩ : St).ok n) (hx : x.ok n) : (⟨flipC C x, k, D⟩ : St).ok n := by
  have h1 : C.length = n := h.len
  obtain ⟨-, hp, hb⟩ := hx
  refine ⟨by simpa [flipC] using h1, h.next, fun j hj => ?_⟩
  have hj' : j < C.length := by simpa [flipC] using hj
  simp only [flipC]
  rw [List.getElem_set]
  split
  · have hpl : x.p.toNat < C.length := by omega
    have e : C.getD x.p.toNat 0 = C[x.p.toNat] := by simp [List.getD, hpl]
    rw [e]
    exact flip_lt _ _ (by omega) (h.codes _ hpl)
  · exact h.codes j hj'
theorem flipU_ok (u : Int) {n k : Nat} {D : List Scr} : ∀ (f : List Flp) (C : List Nat), (⟨C, k, D⟩ : St).ok n → (∀ x ∈ f, x.ok n) → (⟨(flipU u C f).1, k, D⟩ : St).ok n ∧ ∀ x ∈ (flipU u C f).2, x.ok n
  | [], C, h, _ => ⟨h, by simp [flipU]⟩
  | x :: l, C, h, hf => by
    simp only [flipU]
    split
    · exact flipU_ok u l _ (flipC_ok h (hf x (by simp))) fun y hy => hf y (by simp [hy])
    · exact ⟨h, hf⟩
/-- behind so many rounds -/
def runR (every many : Nat) (s : St) (f : List Flp) : Nat → St × List Flp
  | 0 => (s, f)
  | j + 1 => (scrubT (every * (j + 1)) many ⟨(flipU ((every * (j + 1) : Nat) : Int) (runR every many s f j).1.C (runR every many s f j).2).1, (runR every many s f j).1.next, (runR every many s f j).1.done⟩,
      (flipU ((every * (j + 1) : Nat) : Int) (runR every many s f j).1.C (runR every many s f j).2).2)
def runEnd (every many until_ : Nat) (s : St) (f : List Flp) : St :=
  ⟨(flipU (until_ : Int) (runR every many s f (until_ / every)).1.C (runR every many s f (until_ / every)).2).1, (runR every many s f (until_ / every)).1.next, (runR every many s f (until_ / every)).1.done⟩
theorem run_ok {every many n : Nat} {s : St} {f : List Flp} (h : s.ok n) (hf : ∀ x ∈ f, x.ok n) : ∀ j, (runR every many s f j).1.ok n ∧ ∀ x ∈ (runR every many s f j).2, x.ok n
  | 0 => ⟨h, hf⟩
  | j + 1 => by
    obtain ⟨h1, h2⟩ := run_ok (every := every) (many := many) h hf j
    obtain ⟨h3, h4⟩ := flipU_ok ((every * (j + 1) : Nat) : Int) (runR every many s f j).2 (runR every many s f j).1.C (k := (runR every many s f j).1.next) (D := (runR every many s f j).1.done) h1 h2
    exact ⟨scrub_ok h3 _, h4⟩
theorem run_done (every many : Nat) (s : St) (f : List Flp) : ∀ j, (runR every many s f j).1.done.length ≤ s.done.length + many * j
  | 0 => by simp [runR]
  | j + 1 => by
    have ih := run_done every many s f j
    have := scrub_done (every * (j + 1)) ⟨(flipU ((every * (j + 1) : Nat) : Int) (runR every many s f j).1.C (runR every many s f j).2).1, (runR every many s f j).1.next, (runR every many s f j).1.done⟩ many
    simp only [runR]
    simp only at this
    have e : many * (j + 1) = many * j + many := Nat.mul_succ _ _
    omega
/-- what is wrong with rounds -/
def chkR (l l' : List Int) (e m : Int) (f : List Flp) (u : Int) : Int :=
  if chkF l l' f = 0 then (if (1 ≤ e ∧ e ≤ 1000000000000) ∧ (1 ≤ m ∧ m ≤ 5000) ∧ (0 ≤ u ∧ u ≤ 1000000000000) then (if 1000000 < u / e * m then 2 else 0) else 1) else chkF l l' f
def roundsS (l l' : List Int) (e m : Int) (f : List Flp) (u : Int) : (List Int × List Int) × List Scr × Int :=
  if chkR l l' e m f u = 0 then ((ints (runEnd e.toNat m.toNat u.toNat ⟨nats l, 0, []⟩ f).C, l'), (runEnd e.toNat m.toNat u.toNat ⟨nats l, 0, []⟩ f).done, 0) else (([], []), [], chkR l l' e m f u)
theorem chkF_right {l l' : List Int} {f : List Flp} (h : chkF l l' f = 0) : Right l l' ∧ f.length ≤ 2000 ∧ ∀ x ∈ f, x.ok l.length := by
  unfold chkF at h
  by_cases h1 : chkB l l' = 0
  · rw [if_pos h1] at h
    by_cases h2 : 2000 < f.length
    · rw [if_pos h2] at h; omega
    · rw [if_neg h2] at h
      exact ⟨chk_right h1, by omega, flips_ok h⟩
  · rw [if_neg h1] at h; omega
theorem chkR_right {l l' : List Int} {e m u : Int} {f : List Flp} (h : chkR l l' e m f u = 0) : chkF l l' f = 0 ∧ (1 ≤ e ∧ e ≤ 1000000000000) ∧ (1 ≤ m ∧ m ≤ 5000) ∧ (0 ≤ u ∧ u ≤ 1000000000000) ∧ u / e * m ≤ 1000000 := by
  unfold chkR at h
  by_cases h1 : chkF l l' f = 0
  · rw [if_pos h1] at h
    by_cases h2 : (1 ≤ e ∧ e ≤ 1000000000000) ∧ (1 ≤ m ∧ m ≤ 5000) ∧ (0 ≤ u ∧ u ≤ 1000000000000)
    · rw [if_pos h2] at h
      by_cases h3 : 1000000 < u / e * m
      · rw [if_pos h3] at h; omega
      · exact ⟨h1, h2.1, h2.2.1, h2.2.2, by omega⟩
    · rw [if_neg h2] at h; omega
  · rw [if_neg h1] at h; omega
end Go.Proofs.Ytpccpkjfnmclfaa
