/- TickOf of the program. -/
import Derived.Test.YtdcnpbdkhcdinaaTimeOf
import Derived.Laws.EntriesVeiled
namespace Go.Proofs.Ytdcnpbdkhcdinaa
open Go.RowKit

/-- what TickOf says -/
def TickR (l : List Mk) (z : Int) (r : Int × Int) : Prop := (ckN l z ≠ 0 ∧ r = (0, ckN l z)) ∨ (ckN l z = 0 ∧ ((∃ t : Int, r = (t, 0) ∧ 0 ≤ t ∧ t ≤ 1000000000000 ∧ (∀ x, TimeP l t x → z ≤ x) ∧ (t = 0 ∨ ∀ x, TimeP l (t - 1) x → x < z)) ∨ (r = (0, 1) ∧ ∀ x, TimeP l 1000000000000 x → x < z)))
theorem time_exists {l : List Mk} (h : Good l) (n : Int) : ∃ x, TimeP l n x := by
  obtain ⟨a, b, c, d⟩ := h
  obtain ⟨k, hk⟩ := seg_exists d n a 0 (by omega) (.inl rfl)
  exact ⟨_, k, hk, rfl⟩
theorem TickR.unique {l : List Mk} {z : Int} {r r' : Int × Int} (h : TickR l z r) (h' : TickR l z r') : r = r' := by
  rcases h with ⟨a, rfl⟩ | ⟨a, h⟩
  · rcases h' with ⟨_, rfl⟩ | ⟨b, _⟩
    · rfl
    · exact absurd b a
  · rcases h' with ⟨b, _⟩ | ⟨_, h'⟩
    · exact absurd a b
    · have hg := (ckN_ok a).2.2
      have hs := hg.2.2.2
      have key : ∀ {t t' : Int}, (∀ x, TimeP l t x → z ≤ x) → (t' = 0 ∨ ∀ x, TimeP l (t' - 1) x → x < z) → 0 ≤ t → t' ≤ t := by
        intro t t' h1 h2 h0
        rcases h2 with h2 | h2
        · omega
        · rcases Int.lt_or_le t t' with hlt | hge
          · obtain ⟨x, hx⟩ := time_exists hg t
            obtain ⟨y, hy⟩ := time_exists hg (t' - 1)
            have := TimeP.mono hs hx hy (by omega)
            have := h1 x hx
            have := h2 y hy
            omega
          · exact hge
      rcases h with ⟨t, rfl, t0, t1, t2, t3⟩ | ⟨rfl, q⟩
      · rcases h' with ⟨t', rfl, u0, u1, u2, u3⟩ | ⟨rfl, q'⟩
        · have a1 := key t2 u3 t0
          have a2 := key u2 t3 u0
          obtain rfl : t = t' := by omega
          rfl
        · exfalso
          obtain ⟨x, hx⟩ := time_exists hg t
          obtain ⟨y, hy⟩ := time_exists hg 1000000000000
          have := TimeP.mono hs hx hy t1
          have := t2 x hx
          have := q' y hy
          omega
      · rcases h' with ⟨t', rfl, u0, u1, u2, u3⟩ | ⟨rfl, q'⟩
        · exfalso
          obtain ⟨x, hx⟩ := time_exists hg t'
          obtain ⟨y, hy⟩ := time_exists hg 1000000000000
          have := TimeP.mono hs hx hy u1
          have := u2 x hx
          have := q y hy
          omega
        · rfl
/-- what TickOf leaves -/
def TickOfPost (l : List Mk) (z : Int) (w : World) (e : Ending) (w' : World) : Prop := (∃ a b : Int, e = .returned (.tuple #[.int .i64 a, .int .i64 b]) ∧ TickR l z (a, b)) ∧ Below w.heap.size w w'
/-- a function of times compared with z -/
def AtLeast (l : List Mk) (z : Int) (n : Nat) (b : Bool) : Prop := ∀ x, TimeP l n x → (b = true ↔ z ≤ x)
theorem near_ge {v x z : Int} (h : Near v x) (hz : 0 ≤ z ∧ z ≤ 1000000000000) : z ≤ v ↔ z ≤ x := by
  obtain ⟨h, -⟩ := h
  omega
theorem found_tick {l : List Mk} {z : Int} {r : Nat} (hc : ckN l z = 0) (h : FoundR (AtLeast l z) 1000000000001 r) : TickR l z (if r ≤ 1000000000000 then ((r : Int), 0) else (0, 1)) := by
  obtain ⟨h1, h2, h3⟩ := h
  refine .inr ⟨hc, ?_⟩
  have hlow : ∀ k : Nat, AtLeast l z k false → ∀ x, TimeP l k x → x < z := fun k hk x hx => by
    have := (hk x hx)
    simp at this
    omega
  split
  · left
    refine ⟨r, rfl, by omega, by omega, ?_, ?_⟩
    · intro x hx
      rcases h3 with h3 | h3
      · omega
      · exact (h3 x hx).1 rfl
    · rcases h2 with h2 | h2
      · left; omega
      · by_cases h0 : r = 0
        · left; omega
        · right
          have := hlow _ h2
          rw [show ((r - 1 : Nat) : Int) = (r : Int) - 1 by omega] at this
          exact this
  · right
    refine ⟨rfl, ?_⟩
    rcases h2 with h2 | h2
    · omega
    · have := hlow _ h2
      rw [show ((r - 1 : Nat) : Int) = 1000000000000 by omega] at this
      exact this
set_option maxRecDepth 100000 in
set_option maxHeartbeats 1000000 in
theorem tick1_any (A : Option Addr) (c : Nat) (l : List Mk) (z : Int) (i p q b : Nat) (w : World) (hi : i < 1000000000001) (hb0 : w.cell? ⟨b, 0, none⟩ = some (.slice A l.length c)) (hbz : b < w.heap.size)
    (hp : w.cell? ⟨p, 0, none⟩ = some (.func (Fn.func 76) #[] #[.pointer (some ⟨b, 0, none⟩)])) (hpz : p < w.heap.size) (hq : w.cell? ⟨q, 0, none⟩ = some (.int .i64 z)) (hqz : q < w.heap.size) (hA : MR w w.heap.size A l) (hg : Good l) (hz : 0 ≤ z ∧ z ≤ 1000000000000) :
    Calls Try.prog 54 #[.int .i64 i, .pointer (some ⟨p, 0, none⟩), .pointer (some ⟨q, 0, none⟩)] w fun e w' => (∃ t : Bool, e = .returned (.bool t) ∧ AtLeast l z i t) ∧ Below w.heap.size w w' := by
  have HSS : Hid (∀ w', Below w.heap.size w w' → (w'.cell? ⟨p, 0, none⟩ = some (.func (Fn.func 76) #[] #[.pointer (some ⟨b, 0, none⟩)]) ∧ w'.cell? ⟨q, 0, none⟩ = some (.int .i64 z))) := Lib.hid fun w' hw =>
    ⟨(Below.at_ hw _ hpz _).trans hp, (Below.at_ hw _ hqz _).trans hq⟩
  have HL := Lib.hid (fun (w' : World) (hb : Below w.heap.size w w') (hz : w.heap.size ≤ w'.heap.size) => carryB (lines1_any A c l i b w' ((Below.at_ hb _ hbz _).trans hb0) (by omega) ((hA.below hb).lift hz) hg (by omega)) hb hz)
  have hcf : ∀ args w, (callFunc 76 args).run Try.prog w = .ok (.enter 76 args) w := fun _ _ => by kernel_rfl
  have HG := Lib.hid hg
  clear hA hb0 hg
  go_enter Try.func54, Try.ntmps54
  go_wp2_with fail
  go_region_held3 (fun w' => w'.cell? ⟨p, 0, none⟩ = some (.func (Fn.func 76) #[] #[.pointer (some ⟨b, 0, none⟩)]) ∧ w'.cell? ⟨q, 0, none⟩ = some (.int .i64 z))
    (first | go_keep | exact HSS.out _ (by assumption))
    (first
     | (go_at_call 76
        refine (HL.out _ ?_ ?_).mono ?_
        · first | assumption | exact (Below.refl _ _).drew | exact Below.drew (by assumption)
        · first | assumption | (simp; done) | (simp; omega)
        rintro e w3 ⟨⟨v, x, rfl, hnear, htp⟩, hb3, hs3⟩))
  have HF : Hid (AtLeast l z i (decide (z ≤ v))) := Lib.hid fun y hy => by
    rw [TimeP.unique HG.out.2.2.2 hy htp, decide_eq_true_eq]
    exact near_ge hnear hz
  clear hnear htp
  go_wp2_with fail
  go_ret
  exact ⟨⟨_, rfl, HF.out⟩, hb3⟩
set_option maxRecDepth 100000 in
set_option maxHeartbeats 1000000 in
theorem tickOf_any (A : Option Addr) (c : Nat) (l : List Mk) (z : Int) (w : World) (hl : l.length ≤ 9223372036854775807) (hA : MR w w.heap.size A l) :
    Calls Try.prog 22 #[.slice A l.length c, .int .i64 z] w (TickOfPost l z w) := by
  obtain ⟨W, hW⟩ : ∃ W, W = w.alloc (.cells #[.int .i64 z] 3) := ⟨_, rfl⟩
  have hwW : Below w.heap.size w W := by rw [hW]; exact (Below.refl _ _).alloc (Nat.le_refl _) _
  have hsz : W.heap.size = w.heap.size + 1 := by rw [hW]; simp
  have hq1 : W.cell? ⟨w.heap.size, 0, none⟩ = some (.int .i64 z) := by rw [hW]; simp
  have hA1 := (hA.below hwW).lift hwW.size
  have hW1 := hW.symm
  have HC := Lib.hid (checkLine_any A c l z W hl hA1)
  clear hW hA
  unfold TickOfPost
  by_cases h : ckN l z = 0
  · obtain ⟨-, hz, hg⟩ := ckN_ok h
    have HF := Lib.hid (fun (r : Nat) hr => found_tick (l := l) (z := z) (r := r) h hr)
    have hmf : ∀ (fn : Fn) (first cap : Array Value) (w : World), (Instr.makeFunc fn first cap).run Try.prog w = .ok (.func fn first cap) w := fun _ _ _ _ => rfl
    rw [h] at HC
    have HG := Lib.hid hg
    clear h hg
    go_enter Try.func22, Try.ntmps22
    go_wp2_with fail
    refine HC.out.mono ?_
    rintro e w1 ⟨rfl, hb1⟩
    have hz1 := hb1.size
    clear HC
    go_wp2_with fail
    refine (lines_any _ _ _ _).mono ?_
    rintro e w2 ⟨rfl, rfl⟩
    go_wp2_with fail
    obtain ⟨W3, hW3⟩ : ∃ W3, W3 = (w1.alloc (.cells #[.slice A l.length c] 40)).alloc (.cells #[.func (Fn.func 76) #[] #[.pointer (some ⟨w1.heap.size, 0, none⟩)]] 61) := ⟨_, rfl⟩
    have hb3 : Below w1.heap.size w1 W3 := by rw [hW3]; exact ((Below.refl _ _).alloc (Nat.le_refl _) _).alloc (by simp) _
    have hsz3 : W3.heap.size = w1.heap.size + 2 := by rw [hW3]; simp
    have e0 : W3.cell? ⟨w1.heap.size, 0, none⟩ = some (.slice A l.length c) := by rw [hW3]; simp
    have e1 : W3.cell? ⟨w1.heap.size + 1, 0, none⟩ = some (.func (Fn.func 76) #[] #[.pointer (some ⟨w1.heap.size, 0, none⟩)]) := by rw [hW3]; simp
    have e2 : W3.cell? ⟨w.heap.size, 0, none⟩ = some (.int .i64 z) := (Below.at_ hb3 _ (by omega) _).trans ((Below.at_ hb1 _ (by omega) _).trans hq1)
    have hA3 := ((hA1.below hb1).lift hz1).below hb3
    rw [← hW3]
    clear hW3
    have HS := search_rel 54 (fun _ _ => by kernel_rfl) (.pointer (some ⟨w1.heap.size + 1, 0, none⟩)) (.pointer (some ⟨w.heap.size, 0, none⟩)) (AtLeast l z) 1000000000001 (by omega) W3
      (fun i w' hi hb => tick1_any A c l z i (w1.heap.size + 1) w.heap.size w1.heap.size w' hi ((Below.at_ hb _ (by omega) _).trans e0) (by have := hb.size; omega) ((Below.at_ hb _ (by omega) _).trans e1) (by have := hb.size; omega) ((Below.at_ hb _ (by omega) _).trans e2) (by have := hb.size; omega) ((hA3.below (hb.mono (by omega))).lift (by have := hb.size; omega)) HG.out hz)
    refine HS.mono ?_
    rintro e w4 ⟨⟨r, rfl, hr⟩, hb4⟩
    have HT := Lib.hid (HF.out r hr)
    have hg4 : Below w.heap.size w w4 := hwW.trans ((hb1.mono (by omega)).trans ((hb3.mono (by omega)).trans (hb4.mono (by omega))))
    have hr1 : r ≤ 1000000000001 := hr.1
    clear hr HS HF hA1 hA3 e0 e1 e2 hq1
    by_cases hle : r ≤ 1000000000000
    · have HI : Hid (TickR l z ((r : Int), 0)) := Lib.hid (by have := HT.out; rw [if_pos hle] at this; exact this)
      have t1 : decide ((1000000000000 : Int) < (r : Int)) = false := by simp; omega
      go_wp2_with fail
      go_ret2
      exact ⟨⟨_, _, rfl, HI.out⟩, hg4⟩
    · have HI : Hid (TickR l z (0, 1)) := Lib.hid (by have := HT.out; rw [if_neg hle] at this; exact this)
      have t1 : decide ((1000000000000 : Int) < (r : Int)) = true := by simp; omega
      go_wp2_with fail
      go_ret2
      exact ⟨⟨_, _, rfl, HI.out⟩, hg4⟩
  · have HR := Lib.hid (show TickR l z (0, ckN l z) from .inl ⟨h, rfl⟩)
    have hne : (ckN l z != 0) = true := by simpa using h
    generalize ckN l z = r at *
    clear h hA1
    go_enter Try.func22, Try.ntmps22
    go_wp2_with fail
    refine HC.out.mono ?_
    rintro e w1 ⟨rfl, hb1⟩
    go_wp2_with fail
    go_ret2
    exact ⟨⟨_, _, rfl, HR.out⟩, hwW.trans (hb1.mono (by omega))⟩
end Go.Proofs.Ytdcnpbdkhcdinaa
