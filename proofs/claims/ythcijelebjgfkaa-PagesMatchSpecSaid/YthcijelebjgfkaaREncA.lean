/- Encode of the reference, whole. -/
import Derived.Test.YthcijelebjgfkaaREnc
namespace Go.Proofs.Ythcijelebjgfkaa
open Go.RowKit

set_option maxRecDepth 100000 in
set_option maxHeartbeats 4000000 in
theorem rencode_any (ps : Int) (x : Pg) (A : Option Addr) (c B : Nat) (w : World) (hB : B ≤ w.heap.size) (hs : x.name.size ≤ 9223372036854775807) (hbl : x.bytes.length ≤ 9223372036854775807) (h : BR w B A x.bytes) :
    Calls Try.prog 18 #[.int .i64 ps, pgV x A c] w (EncPost ps x w) := by
  have hcs := enc_cases ps x
  have HNM := Lib.hid (fun w1 => isNameR_any x.name w1 hs)
  have HRM := Lib.hid (fun (h1 : 64 ≤ ps ∧ ps ≤ 1024) (h2 : x.name.size ≤ 32) w1 => room_any ps x.name w1 h1 h2)
  have hr := (h.lift hB)
  clear h
  obtain ⟨gen, gone, nm, ix, last, b⟩ := x
  unfold pgV at *
  dsimp only at *
  rcases hcs with ⟨h1, hE⟩ | ⟨h1, h2, hE⟩ | ⟨h1, h2, h3, hE⟩ | ⟨h1, h2, h3, h4, hE⟩ | ⟨h1, h2, h3, h4, h5, hE⟩ | ⟨h1, h2, h3, h4, h5, h6, hE⟩ | ⟨hok, hE⟩
  · have HE := Lib.hid hE
    have d1 : decide (64 ≤ ps ∧ ps ≤ 1024) = false := decide_eq_false h1
    clear h1 hE hr
    go_enter Try.func18, Try.ntmps18
    go_wp2_with (first | (go_at_call 46; refine (fwithin_any _ _ _ _).mono ?_; rintro e w' ⟨rfl, rfl⟩) | (go_at_call 47; refine (HNM.out _).mono ?_; rintro e w' ⟨rfl, rfl⟩) | fail)
    go_ret2
    exact EncPost.bad HE (by decide) ((Below.refl _ _).alloc (Nat.le_refl _) _)
  · have HE := Lib.hid hE
    have d1 : decide (64 ≤ ps ∧ ps ≤ 1024) = true := decide_eq_true h1
    have d2 : decide (1 ≤ gen ∧ gen ≤ 4000000000) = false := decide_eq_false h2
    clear h1 h2 hE hr
    go_enter Try.func18, Try.ntmps18
    go_wp2_with (first | (go_at_call 46; refine (fwithin_any _ _ _ _).mono ?_; rintro e w' ⟨rfl, rfl⟩) | (go_at_call 47; refine (HNM.out _).mono ?_; rintro e w' ⟨rfl, rfl⟩) | fail)
    go_ret2
    exact EncPost.bad HE (by decide) ((Below.refl _ _).alloc (Nat.le_refl _) _)
  · have HE := Lib.hid hE
    have d1 : decide (64 ≤ ps ∧ ps ≤ 1024) = true := decide_eq_true h1
    have d2 : decide (1 ≤ gen ∧ gen ≤ 4000000000) = true := decide_eq_true h2
    rw [h3] at HNM
    clear h1 h2 h3 hE hr
    go_enter Try.func18, Try.ntmps18
    go_wp2_with (first | (go_at_call 46; refine (fwithin_any _ _ _ _).mono ?_; rintro e w' ⟨rfl, rfl⟩) | (go_at_call 47; refine (HNM.out _).mono ?_; rintro e w' ⟨rfl, rfl⟩) | fail)
    go_ret2
    exact EncPost.bad HE (by decide) ((Below.refl _ _).alloc (Nat.le_refl _) _)
  · have HE := Lib.hid hE
    have d1 : decide (64 ≤ ps ∧ ps ≤ 1024) = true := decide_eq_true h1
    have d2 : decide (1 ≤ gen ∧ gen ≤ 4000000000) = true := decide_eq_true h2
    have d4 : decide (0 ≤ ix ∧ ix ≤ 65535) = false := decide_eq_false h4
    rw [h3] at HNM
    clear h1 h2 h3 h4 hE hr
    go_enter Try.func18, Try.ntmps18
    go_wp2_with (first | (go_at_call 46; refine (fwithin_any _ _ _ _).mono ?_; rintro e w' ⟨rfl, rfl⟩) | (go_at_call 47; refine (HNM.out _).mono ?_; rintro e w' ⟨rfl, rfl⟩) | fail)
    go_ret2
    exact EncPost.bad HE (by decide) ((Below.refl _ _).alloc (Nat.le_refl _) _)
  · have HE := Lib.hid hE
    have d1 : decide (64 ≤ ps ∧ ps ≤ 1024) = true := decide_eq_true h1
    have d2 : decide (1 ≤ gen ∧ gen ≤ 4000000000) = true := decide_eq_true h2
    have d4 : decide (0 ≤ ix ∧ ix ≤ 65535) = true := decide_eq_true h4
    have HR := Lib.hid (HRM.out h1 (nmB_len h3).2)
    rw [h3] at HNM
    have d5 : decide (ps - 15 - (nm.size : Int) < (b.length : Int)) = true := decide_eq_true h5
    clear h1 h2 h3 h4 h5 hE hr
    go_enter Try.func18, Try.ntmps18
    go_wp2_with (first | (go_at_call 46; refine (fwithin_any _ _ _ _).mono ?_; rintro e w' ⟨rfl, rfl⟩) | (go_at_call 47; refine (HNM.out _).mono ?_; rintro e w' ⟨rfl, rfl⟩) | fail)
    go_quiet ((go_at_call 48; exact quiet_eq (HR.out _)))
    go_wp2_with fail
    go_ret2
    exact EncPost.bad HE (by decide) (below_draws ((Below.refl _ _).alloc (Nat.le_refl _) _) _)
  · have HE := Lib.hid hE
    have d1 : decide (64 ≤ ps ∧ ps ≤ 1024) = true := decide_eq_true h1
    have d2 : decide (1 ≤ gen ∧ gen ≤ 4000000000) = true := decide_eq_true h2
    have d4 : decide (0 ≤ ix ∧ ix ≤ 65535) = true := decide_eq_true h4
    have HR := Lib.hid (HRM.out h1 (nmB_len h3).2)
    rw [h3] at HNM
    have d5 : decide (ps - 15 - (nm.size : Int) < (b.length : Int)) = false := decide_eq_false (by omega)
    rcases goneB_cases gen gone nm ix last b with ⟨-, rfl, hg⟩ | ⟨hg, -⟩
    · rcases hg with hg1 | ⟨hg0, hg1⟩ | ⟨hg0, hg1, rfl⟩
      · have d6 : decide ((0 : Int) < (b.length : Int)) = true := decide_eq_true (by omega)
        have d6n : decide (0 < b.length) = true := decide_eq_true hg1
        clear h1 h2 h3 h4 h5 hE h6 hg1 hr
        go_enter Try.func18, Try.ntmps18
        go_wp2_with (first | (go_at_call 46; refine (fwithin_any _ _ _ _).mono ?_; rintro e w' ⟨rfl, rfl⟩) | (go_at_call 47; refine (HNM.out _).mono ?_; rintro e w' ⟨rfl, rfl⟩) | fail)
        go_quiet ((go_at_call 48; exact quiet_eq (HR.out _)))
        go_wp2_with fail
        go_ret2
        exact EncPost.bad HE (by decide) (below_draws ((Below.refl _ _).alloc (Nat.le_refl _) _) _)
      · have d6 : decide ((0 : Int) < (b.length : Int)) = false := decide_eq_false (by omega)
        have d6n : decide (0 < b.length) = false := decide_eq_false (by omega)
        have d7 : (ix != 0) = true := by simpa using hg1
        clear h1 h2 h3 h4 h5 hE h6 hg1 hg0 hr
        go_enter Try.func18, Try.ntmps18
        go_wp2_with (first | (go_at_call 46; refine (fwithin_any _ _ _ _).mono ?_; rintro e w' ⟨rfl, rfl⟩) | (go_at_call 47; refine (HNM.out _).mono ?_; rintro e w' ⟨rfl, rfl⟩) | fail)
        go_quiet ((go_at_call 48; exact quiet_eq (HR.out _)))
        go_wp2_with fail
        go_ret2
        exact EncPost.bad HE (by decide) (below_draws ((Below.refl _ _).alloc (Nat.le_refl _) _) _)
      · have d6 : decide ((0 : Int) < (b.length : Int)) = false := decide_eq_false (by omega)
        have d6n : decide (0 < b.length) = false := decide_eq_false (by omega)
        have d7 : (ix != 0) = false := by simpa using hg1
        clear h1 h2 h3 h4 h5 hE h6 hg1 hg0 hr
        go_enter Try.func18, Try.ntmps18
        go_wp2_with (first | (go_at_call 46; refine (fwithin_any _ _ _ _).mono ?_; rintro e w' ⟨rfl, rfl⟩) | (go_at_call 47; refine (HNM.out _).mono ?_; rintro e w' ⟨rfl, rfl⟩) | fail)
        go_quiet ((go_at_call 48; exact quiet_eq (HR.out _)))
        go_wp2_with fail
        go_ret2
        exact EncPost.bad HE (by decide) (below_draws ((Below.refl _ _).alloc (Nat.le_refl _) _) _)
    · rw [hg] at h6; cases h6
  · have HE := Lib.hid hE
    have h1 := hok.hp
    have h2 := hok.hg
    have h4 := hok.hi
    have h6 := hok.ho
    dsimp only at h2 h4
    obtain ⟨P, rfl⟩ : ∃ P : Nat, ps = (P : Int) := ⟨ps.toNat, by omega⟩
    obtain ⟨G, rfl⟩ : ∃ G : Nat, gen = (G : Int) := ⟨gen.toNat, by omega⟩
    obtain ⟨I, rfl⟩ : ∃ I : Nat, ix = (I : Int) := ⟨ix.toNat, by omega⟩
    have fin : ∀ (e : Ending) (w' : World), (∃ v, e = .returned (.tuple #[v, .int .i64 0]) ∧ Own w' w.heap.size v (pgB P ⟨G, gone, nm, I, last, b⟩) ∧ Below w.heap.size w w') → EncPost P ⟨G, gone, nm, I, last, b⟩ w e w' := by
      rintro e w' ⟨v, rfl, ho, hb⟩
      exact ⟨v, by rw [hE], hb, fun q => absurd hE q, fun _ => ho⟩
    rcases goneB_cases G gone nm I last b with ⟨hg, -⟩ | ⟨-, hg⟩
    · rw [hg] at h6; cases h6
    · rcases hg with rfl | ⟨rfl, hg0, hg1, rfl⟩
      · cases last
        · exact (rencode_g1 P G I nm b A c w hok hr).mono fin
        · exact (rencode_g2 P G I nm b A c w hok hr).mono fin
      · exact (rencode_g3 P G I nm b A c w hok hr hg0 hg1).mono fin
end Go.Proofs.Ythcijelebjgfkaa
