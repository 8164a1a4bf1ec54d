/- Encode of the program, whole. -/
import Derived.Test.YthcijelebjgfkaaPgEnc
import Derived.Test.YthcijelebjgfkaaChkFlash
namespace Go.Proofs.Ythcijelebjgfkaa
open Go.RowKit

/-- what an encoding answers -/
def EncPost (ps : Int) (x : Pg) (w : World) (e : Ending) (w' : World) : Prop :=
  ∃ v, e = .returned (.tuple #[v, .int .i64 (encF ps x)]) ∧ Below w.heap.size w w' ∧ (encF ps x ≠ 0 → v = .slice none 0 0) ∧ (encF ps x = 0 → Own w' w.heap.size v (pgB ps.toNat x))
theorem EncPost.bad {ps : Int} {x : Pg} {w w' : World} {z : Int} (hz : Hid (encF ps x = z)) (h0 : z ≠ 0) (hb : Below w.heap.size w w') : EncPost ps x w (.returned (.tuple #[.slice none 0 0, .int .i64 z])) w' :=
  ⟨_, by rw [hz.out], hb, fun _ => rfl, fun e => absurd (hz.out.symm.trans e) h0⟩
theorem quiet_eq {f : FuncId} {args : Array Value} {w : World} {n : Nat} {v : Value} (h : Calls Try.prog f args (w.drewN n) fun e w' => e = .returned v ∧ w.drewN n = w') :
    Calls Try.prog f args (w.drewN n) fun e w'' => e = .returned v ∧ ∃ m, w'' = w.drewN m := h.mono fun _ _ ⟨he, hm⟩ => ⟨he, n, hm.symm⟩
theorem goneB_cases (gen : Int) (gone : Bool) (nm : ByteArray) (ix : Int) (last : Bool) (b : List UInt8) :
    (goneB ⟨gen, gone, nm, ix, last, b⟩ = true ∧ gone = true ∧ (0 < b.length ∨ (b.length = 0 ∧ ix ≠ 0) ∨ (b.length = 0 ∧ ix = 0 ∧ last = false))) ∨
    (goneB ⟨gen, gone, nm, ix, last, b⟩ = false ∧ (gone = false ∨ (gone = true ∧ b.length = 0 ∧ ix = 0 ∧ last = true))) := by
  unfold goneB
  cases gone
  · exact .inr ⟨rfl, .inl rfl⟩
  · by_cases h1 : 0 < b.length
    · refine .inl ⟨?_, rfl, .inl h1⟩
      simp only [decide_eq_true h1, Bool.true_or, Bool.and_self]
    · have h2 : b.length = 0 := by omega
      by_cases h3 : ix = 0
      · cases last
        · exact .inl ⟨by simp, rfl, .inr (.inr ⟨h2, h3, rfl⟩)⟩
        · exact .inr ⟨by simp [h3, h2], .inr ⟨rfl, h2, h3, rfl⟩⟩
      · exact .inl ⟨by simp [h3], rfl, .inr (.inl ⟨h2, h3⟩)⟩
set_option maxRecDepth 100000 in
set_option maxHeartbeats 4000000 in
theorem encode_any (ps : Int) (x : Pg) (A : Option Addr) (c B : Nat) (w : World) (hB : B ≤ w.heap.size) (hs : x.name.size ≤ 9223372036854775807) (hbl : x.bytes.length ≤ 9223372036854775807) (h : BR w B A x.bytes) :
    Calls Try.prog 17 #[.int .i64 ps, pgV x A c] w (EncPost ps x w) := by
  have hcs := enc_cases ps x
  have HNM := Lib.hid (fun w1 => isNameP_any x.name w1 hs)
  have HRM := Lib.hid (fun (h1 : 64 ≤ ps ∧ ps ≤ 1024) (h2 : x.name.size ≤ 32) w1 => roomIn_any ps x.name w1 h1 h2)
  have HPBY := Lib.hid (fun (hok : PgOk ps x) (w1 : World) (hb : Below w.heap.size w w1) => pageBytes_any ps.toNat x.gen.toNat x.ix.toNat x.gone x.last x.name x.bytes A c w1 (by have := hok.hp; omega) (by have := hok.hg; omega) (by have := hok.hi; omega) (nmB_len hok.hn).2 (by have := hok.hl; have := hok.hp; have := (nmB_len hok.hn).2; omega) ((h.lift hB).below hb |>.lift hb.size))
  clear h
  obtain ⟨gen, gone, nm, ix, last, b⟩ := x
  unfold pgV at *
  dsimp only at *
  rcases hcs with ⟨h1, hE⟩ | ⟨h1, h2, hE⟩ | ⟨h1, h2, h3, hE⟩ | ⟨h1, h2, h3, h4, hE⟩ | ⟨h1, h2, h3, h4, h5, hE⟩ | ⟨h1, h2, h3, h4, h5, h6, hE⟩ | ⟨hok, hE⟩
  · have HE := Lib.hid hE
    have d1 : decide (64 ≤ ps ∧ ps ≤ 1024) = false := decide_eq_false h1
    clear h1 hE
    go_enter Try.func17, Try.ntmps17
    go_wp2_with (first | (go_at_call 41; refine (isPageSize_any _ _).mono ?_; rintro e w' ⟨rfl, rfl⟩) | (go_at_call 42; refine (swithin_any _ _ _ _).mono ?_; rintro e w' ⟨rfl, rfl⟩) | fail)
    go_ret2
    exact EncPost.bad HE (by decide) ((Below.refl _ _).alloc (Nat.le_refl _) _)
  · have HE := Lib.hid hE
    have d1 : decide (64 ≤ ps ∧ ps ≤ 1024) = true := decide_eq_true h1
    have d2 : decide (1 ≤ gen ∧ gen ≤ 4000000000) = false := decide_eq_false h2
    clear h1 h2 hE
    go_enter Try.func17, Try.ntmps17
    go_wp2_with (first | (go_at_call 41; refine (isPageSize_any _ _).mono ?_; rintro e w' ⟨rfl, rfl⟩) | (go_at_call 42; refine (swithin_any _ _ _ _).mono ?_; rintro e w' ⟨rfl, rfl⟩) | fail)
    go_ret2
    exact EncPost.bad HE (by decide) ((Below.refl _ _).alloc (Nat.le_refl _) _)
  · have HE := Lib.hid hE
    have d1 : decide (64 ≤ ps ∧ ps ≤ 1024) = true := decide_eq_true h1
    have d2 : decide (1 ≤ gen ∧ gen ≤ 4000000000) = true := decide_eq_true h2
    rw [h3] at HNM
    clear h1 h2 h3 hE
    go_enter Try.func17, Try.ntmps17
    go_wp2_with (first | (go_at_call 41; refine (isPageSize_any _ _).mono ?_; rintro e w' ⟨rfl, rfl⟩) | (go_at_call 42; refine (swithin_any _ _ _ _).mono ?_; rintro e w' ⟨rfl, rfl⟩) | (go_at_call 43; refine (HNM.out _).mono ?_; rintro e w1 ⟨rfl, hb1⟩; have hc1 := fun k => Below.at_ hb1 w.heap.size (by simp) k; have hbb := ((Below.refl w.heap.size w).alloc (Nat.le_refl _) _).trans (hb1.mono (by simp))) | fail)
    go_ret2
    exact EncPost.bad HE (by decide) hbb
  · have HE := Lib.hid hE
    have d1 : decide (64 ≤ ps ∧ ps ≤ 1024) = true := decide_eq_true h1
    have d2 : decide (1 ≤ gen ∧ gen ≤ 4000000000) = true := decide_eq_true h2
    have d4 : decide (0 ≤ ix ∧ ix ≤ 65535) = false := decide_eq_false h4
    rw [h3] at HNM
    clear h1 h2 h3 h4 hE
    go_enter Try.func17, Try.ntmps17
    go_wp2_with (first | (go_at_call 41; refine (isPageSize_any _ _).mono ?_; rintro e w' ⟨rfl, rfl⟩) | (go_at_call 42; refine (swithin_any _ _ _ _).mono ?_; rintro e w' ⟨rfl, rfl⟩) | (go_at_call 43; refine (HNM.out _).mono ?_; rintro e w1 ⟨rfl, hb1⟩; have hc1 := fun k => Below.at_ hb1 w.heap.size (by simp) k; have hbb := ((Below.refl w.heap.size w).alloc (Nat.le_refl _) _).trans (hb1.mono (by simp))) | fail)
    go_ret2
    exact EncPost.bad HE (by decide) hbb
  · have HE := Lib.hid hE
    have d1 : decide (64 ≤ ps ∧ ps ≤ 1024) = true := decide_eq_true h1
    have d2 : decide (1 ≤ gen ∧ gen ≤ 4000000000) = true := decide_eq_true h2
    have d4 : decide (0 ≤ ix ∧ ix ≤ 65535) = true := decide_eq_true h4
    have HR := Lib.hid (HRM.out h1 (nmB_len h3).2)
    rw [h3] at HNM
    have d5 : decide (ps - 15 - (nm.size : Int) < (b.length : Int)) = true := decide_eq_true h5
    clear h1 h2 h3 h4 h5 hE
    go_enter Try.func17, Try.ntmps17
    go_wp2_with (first | (go_at_call 41; refine (isPageSize_any _ _).mono ?_; rintro e w' ⟨rfl, rfl⟩) | (go_at_call 42; refine (swithin_any _ _ _ _).mono ?_; rintro e w' ⟨rfl, rfl⟩) | (go_at_call 43; refine (HNM.out _).mono ?_; rintro e w1 ⟨rfl, hb1⟩; have hc1 := fun k => Below.at_ hb1 w.heap.size (by simp) k; have hbb := ((Below.refl w.heap.size w).alloc (Nat.le_refl _) _).trans (hb1.mono (by simp))) | fail)
    go_quiet ((go_at_call 44; exact quiet_eq (HR.out _)))
    go_wp2_with fail
    go_ret2
    exact EncPost.bad HE (by decide) (below_draws hbb _)
  · have HE := Lib.hid hE
    have d1 : decide (64 ≤ ps ∧ ps ≤ 1024) = true := decide_eq_true h1
    have d2 : decide (1 ≤ gen ∧ gen ≤ 4000000000) = true := decide_eq_true h2
    have d4 : decide (0 ≤ ix ∧ ix ≤ 65535) = true := decide_eq_true h4
    have HR := Lib.hid (HRM.out h1 (nmB_len h3).2)
    rw [h3] at HNM
    have d5 : decide (ps - 15 - (nm.size : Int) < (b.length : Int)) = false := decide_eq_false (by omega)
    rcases goneB_cases gen gone nm ix last b with ⟨-, rfl, hg⟩ | ⟨hg, -⟩
    · rcases hg with hg1 | ⟨hg0, hg1⟩ | ⟨hg0, hg1, rfl⟩
      · have d6 : decide ((0 : Int) < (b.length : Int)) = true := decide_eq_true (by omega)
        have d6n : decide (0 < b.length) = true := decide_eq_true hg1
        clear h1 h2 h3 h4 h5 hE h6 hg1
        go_enter Try.func17, Try.ntmps17
        go_wp2_with (first | (go_at_call 41; refine (isPageSize_any _ _).mono ?_; rintro e w' ⟨rfl, rfl⟩) | (go_at_call 42; refine (swithin_any _ _ _ _).mono ?_; rintro e w' ⟨rfl, rfl⟩) | (go_at_call 43; refine (HNM.out _).mono ?_; rintro e w1 ⟨rfl, hb1⟩; have hc1 := fun k => Below.at_ hb1 w.heap.size (by simp) k; have hbb := ((Below.refl w.heap.size w).alloc (Nat.le_refl _) _).trans (hb1.mono (by simp))) | fail)
        go_quiet ((go_at_call 44; exact quiet_eq (HR.out _)))
        go_wp2_with fail
        go_ret2
        exact EncPost.bad HE (by decide) (below_draws hbb _)
      · have d6 : decide ((0 : Int) < (b.length : Int)) = false := decide_eq_false (by omega)
        have d6n : decide (0 < b.length) = false := decide_eq_false (by omega)
        have d7 : (ix != 0) = true := by simpa using hg1
        clear h1 h2 h3 h4 h5 hE h6 hg1 hg0
        go_enter Try.func17, Try.ntmps17
        go_wp2_with (first | (go_at_call 41; refine (isPageSize_any _ _).mono ?_; rintro e w' ⟨rfl, rfl⟩) | (go_at_call 42; refine (swithin_any _ _ _ _).mono ?_; rintro e w' ⟨rfl, rfl⟩) | (go_at_call 43; refine (HNM.out _).mono ?_; rintro e w1 ⟨rfl, hb1⟩; have hc1 := fun k => Below.at_ hb1 w.heap.size (by simp) k; have hbb := ((Below.refl w.heap.size w).alloc (Nat.le_refl _) _).trans (hb1.mono (by simp))) | fail)
        go_quiet ((go_at_call 44; exact quiet_eq (HR.out _)))
        go_wp2_with fail
        go_ret2
        exact EncPost.bad HE (by decide) (below_draws hbb _)
      · have d6 : decide ((0 : Int) < (b.length : Int)) = false := decide_eq_false (by omega)
        have d6n : decide (0 < b.length) = false := decide_eq_false (by omega)
        have d7 : (ix != 0) = false := by simpa using hg1
        clear h1 h2 h3 h4 h5 hE h6 hg1 hg0
        go_enter Try.func17, Try.ntmps17
        go_wp2_with (first | (go_at_call 41; refine (isPageSize_any _ _).mono ?_; rintro e w' ⟨rfl, rfl⟩) | (go_at_call 42; refine (swithin_any _ _ _ _).mono ?_; rintro e w' ⟨rfl, rfl⟩) | (go_at_call 43; refine (HNM.out _).mono ?_; rintro e w1 ⟨rfl, hb1⟩; have hc1 := fun k => Below.at_ hb1 w.heap.size (by simp) k; have hbb := ((Below.refl w.heap.size w).alloc (Nat.le_refl _) _).trans (hb1.mono (by simp))) | fail)
        go_quiet ((go_at_call 44; exact quiet_eq (HR.out _)))
        go_wp2_with fail
        go_ret2
        exact EncPost.bad HE (by decide) (below_draws hbb _)
    · rw [hg] at h6; cases h6
  · have HE := Lib.hid hE
    have h1 := hok.hp
    have h2 := hok.hg
    have h3 := hok.hn
    have h4 := hok.hi
    have h5 := hok.hl
    have h6 := hok.ho
    dsimp only at h2 h3 h4 h5
    have hPY := HPBY.out hok
    rw [show ((ps.toNat : Nat) : Int) = ps by omega, show ((gen.toNat : Nat) : Int) = gen by omega, show ((ix.toNat : Nat) : Int) = ix by omega] at hPY
    have HPY := Lib.hid hPY
    clear hPY
    have d1 : decide (64 ≤ ps ∧ ps ≤ 1024) = true := decide_eq_true h1
    have d2 : decide (1 ≤ gen ∧ gen ≤ 4000000000) = true := decide_eq_true h2
    have d4 : decide (0 ≤ ix ∧ ix ≤ 65535) = true := decide_eq_true h4
    have HR := Lib.hid (HRM.out h1 (nmB_len h3).2)
    rw [h3] at HNM
    have d5 : decide (ps - 15 - (nm.size : Int) < (b.length : Int)) = false := decide_eq_false (by omega)
    rcases goneB_cases gen gone nm ix last b with ⟨hg, -⟩ | ⟨-, hg⟩
    · rw [hg] at h6; cases h6
    · rcases hg with rfl | ⟨rfl, hg0, hg1, rfl⟩
      · clear hok h1 h2 h3 h4 h5 h6 hE
        go_enter Try.func17, Try.ntmps17
        go_wp2_with (first | (go_at_call 41; refine (isPageSize_any _ _).mono ?_; rintro e w' ⟨rfl, rfl⟩) | (go_at_call 42; refine (swithin_any _ _ _ _).mono ?_; rintro e w' ⟨rfl, rfl⟩) | (go_at_call 43; refine (HNM.out _).mono ?_; rintro e w1 ⟨rfl, hb1⟩; have hc1 := fun k => Below.at_ hb1 w.heap.size (by simp) k; have hbb := ((Below.refl w.heap.size w).alloc (Nat.le_refl _) _).trans (hb1.mono (by simp))) | fail)
        go_quiet ((go_at_call 44; exact quiet_eq (HR.out _)))
        go_wp2_with fail
        refine (HPY.out _ (below_draws hbb _)).mono ?_
        rintro e w2 ⟨v2, rfl, ho2, hb2⟩
        go_wp2_with fail
        go_ret2
        refine ⟨v2, (by rw [HE.out]; rfl), (below_draws hbb _).trans (hb2.mono hbb.size), fun e => absurd HE.out e, fun _ => ?_⟩
        exact ho2.lower hbb.size
      · have d6 : decide ((0 : Int) < (b.length : Int)) = false := decide_eq_false (by omega)
        have d6n : decide (0 < b.length) = false := decide_eq_false (by omega)
        have d7 : (ix != 0) = false := by simpa using hg1
        clear hok h1 h2 h3 h4 h5 h6 hE hg0 hg1
        go_enter Try.func17, Try.ntmps17
        go_wp2_with (first | (go_at_call 41; refine (isPageSize_any _ _).mono ?_; rintro e w' ⟨rfl, rfl⟩) | (go_at_call 42; refine (swithin_any _ _ _ _).mono ?_; rintro e w' ⟨rfl, rfl⟩) | (go_at_call 43; refine (HNM.out _).mono ?_; rintro e w1 ⟨rfl, hb1⟩; have hc1 := fun k => Below.at_ hb1 w.heap.size (by simp) k; have hbb := ((Below.refl w.heap.size w).alloc (Nat.le_refl _) _).trans (hb1.mono (by simp))) | fail)
        go_quiet ((go_at_call 44; exact quiet_eq (HR.out _)))
        go_wp2_with fail
        refine (HPY.out _ (below_draws hbb _)).mono ?_
        rintro e w2 ⟨v2, rfl, ho2, hb2⟩
        go_wp2_with fail
        go_ret2
        refine ⟨v2, (by rw [HE.out]; rfl), (below_draws hbb _).trans (hb2.mono hbb.size), fun e => absurd HE.out e, fun _ => ?_⟩
        exact ho2.lower hbb.size
end Go.Proofs.Ythcijelebjgfkaa
