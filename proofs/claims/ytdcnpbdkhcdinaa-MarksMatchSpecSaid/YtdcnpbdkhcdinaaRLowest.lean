/- the reference's lowest terms. -/
import Derived.Test.YtdcnpbdkhcdinaaShare
namespace Go.Proofs.Ytdcnpbdkhcdinaa
open Go.RowKit
attribute [local go_sem] setCell_draws alloc_draws
set_option maxRecDepth 100000 in
set_option maxHeartbeats 1000000 in
theorem rlowest_any (x : Nat × Nat) (h1 : 0 < x.1 ∧ x.1 ≤ 1000000000000) (h2 : x.2 ≤ 1000000000000) (w : World) :
    Calls Try.prog 58 #[.int .i64 x.1, .int .i64 x.2] w fun e w' => e = .returned (sv (lowQ x)) ∧ Below w.heap.size w w' := by
  obtain ⟨a, b⟩ := x
  unfold sv lowQ
  simp only at *
  have hg : 0 < Nat.gcd a b := Nat.gcd_pos_of_pos_left _ h1.1
  have hga := Nat.div_le_self a (Nat.gcd a b)
  have hgb := Nat.div_le_self b (Nat.gcd a b)
  have qa : (a : Int) / (Nat.gcd a b : Nat) = ((a / Nat.gcd a b : Nat) : Int) := (Int.natCast_ediv a _).symm
  have qb : (b : Int) / (Nat.gcd a b : Nat) = ((b / Nat.gcd a b : Nat) : Int) := (Int.natCast_ediv b _).symm
  obtain ⟨g, hge⟩ : ∃ g, g = Nat.gcd a b := ⟨_, rfl⟩
  rw [← hge] at hg hga hgb qa qb ⊢
  have HGE := Lib.hid hge.symm
  clear hge
  generalize a / g = u at *
  generalize b / g = v at *
  obtain ⟨W, hW⟩ : ∃ W, W = w.alloc (.cells #[.int .i64 0, .int .i64 0] 45) := ⟨_, rfl⟩
  have f2 : W.cell? ⟨w.heap.size, 0, none⟩ = some (.int .i64 0) := by rw [hW]; simp
  have f3 : W.cell? ⟨w.heap.size, 1, none⟩ = some (.int .i64 0) := by rw [hW]; simp
  have f4 : W.frozen? ⟨w.heap.size, 0, none⟩ = false := by rw [hW]; simp [go_sem]
  have f5 : W.frozen? ⟨w.heap.size, 1, none⟩ = false := by rw [hW]; simp [go_sem]
  have hbb : Below w.heap.size w W := by rw [hW]; exact (Below.refl _ _).alloc (Nat.le_refl _) _
  have HW := hW.symm
  clear hW
  go_enter Try.func58, Try.ntmps58
  go_wp2_with fail
  go_loopw [5, 6] (fun a b wr => GcdAt g W a b wr) (fun _ b _ => (intOf b).toNat)
  case atStart => exact ⟨a, b, 0, rfl, rfl, rfl, HGE.out, by omega, h2⟩
  case round =>
    obtain ⟨p, q, d, rfl, rfl, rfl, hgpq, hp, hq⟩ := hrel
    have HGP := Lib.hid hgpq
    clear hgpq
    rcases Nat.eq_zero_or_pos q with h0 | h0
    · subst h0
      have hpg : p = g := by rw [← HGP.out]; exact (Nat.gcd_zero_right p).symm
      subst hpg
      have hp0 : ¬ ((p : Int) = 0) := by omega
      have wu : IntKind.i64.wrap (u : Int) = (u : Int) := IntWalk.i64_in _ (by omega)
      have wv : IntKind.i64.wrap (v : Int) = (v : Int) := IntWalk.i64_in _ (by omega)
      go_wp2_with fail
      go_region
      go_wp2_with fail
      exact bodyPost_ret (v := .agg #[.int .i64 (u : Int), .int .i64 (v : Int)]) (by simp [results, Try.results58, go_sem, f2, f3]) rfl ⟨rfl, below_draws ((hbb.setCell (by simp) _).setCell (by simp) _) _⟩
    · have hq0 : ((q : Int) != 0) = true := by simp; omega
      have hqz : ¬ ((q : Int) = 0) := by omega
      have hr : (p : Int) % (q : Int) = ((p % q : Nat) : Int) := (Int.natCast_emod p q).symm
      have hlt := Nat.mod_lt p h0
      have HGN : Hid (Nat.gcd q (p % q) = g) := Lib.hid (by rw [← HGP.out, Nat.gcd_comm q, ← Nat.gcd_rec, Nat.gcd_comm])
      generalize p % q = r at *
      have wr1 : IntKind.i64.wrap (r : Int) = (r : Int) := IntWalk.i64_in _ (by omega)
      go_wp2_with fail
      go_quiet (fail)
      go_wp2_with fail
      go_roundw
      case rel => exact ⟨q, r, d + nq, rfl, by rw [hr], World.drewN_drewN _ _ _, HGN.out, hq, by omega⟩
      case measure => simp [intOf]; omega
end Go.Proofs.Ytdcnpbdkhcdinaa
