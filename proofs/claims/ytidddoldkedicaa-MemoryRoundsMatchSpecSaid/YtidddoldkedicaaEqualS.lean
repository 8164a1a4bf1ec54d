/- slices.Equal of what was done, of equal lists. -/
import Derived.Test.YtidddoldkedicaaScrubW
import Derived.Laws.StructEq
namespace Go.Proofs.Ytidddoldkedicaa
open Go.RowKit

theorem eqScr (a b c d : Int) (w : World) : (Op.equalIn 10000 45 (.agg #[.int .i64 a, .int .i64 b, .int .i64 c, .int .i64 d]) (.agg #[.int .i64 a, .int .i64 b, .int .i64 c, .int .i64 d])).run Try.prog w = .ok true w := by
  have u3 := Try.underlying3
  have hS : Try.prog.underlying 45 = some (.struct (Try.prog.fieldsOf 45)) := by kernel_rfl
  have hp : Try.prog.stoodInHeld 45 = false := by kernel_rfl
  rw [show (10000 : Nat) = 9999 + 1 from rfl, run_equalIn_agg w 9999 45 _ _ hS hp]
  simp only [Program.fieldsOf, Try.underlying45]
  go_simp
theorem add_lit (a : Addr) (n j : Nat) (hj : 0 < j) : a.add (n + j) = ⟨(a.add n).block, (a.add n).off + j, none⟩ := by
  rw [← add_twice]
  simp [Addr.add, Nat.pos_iff_ne_zero.1 hj]
theorem SR.get {w : World} {B : Nat} {A : Option Addr} {l : List Scr} (h : SR w B A l) (k : Nat) (hk : k < l.length) :
    ∃ ad, A = some ad ∧ ad.block < B ∧ w.cell? (ad.add (k * 4)) = some (.int .i64 (l[k].t : Int)) ∧ w.cell? ⟨(ad.add (k * 4)).block, (ad.add (k * 4)).off + 1, none⟩ = some (.int .i64 (l[k].p : Int)) ∧
      w.cell? ⟨(ad.add (k * 4)).block, (ad.add (k * 4)).off + 2, none⟩ = some (.int .i64 (l[k].k : Int)) ∧ w.cell? ⟨(ad.add (k * 4)).block, (ad.add (k * 4)).off + 3, none⟩ = some (.int .i64 (l[k].b : Int)) := by
  rcases h with e | ⟨ad, e, hb, hc⟩
  · have := scells_len l
    rw [e] at this
    simp at this
    omega
  · refine ⟨ad, e, hb, hc _ _ (scells_get l k 0 hk (by omega)), ?_, ?_, ?_⟩
    · rw [← add_lit ad (k * 4) 1 (by omega)]
      exact hc _ _ (scells_get l k 1 hk (by omega))
    · rw [← add_lit ad (k * 4) 2 (by omega)]
      exact hc _ _ (scells_get l k 2 hk (by omega))
    · rw [← add_lit ad (k * 4) 3 (by omega)]
      exact hc _ _ (scells_get l k 3 hk (by omega))
set_option maxRecDepth 100000 in
set_option maxHeartbeats 1000000 in
theorem equalS_yes (A A' : Option Addr) (c c' : Nat) (l : List Scr) (B : Nat) (w : World) (hl : l.length ≤ 9223372036854775807) (h : SR w B A l) (h' : SR w B A' l) :
    Calls Try.prog 35 #[.slice A l.length c, .slice A' l.length c'] w fun e w' => e = .returned (.bool true) ∧ Below w.heap.size w w' := by
  have hne : ((l.length : Int) != (l.length : Int)) = false := by simp
  go_enter Try.func35, Try.ntmps35
  go_wp2_with fail
  go_loopw [5, 13] (fun _ i wr => ∃ k : Nat, k ≤ l.length ∧ i = .int .i64 k ∧ Below w.heap.size w wr ∧ SR wr B A l ∧ SR wr B A' l) (fun _ i _ => l.length - (intOf i).toNat)
  case atStart => exact ⟨0, Nat.zero_le _, rfl, Below.refl _ _, h, h'⟩
  case round =>
    obtain ⟨k, hk, rfl, hb, g, g'⟩ := hrel
    by_cases hlt : k < l.length
    · obtain ⟨ad, hA, -, d0, d1, d2, d3⟩ := g.get k hlt
      obtain ⟨ad', hA', -, f0, f1, f2, f3⟩ := g'.get k hlt
      subst hA hA'
      have hk0 : (0 : Int) ≤ (k : Int) := Int.natCast_nonneg _
      have hk1 : (k : Int) < (l.length : Int) := by omega
      generalize l[k] = x at *
      obtain ⟨xt, xp, xk, xb⟩ := x
      simp only at d0 d1 d2 d3 f0 f1 f2 f3
      have he := eqScr (xt : Int) (xp : Int) (xk : Int) (xb : Int)
      clear h h'
      go_wp2_with fail
      go_region
      go_wp2_with fail
      refine ⟨⟨k + 1, by omega, by go_num, hb.drew, g, g'⟩, by simp [intOf]; omega⟩
    · obtain rfl : k = l.length := by omega
      go_wp2_with fail
      go_ret
      exact ⟨rfl, hb⟩
end Go.Proofs.Ytidddoldkedicaa
