/- slices.Equal of moments, of equal lists. -/
import Derived.Test.YtdcnpbdkhcdinaaMoMath
import Derived.Laws.StructEq
import Derived.RegionTactic
import Derived.Outline
import Derived.WalkKit
namespace Go.Proofs.Ytdcnpbdkhcdinaa
open Go.RowKit

theorem eqMo (a b : Int) (w : World) : (Op.equalIn 10000 38 (.agg #[.int .i64 a, .int .i64 b]) (.agg #[.int .i64 a, .int .i64 b])).run Try.prog w = .ok true w := by
  have u3 := Try.underlying3
  have hS : Try.prog.underlying 38 = some (.struct (Try.prog.fieldsOf 38)) := by kernel_rfl
  have hp : Try.prog.stoodInHeld 38 = false := by kernel_rfl
  rw [show (10000 : Nat) = 9999 + 1 from rfl, run_equalIn_agg w 9999 38 _ _ hS hp]
  simp only [Program.fieldsOf, Try.underlying38]
  go_simp
theorem mos_get {w : World} {B : Nat} {A : Option Addr} {l : List Mo} (h : SR Mo.cells w B A l) (k : Nat) (hk : k < l.length) :
    ∃ ad, A = some ad ∧ ad.block < B ∧ w.cell? (ad.add (k * 2)) = some (.int .i64 l[k].t) ∧ w.cell? ⟨(ad.add (k * 2)).block, (ad.add (k * 2)).off + 1, none⟩ = some (.int .i64 l[k].v) := by
  obtain ⟨ad, e, hb, hc⟩ := SR.get Mo.two (by omega) h k hk
  refine ⟨ad, e, hb, ?_, ?_⟩
  · have := hc 0 _ rfl
    rwa [addr_zero] at this
  · rw [← add_at _ 1 (by omega)]
    exact hc 1 _ rfl
set_option maxRecDepth 100000 in
set_option maxHeartbeats 1000000 in
theorem equalMo_yes (A A' : Option Addr) (c c' : Nat) (l : List Mo) (B : Nat) (w : World) (hl : l.length ≤ 9223372036854775807) (h : SR Mo.cells w B A l) (h' : SR Mo.cells w B A' l) :
    Calls Try.prog 19 #[.slice A l.length c, .slice A' l.length c'] w fun e w' => e = .returned (.bool true) ∧ Below w.heap.size w w' := by
  have hne : ((l.length : Int) != (l.length : Int)) = false := by simp
  go_enter Try.func19, Try.ntmps19
  go_wp2_with fail
  go_loopw [5, 13] (fun _ i wr => ∃ k : Nat, k ≤ l.length ∧ i = .int .i64 k ∧ Below w.heap.size w wr ∧ SR Mo.cells wr B A l ∧ SR Mo.cells wr B A' l) (fun _ i _ => l.length - (intOf i).toNat)
  case atStart => exact ⟨0, Nat.zero_le _, rfl, Below.refl _ _, h, h'⟩
  case round =>
    obtain ⟨k, hk, rfl, hb, g, g'⟩ := hrel
    by_cases hlt : k < l.length
    · obtain ⟨ad, hA, -, d0, d1⟩ := mos_get g k hlt
      obtain ⟨ad', hA', -, f0, f1⟩ := mos_get g' k hlt
      subst hA hA'
      have hk0 : (0 : Int) ≤ (k : Int) := Int.natCast_nonneg _
      have hk1 : (k : Int) < (l.length : Int) := by omega
      generalize l[k] = x at *
      obtain ⟨xt, xv⟩ := x
      simp only at d0 d1 f0 f1
      have he := eqMo xt xv
      clear h h'
      go_wp2_with fail
      go_region
      go_wp2_with fail
      refine ⟨⟨k + 1, by omega, by go_num, hb.drew, g, g'⟩, by simp [intOf]; omega⟩
    · obtain rfl : k = l.length := by omega
      go_wp2_with fail
      go_ret
      exact ⟨rfl, hb⟩
end Go.Proofs.Ytdcnpbdkhcdinaa
