/- limits and samples in memory. -/
import Derived.Test.YtldfommfaegdiaaLimMath
import Derived.Test.YtldfommfaegdiaaSRow
namespace Go.Proofs.Ytldfommfaegdiaa
open Go.RowKit

def Lim.cells (x : Lim) : List Value := [.string x.p, .int .i64 x.ll, .int .i64 x.lo, .int .i64 x.hi, .int .i64 x.hh, .int .i64 x.ct, .int .i64 x.cl, .int .i64 x.bk]
def limC (p : ByteArray) (ll lo hi hh ct cl bk : Int) : Array Value := #[.string p, .int .i64 ll, .int .i64 lo, .int .i64 hi, .int .i64 hh, .int .i64 ct, .int .i64 cl, .int .i64 bk]
def limV (p : ByteArray) (ll lo hi hh ct cl bk : Int) : Value := .agg #[.string p, .int .i64 ll, .int .i64 lo, .int .i64 hi, .int .i64 hh, .int .i64 ct, .int .i64 cl, .int .i64 bk]
theorem Lim.eight (x : Lim) : x.cells.length = 8 := rfl
def Sam.cells (x : Sam) : List Value := [.int .i64 x.t, .string x.p, .int .i64 x.v]
theorem Sam.three (x : Sam) : x.cells.length = 3 := rfl
theorem lims_get {w : World} {B : Nat} {A : Option Addr} {l : List Lim} (h : SR Lim.cells w B A l) (k : Nat) (hk : k < l.length) :
    ∃ ad, A = some ad ∧ ad.block < B ∧ w.cell? (ad.add (k * 8)) = some (.string l[k].p) ∧ w.cell? ⟨(ad.add (k * 8)).block, (ad.add (k * 8)).off + 1, none⟩ = some (.int .i64 l[k].ll) ∧ w.cell? ⟨(ad.add (k * 8)).block, (ad.add (k * 8)).off + 2, none⟩ = some (.int .i64 l[k].lo) ∧ w.cell? ⟨(ad.add (k * 8)).block, (ad.add (k * 8)).off + 3, none⟩ = some (.int .i64 l[k].hi) ∧ w.cell? ⟨(ad.add (k * 8)).block, (ad.add (k * 8)).off + 4, none⟩ = some (.int .i64 l[k].hh) ∧ w.cell? ⟨(ad.add (k * 8)).block, (ad.add (k * 8)).off + 5, none⟩ = some (.int .i64 l[k].ct) ∧ w.cell? ⟨(ad.add (k * 8)).block, (ad.add (k * 8)).off + 6, none⟩ = some (.int .i64 l[k].cl) ∧ w.cell? ⟨(ad.add (k * 8)).block, (ad.add (k * 8)).off + 7, none⟩ = some (.int .i64 l[k].bk) := by
  obtain ⟨ad, e, hb, hc⟩ := SR.get Lim.eight (by omega) h k hk
  refine ⟨ad, e, hb, ?_, ?_, ?_, ?_, ?_, ?_, ?_, ?_⟩
  · have := hc 0 _ rfl
    rwa [addr_zero] at this
  · rw [← add_at _ 1 (by omega)]; exact hc 1 _ rfl
  · rw [← add_at _ 2 (by omega)]; exact hc 2 _ rfl
  · rw [← add_at _ 3 (by omega)]; exact hc 3 _ rfl
  · rw [← add_at _ 4 (by omega)]; exact hc 4 _ rfl
  · rw [← add_at _ 5 (by omega)]; exact hc 5 _ rfl
  · rw [← add_at _ 6 (by omega)]; exact hc 6 _ rfl
  · rw [← add_at _ 7 (by omega)]; exact hc 7 _ rfl
theorem sams_get {w : World} {B : Nat} {A : Option Addr} {l : List Sam} (h : SR Sam.cells w B A l) (k : Nat) (hk : k < l.length) :
    ∃ ad, A = some ad ∧ ad.block < B ∧ w.cell? (ad.add (k * 3)) = some (.int .i64 l[k].t) ∧ w.cell? ⟨(ad.add (k * 3)).block, (ad.add (k * 3)).off + 1, none⟩ = some (.string l[k].p) ∧ w.cell? ⟨(ad.add (k * 3)).block, (ad.add (k * 3)).off + 2, none⟩ = some (.int .i64 l[k].v) := by
  obtain ⟨ad, e, hb, hc⟩ := SR.get Sam.three (by omega) h k hk
  refine ⟨ad, e, hb, ?_, ?_, ?_⟩
  · have := hc 0 _ rfl
    rwa [addr_zero] at this
  · rw [← add_at _ 1 (by omega)]; exact hc 1 _ rfl
  · rw [← add_at _ 2 (by omega)]; exact hc 2 _ rfl
end Go.Proofs.Ytldfommfaegdiaa
