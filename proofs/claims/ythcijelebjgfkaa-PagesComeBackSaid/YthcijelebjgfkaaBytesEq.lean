/- bytes.Equal, both answers. -/
import Derived.Test.YthcijelebjgfkaaWords
import Derived.WalkKit
import Derived.Outline
import Derived.Handy
import Derived.Lib.Hide
import Derived.Laws.BytesArg
namespace Go.Proofs.Ythcijelebjgfkaa
open Go.RowKit

theorem cells_at {w : World} {B : Nat} {ad : Addr} {xs : List Value} (h : Cells w B (some ad) xs) : ∀ j v, xs[j]? = some v → w.cell? (ad.add j) = some v := by
  rcases h with rfl | ⟨a, e, _, hc⟩
  · intro j v hv; simp at hv
  · obtain rfl : ad = a := by injection e
    exact hc
/-- bytes as a string -/
def sb (l : List UInt8) : ByteArray := ⟨l.toArray⟩
theorem str_bytes (l : List UInt8) : strOfNums (l.map fun c => (c.toNat : Int)) = sb l := by
  simp [strOfNums, sb, Function.comp_def]
theorem conv_bytes (A : Option Addr) (c : Nat) (l : List UInt8) (B : Nat) (w : World) (h : BR w B A l) :
    (convert 22 9 (.slice A l.length c)).run Try.prog w = .ok (.string (sb l)) w := by
  cases A with
  | none =>
    have hl : l = [] := by
      rcases h with e | ⟨ad, e, _⟩
      · simpa using e
      · cases e
    subst hl
    exact run_convert_bytes_nil w 22 5 Try.underlying22 Try.underlying5 _ c 9 Try.underlying9
  | some ad =>
    have hc := run_loadCells_list (P := Try.prog) w ad (l.map bv) (cells_at h)
    have e : (l.map bv) = (l.map fun c => (c.toNat : Int)).map (Value.int .u8) := by simp [bv]
    rw [e] at hc
    rw [run_convert_bytes_string w 22 9 5 _ l.length c Try.underlying22 Try.underlying5 Try.underlying9, run_bytesToString w ad l.length c (l.map fun c => (c.toNat : Int)) (by simpa using hc), foldl_push_bytes, ← str_bytes]
    simp [strOfNums, ByteArray.empty, ByteArray.emptyWithCapacity]
    rfl

theorem sb_ne {a b : List UInt8} (h : ¬ a = b) : ((sb a).toList == (sb b).toList) = false := by
  rw [ByteArray.toList_eq, ByteArray.toList_eq]
  simpa [sb] using h
set_option maxHeartbeats 400000 in
theorem bytesEqual_any (A A' : Option Addr) (c c' : Nat) (l l' : List UInt8) (B : Nat) (w : World) (h : BR w B A l) (h' : BR w B A' l') :
    Calls Try.prog 21 #[.slice A l.length c, .slice A' l'.length c'] w fun e w' => e = .returned (.bool (decide (l = l'))) ∧ w = w' := by
  have h1 := conv_bytes A c l B w h
  have h2 := conv_bytes A' c' l' B w h'
  by_cases hll : l = l'
  · subst hll
    have HD : Hid (decide (l = l) = true) := Lib.hid (by simp)
    generalize sb l = s at *
    go_enter Try.func21, Try.ntmps21
    go_wp2
    go_ret
    exact ⟨by exact ret_bool (by simp), rfl⟩
  · have HD : Hid (decide (l = l') = false) := Lib.hid (decide_eq_false hll)
    have hs := sb_ne hll
    generalize sb l = s at *
    generalize sb l' = t at *
    clear hll
    go_enter Try.func21, Try.ntmps21
    go_wp2
    go_ret
    exact ⟨by rw [HD.out]; first | done | rfl, rfl⟩
end Go.Proofs.Ythcijelebjgfkaa
