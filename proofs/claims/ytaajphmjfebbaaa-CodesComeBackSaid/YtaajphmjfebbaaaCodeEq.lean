/- bytes.Equal and bytes.Compare. -/
import Derived.Test.YtaajphmjfebbaaaWords
import Derived.Test.YtaajphmjfebbaaaCodesMath
import Derived.WalkKit
import Derived.Outline
import Derived.Handy
import Derived.Lib.Hide
import Derived.Laws.BytesArg
import Derived.Laws.Externs
import GoSem.Extern.BytealgCompare
namespace Go.Proofs.Ytaajphmjfebbaaa
open Go.RowKit

theorem cells_at {w : World} {B : Nat} {ad : Addr} {xs : List Value} (h : Cells w B (some ad) xs) : ∀ j v, xs[j]? = some v → w.cell? (ad.add j) = some v := by
  rcases h with rfl | ⟨a, e, _, hc⟩
  · intro j v hv; simp at hv
  · obtain rfl : ad = a := by injection e
    exact hc
/-- bytes as a string -/
def sb (l : List UInt8) : ByteArray := ⟨l.toArray⟩
theorem str_bytes (l : List UInt8) : strOfNums (l.map fun c => (c.toNat : Int)) = sb l := by
  simp [strOfNums, sb, Function.comp_def]
theorem conv_bytes (A : Option Addr) (c : Nat) (l : List UInt8) (B : Nat) (w : World) (h : BR w B A l) :
    (convert 22 9 (.slice A l.length c)).run Try.prog w = .ok (.string (sb l)) w := by
  cases A with
  | none =>
    have hl : l = [] := by
      rcases h with e | ⟨ad, e, _⟩
      · simpa using e
      · cases e
    subst hl
    exact run_convert_bytes_nil w 22 5 Try.underlying22 Try.underlying5 _ c 9 Try.underlying9
  | some ad =>
    have hc := run_loadCells_list (P := Try.prog) w ad (l.map bv) (cells_at h)
    have e : (l.map bv) = (l.map fun c => (c.toNat : Int)).map (Value.int .u8) := by simp [bv]
    rw [e] at hc
    rw [run_convert_bytes_string w 22 9 5 _ l.length c Try.underlying22 Try.underlying5 Try.underlying9, run_bytesToString w ad l.length c (l.map fun c => (c.toNat : Int)) (by simpa using hc), foldl_push_bytes, ← str_bytes]
    simp [strOfNums, ByteArray.empty, ByteArray.emptyWithCapacity]
    rfl

set_option maxHeartbeats 400000 in
theorem bytesEqual_yes (A A' : Option Addr) (c c' : Nat) (l : List UInt8) (B : Nat) (w : World) (h : BR w B A l) (h' : BR w B A' l) :
    Calls Try.prog 24 #[.slice A l.length c, .slice A' l.length c'] w fun e w' => e = .returned (.bool true) ∧ w = w' := by
  have h1 := conv_bytes A c l B w h
  have h2 := conv_bytes A' c' l B w h'
  generalize sb l = s at *
  go_enter Try.func24, Try.ntmps24
  go_wp2
  go_ret
  exact ⟨ret_bool (by simp), rfl⟩

theorem load_byte (w : World) (a : Addr) (c : UInt8) (h : w.cell? a = some (bv c)) : (load a).run Try.prog w = .ok (bv c) w := by
  simp [h]
theorem load_bytes (w : World) : ∀ (l : List UInt8) (ad : Addr) (acc : ByteArray), (∀ j v, (l.map bv)[j]? = some v → w.cell? (ad.add j) = some v) →
    (Extern.Bytes.loadBytes ad l.length acc).run Try.prog w = .ok ⟨acc.data ++ l.toArray⟩ w
  | [], ad, acc, _ => by simp [Extern.Bytes.loadBytes]
  | c :: l, ad, acc, h => by
    have h0 := h 0 (bv c) (by simp)
    rw [addr_zero] at h0
    have hl := load_byte w ad c h0
    have ih := load_bytes w l (ad.add 1) (acc.push c) (fun j v hv => by
      rw [add_twice, Nat.add_comm]
      exact h (j + 1) v (by simpa using hv))
    show (Extern.Bytes.loadBytes ad (l.length + 1) acc).run Try.prog w = _
    unfold Extern.Bytes.loadBytes
    rw [Sem.run_bind, hl]
    simp only [Result.andThen, bv, Int.toNat_natCast]
    have e : c.toNat.toUInt8 = c := by simp
    rw [e, ih]
    simp [ByteArray.push]
theorem bytes_of (A : Option Addr) (c : Nat) (l : List UInt8) (B : Nat) (w : World) (h : BR w B A l) :
    (Extern.Bytes.bytesOf (.slice A l.length c)).run Try.prog w = .ok (sb l) w := by
  cases A with
  | none =>
    have hl : l = [] := by
      rcases h with e | ⟨ad, e, _⟩
      · simpa using e
      · cases e
    subst hl
    rfl
  | some ad =>
    have := load_bytes w l ad .empty (cells_at h)
    unfold Extern.Bytes.bytesOf
    rw [this]
    simp [sb, ByteArray.empty, ByteArray.emptyWithCapacity]
    rfl
theorem run_compare (A A' : Option Addr) (c c' : Nat) (l l' : List UInt8) (B : Nat) (w : World) (h : BR w B A l) (h' : BR w B A' l') :
    (callFunc 42 #[.slice A l.length c, .slice A' l'.length c']).run Try.prog w = .ok (.value (.int .i64 (Extern.BytealgCompare.cmp (sb l) (sb l')))) w := by
  have hr : (Extern.BytealgCompare.compare #[.slice A l.length c, .slice A' l'.length c']).run Try.prog w = .ok (.int .i64 (Extern.BytealgCompare.cmp (sb l) (sb l'))) w := by
    change Sem.run Try.prog (do
      let x ← Extern.Bytes.bytesOf (.slice A l.length c)
      let y ← Extern.Bytes.bytesOf (.slice A' l'.length c')
      pure (goInt (Extern.BytealgCompare.cmp x y))) w = _
    simp only [Sem.run_bind, bytes_of A c l B w h, bytes_of A' c' l' B w h', Result.andThen, Sem.run_pure, goInt]
  rw [run_callFunc_extern (fn := Try.f42) (e := Extern.BytealgCompare.compare) Try.func42 (by kernel_rfl) (by kernel_rfl) (by kernel_rfl) (by kernel_rfl), hr]
  rfl
set_option maxHeartbeats 400000 in
theorem bytesCompare_any (A A' : Option Addr) (c c' : Nat) (l l' : List UInt8) (B : Nat) (w : World) (h : BR w B A l) (h' : BR w B A' l') :
    Calls Try.prog 26 #[.slice A l.length c, .slice A' l'.length c'] w fun e w' => e = .returned (.int .i64 (Extern.BytealgCompare.cmp (sb l) (sb l'))) ∧ w = w' := by
  have h1 := run_compare A A' c c' l l' B w h h'
  generalize Extern.BytealgCompare.cmp (sb l) (sb l') = z at *
  go_enter Try.func26, Try.ntmps26
  go_wp2
  go_ret
  exact ⟨rfl, rfl⟩
theorem cmp_six (a0 a1 a2 a3 a4 a5 b0 b1 b2 b3 b4 b5 : UInt8) :
    Extern.BytealgCompare.cmp (sb [a0, a1, a2, a3, a4, a5]) (sb [b0, b1, b2, b3, b4, b5]) =
      if a0 ≠ b0 then (if a0 < b0 then -1 else 1) else if a1 ≠ b1 then (if a1 < b1 then -1 else 1) else if a2 ≠ b2 then (if a2 < b2 then -1 else 1) else
      if a3 ≠ b3 then (if a3 < b3 then -1 else 1) else if a4 ≠ b4 then (if a4 < b4 then -1 else 1) else if a5 ≠ b5 then (if a5 < b5 then -1 else 1) else 0 := by
  unfold Extern.BytealgCompare.cmp
  have hr : List.range (min (sb [a0, a1, a2, a3, a4, a5]).size (sb [b0, b1, b2, b3, b4, b5]).size) = [0, 1, 2, 3, 4, 5] := rfl
  have ga : ∀ x0 x1 x2 x3 x4 x5 : UInt8, (sb [x0, x1, x2, x3, x4, x5])[0]! = x0 ∧ (sb [x0, x1, x2, x3, x4, x5])[1]! = x1 ∧ (sb [x0, x1, x2, x3, x4, x5])[2]! = x2 ∧ (sb [x0, x1, x2, x3, x4, x5])[3]! = x3 ∧ (sb [x0, x1, x2, x3, x4, x5])[4]! = x4 ∧ (sb [x0, x1, x2, x3, x4, x5])[5]! = x5 := fun _ _ _ _ _ _ => ⟨rfl, rfl, rfl, rfl, rfl, rfl⟩
  rw [hr]
  obtain ⟨u0, u1, u2, u3, u4, u5⟩ := ga a0 a1 a2 a3 a4 a5
  obtain ⟨v0, v1, v2, v3, v4, v5⟩ := ga b0 b1 b2 b3 b4 b5
  have hs : (sb [a0, a1, a2, a3, a4, a5]).size = (sb [b0, b1, b2, b3, b4, b5]).size := rfl
  clear ga hr
  generalize sb [a0, a1, a2, a3, a4, a5] = X at *
  generalize sb [b0, b1, b2, b3, b4, b5] = Y at *
  by_cases h0 : a0 = b0
  · by_cases h1 : a1 = b1
    · by_cases h2 : a2 = b2
      · by_cases h3 : a3 = b3
        · by_cases h4 : a4 = b4
          · by_cases h5 : a5 = b5
            · simp [List.find?, u0, u1, u2, u3, u4, u5, v0, v1, v2, v3, v4, v5, h0, h1, h2, h3, h4, h5, hs]
            · have e : (a5 != b5) = true := by simpa using h5
              simp [List.find?, u0, u1, u2, u3, u4, u5, v0, v1, v2, v3, v4, v5, h0, h1, h2, h3, h4, h5, e]
          · have e : (a4 != b4) = true := by simpa using h4
            simp [List.find?, u0, u1, u2, u3, u4, v0, v1, v2, v3, v4, h0, h1, h2, h3, h4, e]
        · have e : (a3 != b3) = true := by simpa using h3
          simp [List.find?, u0, u1, u2, u3, v0, v1, v2, v3, h0, h1, h2, h3, e]
      · have e : (a2 != b2) = true := by simpa using h2
        simp [List.find?, u0, u1, u2, v0, v1, v2, h0, h1, h2, e]
    · have e : (a1 != b1) = true := by simpa using h1
      simp [List.find?, u0, u1, v0, v1, h0, h1, e]
  · have e : (a0 != b0) = true := by simpa using h0
    simp [List.find?, u0, v0, h0, e]
/-- codes are in the order of their times -/
theorem cmp_code (t u : Nat) (ht : t ≤ 1000000000000) (hu : u ≤ 1000000000000) : Extern.BytealgCompare.cmp (sb (codeB t)) (sb (codeB u)) < 0 ↔ t < u := by
  rw [← codeN_lt_iff t u]
  have h1 := codeN_lt t ht
  have h2 := codeN_lt u hu
  unfold codeB
  rw [cmp_six]
  generalize codeN t = n at *
  generalize codeN u = m at *
  simp only [ne_eq, ← UInt8.toNat_inj, UInt8.lt_iff_toNat_lt, byteN_toNat]
  constructor
  · intro h
    repeat' split at h
    all_goals omega
  · intro h
    repeat' split
    all_goals omega
end Go.Proofs.Ytaajphmjfebbaaa
