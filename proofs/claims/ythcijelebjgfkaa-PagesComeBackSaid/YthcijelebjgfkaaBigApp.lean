/- a number written in bytes behind a row of the call's own. -/
import Derived.Test.YthcijelebjgfkaaAppend
import Derived.RegionTactic
import Derived.Deep.QuietTactic
import Derived.BigQuiet
namespace Go.Proofs.Ythcijelebjgfkaa
open Go.RowKit

theorem info5 : (Try.prog.info? 5).map (fun i => (i.zero, i.size, i.bytes)) = some (some (.int .u8 0), 1, 1) := by kernel_rfl
theorem elem8 : Elem 22 5 1 1 := by
  obtain ⟨i, h1, h2, h3, h4⟩ := info_parts info5
  exact ⟨Try.underlying22, i, _, h1, h2, h3, h4, rfl, by omega⟩
theorem Next.refl (w : World) (v : Value) : Next w w v v := ⟨World.grownBy.refl w _, .inl rfl⟩
theorem Next.trans {a b c : World} {u v x : Value} (h1 : Next a b u v) (h2 : Next b c v x) : Next a c u x := by
  refine ⟨⟨h2.1.os.trans h1.1.os, h2.1.tape.trans h1.1.tape, h2.1.output.trans h1.1.output, Nat.le_trans h1.1.size h2.1.size, fun k hk hne => ?_⟩, ?_⟩
  · refine (h2.1.block k (Nat.lt_of_lt_of_le hk h1.1.size) fun e => ?_).trans (h1.1.block k hk hne)
    rcases h1.2 with e1 | ⟨g, e1, hg⟩
    · exact hne (e.trans e1)
    · rw [e1] at e
      injection e with e
      omega
  · rcases h2.2 with e | ⟨g, e, hg⟩
    · rw [e]; exact h1.2
    · exact .inr ⟨g, e, Nat.le_trans h1.1.size hg⟩
theorem Next.alloc (w : World) (o : Obj) (v : Value) : Next w (w.alloc o) v v := by
  have h := (Below.refl w.heap.size w).alloc (Nat.le_refl _) o
  exact ⟨⟨h.os, h.tape, h.output, h.size, fun k hk _ => h.block k hk⟩, .inl rfl⟩

/-- a number in so many bytes, the greatest one first -/
def bigE (n : Nat) : Nat → List UInt8
  | 0 => []
  | m + 1 => UInt8.ofNat (n / 256 ^ m) :: bigE n m
theorem bigE_len (n : Nat) : ∀ m, (bigE n m).length = m
  | 0 => rfl
  | m + 1 => by simp [bigE, bigE_len n m]

theorem shr_byte (n k : Nat) : (n : Int) / 2 ^ (8 * k) % 256 = ((UInt8.ofNat (n / 256 ^ k)).toNat : Int) := by
  have e : (2 : Nat) ^ (8 * k) = 256 ^ k := by rw [Nat.pow_mul]
  rw [show ((2 : Int) ^ (8 * k)) = ((256 ^ k : Nat) : Int) by rw [← e, Int.natCast_pow]; rfl]
  have h : (UInt8.ofNat (n / 256 ^ k)).toNat = n / 256 ^ k % 256 := UInt8.toNat_ofNat'
  rw [h]
  generalize 256 ^ k = q
  rw [Int.natCast_emod, Int.natCast_ediv]
  rfl
set_option maxRecDepth 100000 in
set_option maxHeartbeats 1000000 in
theorem append_any (base : Nat) (v : Value) (l : List UInt8) (n m : Nat) (w : World) (_hn : n < 9223372036854775808) (hm : m ≤ 8) (hl : l.length ≤ 1000000) (hbase : base ≤ w.heap.size) (h : Own w base v l) :
    Calls Try.prog 56 #[v, .int .i64 n, .int .i64 m] w fun e w' => ∃ v', e = .returned v' ∧ Own w' base v' (l ++ bigE n m) ∧ Next w w' v v' := by
  go_enter Try.func56, Try.ntmps56
  go_wp2_with fail
  go_loopw [0, 7] (fun u i wr => ∃ (k : Nat) (X : List UInt8), k ≤ m ∧ i = .int .i64 ((k : Int) - 1) ∧ X.length + k = m ∧ bigE n m = X ++ bigE n k ∧ Own wr base u (l ++ X) ∧ Next w wr v u) (fun _ i _ => (intOf i + 1).toNat)
  case atStart => exact ⟨m, [], Nat.le_refl _, by go_num, by simp, rfl, by simpa using h, Next.refl _ _⟩
  case round =>
    obtain ⟨k, X, hk, rfl, hX, hE, hown, hnx⟩ := hrel
    rcases k with _ | k
    · go_wp2_with fail
      go_ret
      have : bigE n m = X := by simpa [bigE] using hE
      exact ⟨_, rfl, by rw [this]; exact hown, hnx⟩
    · have hXl : (l ++ X).length ≤ 1000008 := by simp; omega
      have HE := Lib.hid hE
      have HX := Lib.hid hX
      clear hE hX h
      generalize hL : l ++ X = L at *
      have HL := Lib.hid hL
      clear hL
      have hz := hnx.1.size
      have hk8 : k ≤ 7 := by omega
      obtain ⟨t, ht⟩ : ∃ t : UInt8, t = UInt8.ofNat (n / 256 ^ k) := ⟨_, rfl⟩
      have HT := Lib.hid ht
      have hval : (n : Int) / 2 ^ (8 * k) % 256 = (t.toNat : Int) := by
        rw [ht]
        exact shr_byte n k
      have HV := Lib.hid hval
      clear hval ht
      go_wp2_with (first | (at_builtin; refine wpList_app _ rfl (.tmp 14) (.tmp 20) 22 5 1 1 rfl elem8 base u0 L.length (L.map bv) rfl (World.ownsRow.alloc hown _) (wr.heap.size + 1) _ 1 1 ([t].map bv) rfl rfl (Cells.fresh wr _ 5 _ _ (by rw [HV.out]; rfl)) (bv_one _) (by unfold maxLen; omega) (by omega) (by simp; omega) ?_; intro v3 w3 hown3 hgrow3 hat3) | fail)
      go_roundw
      case rel =>
        have HTT : t = UInt8.ofNat (n / 256 ^ k) := HT.out
        refine ⟨k, X ++ [t], by omega, by go_num, by have := HX.out; simp; omega, ?_, ?_, ?_⟩
        · rw [HE.out, HTT]; simp [bigE]
        · rw [← List.append_assoc, HL.out]; exact Own.of (b := [t]) hown3 rfl
        · refine hnx.trans ((Next.alloc wr _ u0).trans ⟨hgrow3, ?_⟩)
          rcases hat3 with e | e
          · exact .inl e
          · exact .inr ⟨_, e, Nat.le_refl _⟩
      case measure => simp [intOf]
end Go.Proofs.Ythcijelebjgfkaa
