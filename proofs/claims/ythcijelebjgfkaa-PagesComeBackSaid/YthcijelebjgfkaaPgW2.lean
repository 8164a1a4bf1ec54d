/- pages: filling, free pages, numbers of two bytes. -/
import Derived.Test.YthcijelebjgfkaaPgW
import Derived.Lib.Bytealg
import Derived.Deep.Draws
namespace Go.Proofs.Ythcijelebjgfkaa
open Go.RowKit

theorem Own.at {w : World} {base g n cap : Nat} {l : List UInt8} (h : Own w base (.slice (some ⟨g, 0, none⟩) n cap) l) : n = l.length ∧ base ≤ g ∧ RowY w g cap l := by
  rcases h.2 with ⟨e, _⟩ | ⟨g', cap', cur, e, hb, hg, h1, h2, h3, h4⟩
  · injection e with e1 e2 e3; cases e1
  · injection e with e1 e2 e3
    injection e1 with e1
    injection e1 with e1
    subst e1 e2 e3
    refine ⟨rfl, hb, cur, hg, h1, h2, ?_, ?_⟩
    · rw [Nat.mul_one] at h3; exact h3
    · rw [Nat.mul_one] at h4; exact h4
theorem set_fill (n k : Nat) (h : k < n) : (List.replicate k (255 : UInt8) ++ List.replicate (n - k) 0).set k 255 = List.replicate (k + 1) 255 ++ List.replicate (n - (k + 1)) 0 := by
  rw [List.set_append_right _ _ (by simp)]
  simp only [List.length_replicate, Nat.sub_self]
  obtain ⟨m, hm⟩ : ∃ m, n - k = m + 1 := ⟨n - k - 1, by omega⟩
  rw [hm, show n - (k + 1) = m by omega, List.replicate_succ, List.set_cons_zero, List.replicate_succ', List.append_assoc]
  rfl
set_option maxHeartbeats 1000000 in
set_option maxRecDepth 100000 in
theorem filled_any (n : Nat) (w : World) (hn : n ≤ 300000) :
    Calls Try.prog 37 #[.int .i64 n] w fun e w' => ∃ g, e = .returned (.slice (some ⟨g, 0, none⟩) n n) ∧ w.heap.size ≤ g ∧ RowY w' g n (List.replicate n 255) ∧ Below w.heap.size w w' := by
  obtain ⟨_, i0, z0, hi, hz0, hz1, hz2, hz3, -⟩ := elem8
  have hz00 : z0 = .int .u8 0 := by
    obtain ⟨i1, a1, a2, a3, a4⟩ := info_parts info5
    rw [hi] at a1
    injection a1 with a1
    subst a1
    rw [hz0] at a2
    injection a2
  subst hz00
  have HZ := Lib.hid hz0
  have HZ1 := Lib.hid hz1
  have HZ2 := Lib.hid hz2
  have HI := Lib.hid hi
  clear hz0 hz1 hz2 hz3 hi
  go_enter Try.func37, Try.ntmps37
  go_wp2_with (first | (at_make; refine wpList_make_full _ rfl _ _ 22 rfl w.heap.size 5 i0 _ 1 Try.underlying22 HI.out HZ.out HZ1.out .i64 .i64 _ _ n rfl rfl rfl rfl (by rw [HZ2.out]; omega) (by unfold maxLen; omega) (Nat.le_refl _) ?_; intro w2 hown2 hgrow2) | fail)
  have ho : Own w2 w.heap.size (.slice (some ⟨w.heap.size, 0, none⟩) n n) (List.replicate n 0) := by
    unfold Own
    have e : (madeCells (Value.int IntKind.u8 0).cells (n * 1)).toList = (List.replicate n (0 : UInt8)).map bv := by
      show (madeCells #[Value.int IntKind.u8 0] (n * 1)).toList = _
      rw [toList_madeCells_one, Nat.mul_one, List.map_replicate]
      rfl
    rw [← e, List.length_replicate]
    exact hown2
  have hr0 := (Own.at ho).2.2
  have hb0 : Below w.heap.size w w2 := (Below.refl _ _).grown hgrow2 (Nat.le_refl _) (fun k hk => by cases hk)
  clear hown2 hgrow2 ho HZ HZ1 HZ2 HI
  go_wp2_with fail
  go_loopw [4] (fun i wr => ∃ k : Nat, k ≤ n ∧ i = .int .i64 k ∧ RowY wr w.heap.size n (List.replicate k 255 ++ List.replicate (n - k) 0) ∧ Below w.heap.size w wr) (fun i _ => n - (intOf i).toNat)
  case atStart => exact ⟨0, Nat.zero_le _, by go_num, by simpa using hr0, hb0⟩
  case round =>
    obtain ⟨k, hk, rfl, hr, hb⟩ := hrel
    by_cases hlt : k < n
    · have hf := hr.free k
      have hc := hr.cell k (by simp; omega)
      have HS := Lib.hid (hr.set k 255)
      have HF := Lib.hid (set_fill n k hlt)
      clear hr hr0
      go_wp2_with fail
      go_roundw
      case rel =>
        refine ⟨k + 1, by omega, by go_num, ?_, hb.setCell (Nat.le_refl _) _⟩
        rw [← HF.out]
        exact HS.out
      case measure => simp [intOf]; omega
    · obtain rfl : n = k := by omega
      go_wp2_with fail
      go_ret
      refine ⟨w.heap.size, rfl, Nat.le_refl _, ?_, hb⟩
      simpa using hr
theorem cells_at2 {w : World} {B : Nat} {ad : Addr} {l : List UInt8} (h : BR w B (some ad) l) : ∀ j v, (l.map bv)[j]? = some v → w.cell? (ad.add j) = some v := cells_at h
theorem load_bytes (w : World) : ∀ (l : List UInt8) (ad : Addr) (acc : ByteArray), (∀ j v, (l.map bv)[j]? = some v → w.cell? (ad.add j) = some v) →
    (Extern.Bytes.loadBytes ad l.length acc).run Try.prog w = .ok ⟨acc.data ++ l.toArray⟩ w
  | [], ad, acc, _ => by simp [Extern.Bytes.loadBytes]
  | c :: l, ad, acc, h => by
    have h0 := h 0 (bv c) (by simp)
    rw [addr_zero] at h0
    have hl : (load ad).run Try.prog w = .ok (bv c) w := by simp [h0]
    have ih := load_bytes w l (ad.add 1) (acc.push c) (fun j v hv => by
      rw [add_twice, Nat.add_comm]
      exact h (j + 1) v (by simpa using hv))
    show (Extern.Bytes.loadBytes ad (l.length + 1) acc).run Try.prog w = _
    unfold Extern.Bytes.loadBytes
    rw [Sem.run_bind, hl]
    simp only [Result.andThen, bv, Int.toNat_natCast]
    have e : c.toNat.toUInt8 = c := by simp
    rw [e, ih]
    simp [ByteArray.push]
theorem run_count (A : Option Addr) (c : Nat) (l : List UInt8) (B : Nat) (w : World) (h : BR w B A l) :
    (callFunc 66 #[.slice A l.length c, .int .u8 255]).run Try.prog w = .ok (.value (.int .i64 (Lib.countByte l 255 : Nat))) w := by
  have hb : (Extern.Bytes.bytesOf (.slice A l.length c)).run Try.prog w = .ok (sb l) w := by
    cases A with
    | none =>
      have hl : l = [] := by
        rcases h with e | ⟨ad, e, _⟩
        · simpa using e
        · cases e
      subst hl
      rfl
    | some ad =>
      have := load_bytes w l ad .empty (cells_at h)
      unfold Extern.Bytes.bytesOf
      rw [this]
      simp [sb, ByteArray.empty, ByteArray.emptyWithCapacity]
      rfl
  have hs := Lib.run_countString (P := Try.prog) (sb l) 255 w
  have hr : (Extern.BytealgCount.count #[.slice A l.length c, .int .u8 255]).run Try.prog w = .ok (.int .i64 (Lib.countByte l 255 : Nat)) w := by
    change Sem.run Try.prog (do
      let b ← Extern.Bytes.bytesOf (.slice A l.length c)
      let c' ← Extern.Bytes.asByte (.int .u8 255)
      pure (goInt (b.foldl (fun n x => if x == c' then n + 1 else n) (0 : Nat)))) w = _
    change Sem.run Try.prog (do
      let b ← Extern.Bytes.bytesOf (.string (sb l))
      let c' ← Extern.Bytes.asByte (.int .u8 255)
      pure (goInt (b.foldl (fun n x => if x == c' then n + 1 else n) (0 : Nat)))) w = _ at hs
    simp only [Extern.Bytes.bytesOf, Sem.run_bind, Sem.run_pure, Result.andThen] at hs ⊢
    unfold Extern.Bytes.bytesOf at hb
    rw [hb]
    exact hs
  rw [run_callFunc_extern (fn := Try.f66) (e := Extern.BytealgCount.count) Try.func66 (by kernel_rfl) (by kernel_rfl) (by kernel_rfl) (by kernel_rfl), hr]
  rfl
theorem count_free (l : List UInt8) : ((Lib.countByte l 255 : Int) == (l.length : Int)) = freeB l := by
  unfold Lib.countByte freeB
  rw [Bool.eq_iff_iff]
  simp only [beq_iff_eq, List.all_eq_true]
  constructor
  · intro h x hx
    have h2 : l.count 255 = l.length := by omega
    exact (List.count_eq_length.1 h2 x hx).symm
  · intro h
    have := List.count_eq_length.2 (fun b hb => (h b hb).symm)
    omega
set_option maxHeartbeats 400000 in
theorem count_any (A : Option Addr) (c : Nat) (l : List UInt8) (B : Nat) (b2 : Nat) (w : World) (h : BR w B A l) (hc : w.cell? ⟨b2, 0, none⟩ = some (.int .u8 255)) :
    Calls Try.prog 63 #[.slice A l.length c, .slice (some ⟨b2, 0, none⟩) 1 1] w fun e w' => e = .returned (.int .i64 (Lib.countByte l 255 : Nat)) ∧ w = w' := by
  have hr := run_count A c l B w h
  clear h
  generalize Lib.countByte l 255 = z at *
  go_enter Try.func63, Try.ntmps63
  go_wp2
  go_ret
  exact ⟨rfl, rfl⟩
set_option maxHeartbeats 400000 in
theorem isFree_any (A : Option Addr) (c : Nat) (l : List UInt8) (B : Nat) (w : World) (hB : B ≤ w.heap.size) (h : BR w B A l) :
    Calls Try.prog 57 #[.slice A l.length c] w fun e w' => e = .returned (.bool (freeB l)) ∧ Below w.heap.size w w' := by
  have HC := Lib.hid (fun (o : Obj) (hc : (w.alloc o).cell? ⟨w.heap.size, 0, none⟩ = some (.int .u8 255)) => count_any A c l w.heap.size w.heap.size (w.alloc o) ((h.lift hB).below ((Below.refl _ _).alloc (Nat.le_refl _) o)) hc)
  have HF := Lib.hid (count_free l)
  have hk : Lib.countByte l 255 ≤ l.length := List.count_le_length
  clear h
  generalize Lib.countByte l 255 = z at *
  go_enter Try.func57, Try.ntmps57
  go_wp2_with (first | (go_at_call 63; refine (HC.out _ (by simp)).mono ?_; rintro e w' ⟨rfl, rfl⟩) | fail)
  go_ret
  exact ⟨ret_bool HF.out, (Below.refl _ _).alloc (Nat.le_refl _) _⟩
set_option maxHeartbeats 400000 in
theorem allSet_any (A : Option Addr) (c : Nat) (l : List UInt8) (B : Nat) (w : World) (hl : l.length ≤ 9223372036854775807) (h : BR w B A l) :
    Calls Try.prog 59 #[.slice A l.length c] w fun e w' => e = .returned (.bool (freeB l)) ∧ w = w' := by
  obtain ⟨r, hr⟩ : ∃ r, r = freeB l := ⟨_, rfl⟩
  rw [← hr]
  have HR := Lib.hid hr
  clear hr
  go_enter Try.func59, Try.ntmps59
  go_wp2_with fail
  go_loop [3] (fun i => ∃ k : Nat, k ≤ l.length ∧ i = .int .i64 k ∧ ∀ j (hj : j < l.length), j < k → (l[j] == 255) = true) (fun i => l.length - (intOf i).toNat)
  case atStart => exact ⟨0, Nat.zero_le _, rfl, fun j _ h => absurd h (by omega)⟩
  case round =>
    obtain ⟨k, hk, rfl, hok⟩ := hrel
    by_cases hlt : k < l.length
    · obtain ⟨ad, rfl, _, hc⟩ := h.get k hlt
      by_cases h5 : l[k] = 255
      · have HOK : Hid (∀ j (hj : j < l.length), j < k + 1 → (l[j] == 255) = true) := Lib.hid (fun j hj hjk => by
          by_cases e : j = k
          · subst e; simp [h5]
          · exact hok j hj (by omega))
        have hcc : ((l[k].toNat : Int) != 255) = false := by rw [h5]; rfl
        clear hok h5
        go_wp2_with fail
        go_round
        case rel => exact ⟨k + 1, by omega, by go_num, HOK.out⟩
        case measure => simp [intOf]; omega
      · have hcc : ((l[k].toNat : Int) != 255) = true := by
          have : l[k].toNat ≠ 255 := fun e => h5 (UInt8.toNat_inj.1 e)
          simp; omega
        have HRF : Hid (r = false) := Lib.hid (by
          rw [HR.out]
          unfold freeB
          rw [Bool.eq_false_iff]
          intro ha
          have := List.all_eq_true.1 ha _ (List.getElem_mem hlt)
          exact h5 (by simpa using this))
        clear hok h5
        go_wp2_with fail
        go_ret
        exact ⟨ret_bool HRF.out.symm, rfl⟩
    · have HRF : Hid (r = true) := Lib.hid (by
        rw [HR.out]
        unfold freeB
        rw [List.all_eq_true]
        intro x hx
        obtain ⟨j, hj, rfl⟩ := List.getElem_of_mem hx
        exact hok j hj (by omega))
      clear hok
      go_wp2_with fail
      go_ret
      exact ⟨ret_bool HRF.out.symm, rfl⟩
theorem bigN_two (l : List UInt8) (k : Nat) (h : k + 1 < l.length) : bigN ((l.drop k).take 2) = l[k].toNat * 256 + l[k + 1].toNat := by
  have e : (l.drop k).take 2 = [l[k], l[k + 1]] := by
    rw [List.drop_eq_getElem_cons (by omega), List.drop_eq_getElem_cons h]
    rfl
  rw [e]
  simp [bigN]
set_option maxHeartbeats 400000 in
theorem rtwo4_any (A : Option Addr) (c : Nat) (l : List UInt8) (k : Nat) (B : Nat) (w : World) (hl : l.length ≤ 9223372036854775807) (hk : k + 1 < l.length) (h : BR w B A l) :
    Calls Try.prog 60 #[.slice A l.length c, .int .i64 k] w fun e w' => e = .returned (.int .i64 (bigN ((l.drop k).take 2) : Nat)) ∧ ∃ d, w' = w.drewN d := by
  obtain ⟨ad, rfl, _, hc⟩ := h.get k (by omega)
  obtain ⟨ad', e, _, hc'⟩ := h.get (k + 1) hk
  obtain rfl : ad = ad' := by injection e
  have b1 : l[k].toNat ≤ 255 := by have := l[k].toNat_lt; omega
  have b2 : l[k + 1].toNat ≤ 255 := by have := l[k + 1].toNat_lt; omega
  have HB := Lib.hid (bigN_two l k hk)
  clear h e
  generalize l[k].toNat = x at *
  generalize l[k + 1].toNat = y at *
  have hk0 : (k : Int) + 1 ≤ 9223372036854775807 := by omega
  have hc2 : w.cell? ⟨ad.block, ad.off + (k + 1), none⟩ = some (.int .u8 (y : Int)) := by
    have e2 : ad.add (k + 1) = ⟨ad.block, ad.off + (k + 1), none⟩ := by simp [Addr.add]
    rw [← e2]; exact hc'
  clear hc'
  go_enter Try.func60, Try.ntmps60
  go_wp2_with fail
  go_region
  go_wp2_with fail
  go_ret
  exact ⟨ret_int (by rw [HB.out]; omega), _, rfl⟩
end Go.Proofs.Ythcijelebjgfkaa
